
import Derived.Test.YthefcmhmcgjcoaaRgK
import Derived.Test.YthefcmhmcgjcoaaPgO
import Derived.Deep.CutRange
import Derived.Deep.CutBlock
namespace Go.Proofs.Ythefcmhmcgjcoaa
open Go.RowKit Go.Shelf
set_option linter.unusedVariables false
set_option linter.unusedSimpArgs false

/-! PageRuns, walked. -/
theorem own_seg22 {w : World} {base n g cap : Nat} {zs : List Int} (h : w.ownsRow base 5 1 (.slice (some ⟨g, 0, none⟩) n cap) n (zs.map (Value.int .u8))) (hb : ∀ y ∈ zs, 0 ≤ y ∧ y ≤ 255) : Seg w (some ⟨g, 0, none⟩) zs := by
  obtain ⟨_, a, c, hv, hs, _⟩ := own_seg h (by decide) hb
  simp only [Value.slice.injEq] at hv
  obtain ⟨rfl, _, rfl⟩ := hv
  exact hs
theorem law_l22 {w : World} (ba : Option Addr) (L : List Int) (n bc : Nat) (hs : Seg w ba L) (hn : L.length = n) (hnil : ba = none → bc = 0) (hl : n ≤ 140737488351232) :
    Hid (∃ (v1 : Value) (W1 : World) (gl cl : Nat) (W2 : World),
      (Builtin.append_ #[22, 22] 22 #[.slice none 0 0, .slice ba n bc]).run Try.prog w = .ok v1 W1 ∧
      (Builtin.append_ #[22, 22] 22 #[v1, .slice (some ⟨W1.heap.size, 0, none⟩) 2 2]).run Try.prog (W1.alloc (.cells #[.int .u8 71, .int .u8 72] 5)) = .ok (.slice (some ⟨gl, 0, none⟩) (n + 2) cl) W2 ∧
      W2.ownsRow w.heap.size 5 1 (.slice (some ⟨gl, 0, none⟩) (n + 2) cl) (n + 2) ((L ++ [71, 72]).map (Value.int .u8)) ∧ Below w.heap.size w W1 ∧ Below w.heap.size w W2 ∧ n + 2 ≤ cl) := by
  obtain ⟨i0, hi0, hz0, hz1, hz2⟩ := info_parts info_u22
  have h1 : ∃ v1 W1, (Builtin.append_ #[22, 22] 22 #[.slice none 0 0, .slice ba n bc]).run Try.prog w = .ok v1 W1 ∧ W1.ownsRow w.heap.size 5 1 v1 n (L.map (Value.int .u8)) ∧ Below w.heap.size w W1 := by
    cases ba with
    | none =>
      have hbc := hnil rfl
      have hn0 : n = 0 := by
        rcases Nat.eq_zero_or_pos n with h | h
        · exact h
        · obtain ⟨_, _, e, _⟩ := hs.at_ 0 (by omega)
          cases e
      subst hbc
      subst hn0
      have hL : L = [] := List.eq_nil_of_length_eq_zero hn
      subst hL
      exact ⟨_, w, run_append_owned_none (P := Try.prog) (w := w) w.heap.size 22 22 5 i0 1 Try.underlying22 hi0 _ 0 [] (World.ownsRow_nil _ _ _ _), World.ownsRow_nil _ _ _ _, Below.refl _ _⟩
    | some a =>
      obtain ⟨v1, W1, hr, ho, hg, _, _⟩ := run_app_st (P := Try.prog) 22 22 w.heap.size 5 i0 (.int .u8 0) 1 Try.underlying22 hi0 hz0 hz1 hz2 rfl w (World.ownsRow_nil w w.heap.size 5 1) a n bc (L.map (Value.int .u8)) (by simpa using hn) (seg_cells hs) (ints_oneCell _ _) (by omega) (by omega) (Nat.le_refl _)
      exact ⟨v1, W1, hr, by simpa using ho, (Below.refl _ _).grown hg (Nat.le_refl _) (fun j hj => by cases hj)⟩
  obtain ⟨v1, W1, r1, o1, b1⟩ := h1
  have hadd : ∀ j, (⟨W1.heap.size, 0, none⟩ : Addr).add j = ⟨W1.heap.size, j, none⟩ := by intro j; unfold Addr.add; split <;> simp_all
  have hh : (W1.alloc (.cells #[.int .u8 71, .int .u8 72] 5)).heap[W1.heap.size]? = some (.cells #[.int .u8 71, .int .u8 72] 5 (0, 0)) := heap_alloc_new _ _
  obtain ⟨v2, W2, hr2, ho2, hg2, _, _⟩ := run_app_st (P := Try.prog) 22 22 w.heap.size 5 i0 (.int .u8 0) 1 Try.underlying22 hi0 hz0 hz1 hz2 rfl (W1.alloc (.cells #[.int .u8 71, .int .u8 72] 5)) (o1.alloc _) ⟨W1.heap.size, 0, none⟩ 2 2 [.int .u8 71, .int .u8 72] rfl
    (fun j u hu => by rw [hadd]; simp only [World.cell?, hh]; simpa using hu) (by intro u hu; simp at hu; rcases hu with rfl | rfl <;> rfl) (by omega) (by omega) (by have := b1.size; simp; omega)
  obtain ⟨gl, cl, hv, _⟩ := own_shape ho2 (by omega)
  subst hv
  have hcl : n + 2 ≤ cl := by
    rcases ho2.2 with ⟨e, _⟩ | ⟨g', cp, cu, e, _, _, hcp, _⟩
    · simp at e
    · simp only [Value.slice.injEq] at e; omega
  have ba1 : Below w.heap.size w (W1.alloc (.cells #[.int .u8 71, .int .u8 72] 5)) := b1.alloc b1.size _
  refine ⟨v1, W1, gl, cl, W2, r1, hr2, ?_, b1, ba1.grown hg2 ba1.size (fun j hj => (o1.lt j hj).1), hcl⟩
  rw [List.map_append]
  exact ho2
/-- One call of the law: what it leaves. -/
def Rd22 (W0 wc : World) (v s g f u b PG PS : Nat) (e1 e2 : Value) : Prop := ∃ (E : Int) (F H : Nat → Prop) (S : Fs21) (P : Pw22), e1 = .int .i64 E ∧ e2 = .int .i64 E ∧ Lw22 W0 wc v s g f u b F H S P S P ∧ Iv22 PG PS S P
set_option maxRecDepth 100000 in
set_option maxHeartbeats 64000000 in
theorem pageRuns_walk (w : World) (d : Dv22) (hd : Df22 w d) (sa : Option Addr) (len cap : Nat) (O : Nat → Oc22) (so : Sc22 w sa len O) (hlen : len * 40 ≤ 140737488351232) :
    Calls Try.prog 4 #[.agg #[.int .u64 (d.p : Int), .int .u64 (d.q : Int), .bool d.ac, .slice d.a0 d.l0.length d.k0, .slice d.a1 d.l1.length d.k1], .slice sa len cap] w fun e w' => e = .returned (.bool true) ∧ Below w.heap.size w w' := by
  obtain ⟨w1, hw1⟩ : ∃ w1, w1 = w.alloc (.cells #[.int .u64 (d.p : Int), .int .u64 (d.q : Int), .bool d.ac, .slice d.a0 d.l0.length d.k0, .slice d.a1 d.l1.length d.k1] 55) := ⟨_, rfl⟩
  have HW1 : Hid (w.alloc (.cells #[.int .u64 (d.p : Int), .int .u64 (d.q : Int), .bool d.ac, .slice d.a0 d.l0.length d.k0, .slice d.a1 d.l1.length d.k1] 55) = w1) := hw1.symm
  have b1 : Below w.heap.size w w1 := by rw [hw1]; exact (Below.refl _ _).alloc (Nat.le_refl _) _
  obtain ⟨g1, hg1⟩ : ∃ g1, g1 = w.heap.size := ⟨_, rfl⟩
  have HG1 : Hid (w.heap.size = g1) := hg1.symm
  have q1 : w1.heap[g1]? = some (.cells #[.int .u64 (d.p : Int), .int .u64 (d.q : Int), .bool d.ac, .slice d.a0 d.l0.length d.k0, .slice d.a1 d.l1.length d.k1] 55 (0, 0)) := by rw [hw1, hg1]; exact heap_alloc_new _ _
  have c0 : w1.cell? ⟨g1, 0, none⟩ = some (.int .u64 (d.p : Int)) := by simp [World.cell?, q1]
  have c1 : w1.cell? ⟨g1, 1, none⟩ = some (.int .u64 (d.q : Int)) := by simp [World.cell?, q1]
  have c2 : w1.cell? ⟨g1, 2, none⟩ = some (.bool d.ac) := by simp [World.cell?, q1]
  have c3 : w1.cell? ⟨g1, 3, none⟩ = some (.slice d.a0 d.l0.length d.k0) := by simp [World.cell?, q1]
  have c4 : w1.cell? ⟨g1, 4, none⟩ = some (.slice d.a1 d.l1.length d.k1) := by simp [World.cell?, q1]
  have hMD := pmade22 d w1 ⟨hd.s0.old b1, hd.s1.old b1, hd.z0, hd.z1, hd.n0, hd.n1, hd.p, hd.q⟩
  have HB1 : Hid (Below w.heap.size w w1) := b1
  have HSO : Hid (Sc22 w sa len O) := so
  have HAW : Hid (∀ W : World, Calls Try.prog 19 #[] W fun e w' => e = .returned (.bool true) ∧ Below W.heap.size W w') := pawk22
  obtain ⟨S0, hS0⟩ : ∃ S0, S0 = d.S := ⟨_, rfl⟩
  have hlg0 : S0.lg = [] := by rw [hS0]; rfl
  have HOK : Hid (Ok21 S0 ∧ S0.lg = [] ∧ d.S = S0) := ⟨by rw [hS0]; exact d.ok, hlg0, hS0.symm⟩
  obtain ⟨PG, hPG⟩ : ∃ PG, PG = S0.pg := ⟨_, rfl⟩
  obtain ⟨PS, hPS⟩ : ∃ PS, PS = S0.ps := ⟨_, rfl⟩
  have HPG : Hid (PG = S0.pg ∧ PS = S0.ps ∧ PG * PS ≤ 16777216) := ⟨hPG, hPS, by rw [hPG, hPS]; exact mx22_bd HOK.out.1⟩
  clear hw1 b1 hg1 q1 hd so hS0 hlg0 hPG hPS
  go_enter Try.func4, Try.ntmps4
  go_upto_region 1 with fail
  rw [HW1.out, HG1.out]
  go_wp2_with fail
  refine hMD.mono ?_
  rintro e w2 ⟨f, F, b, G, rfl, hF, hG, hFw, hGw, hFG, b2⟩
  rw [HOK.out.2.2] at hF hG
  have b2' : Below w.heap.size w w2 := HB1.out.trans (b2.mono HB1.out.size)
  have HF2 : Hid (Fl21 w2 f F S0 ∧ Rl21d w2 b G S0 ∧ (∀ k, F k → w.heap.size ≤ k) ∧ (∀ k, G k → w.heap.size ≤ k) ∧ (∀ k, F k → ¬ G k) ∧ Below w.heap.size w w2) := ⟨hF, hG, fun k e => Nat.le_trans HB1.out.size (hFw k e), fun k e => Nat.le_trans HB1.out.size (hGw k e), hFG, b2'⟩
  clear hMD hF hG hFw hGw hFG b2 b2' c0 c1 c2 c3 c4
  go_wp2_with fail
  refine (HAW.out _).mono ?_
  rintro e w3 ⟨rfl, b3⟩
  have HF3 : Hid (Fl21 w3 f F S0 ∧ Rl21d w3 b G S0 ∧ Below w.heap.size w w3) := ⟨HF2.out.1.old b3, HF2.out.2.1.old b3, HF2.out.2.2.2.2.2.trans (b3.mono HF2.out.2.2.2.2.2.size)⟩
  clear b3
  go_wp2_with fail
  refine (pnw22 HF3.out.1 HOK.out.1).mono ?_
  rintro e w4 ⟨v, s, g, rfl, hpe, b4, hv1, hs1, hgg1⟩
  have hRl4 := HF3.out.2.1.old b4
  have HP4 : Hid (Pe22 w4 v s g f F S0 ⟨1 - S0.ac, [], 0, 0, 0⟩ ∧ Rl21d w4 b G S0 ∧ Below w.heap.size w w4 ∧ (w.heap.size ≤ v ∧ w.heap.size ≤ s ∧ w.heap.size ≤ g) ∧ (∀ k, G k → k ≠ v ∧ k ≠ s ∧ k ≠ g)) := by
    have hz := HF3.out.2.2.size
    refine ⟨hpe, hRl4, HF3.out.2.2.trans (b4.mono hz), by omega, fun k e => ?_⟩
    have := HF3.out.2.1.lts k e
    omega
  clear hpe b4 hv1 hs1 hgg1 hRl4
  obtain ⟨u0, hu0⟩ : ∃ x, x = w4.drew := ⟨_, rfl⟩
  have HU0 : Hid (w4.drew = u0) := hu0.symm
  have HP5 : Hid (Pe22 u0 v s g f F S0 ⟨1 - S0.ac, [], 0, 0, 0⟩ ∧ Rl21d u0 b G S0 ∧ Below w.heap.size w u0) := by
    rw [hu0]
    have bb : Below w4.heap.size w4 w4.drew := (Below.refl _ _).drew
    exact ⟨HP4.out.1.old bb, HP4.out.2.1.old bb, HP4.out.2.2.1.drew⟩
  have HBC : Hid (∀ (V : World) (G' : Nat → Prop) (S2 : Fs21), Rl21d V b G' S2 → V.cell? ⟨b, 0, none⟩ = some (.int .i64 (S2.pg : Int))) := fun V G' S2 hr => by
    obtain ⟨g', c, A, tn, ta, tc, la, lc, V', r, _⟩ := hr
    exact r.cel rfl
  have hb0 : u0.cell? ⟨b, 0, none⟩ = some (.int .i64 (PG : Int)) := by rw [HPG.out.1]; exact HBC.out u0 G S0 HP5.out.2.1
  have nq : ∀ (W : World) (a : Addr), (binOp .eql 60 (.pointer (some a)) (.pointer none)).run Try.prog W = .ok (.bool false) W := fun W a => by kernel_rfl
  have HRM : Hid (Calls Try.prog 21 #[.pointer (some ⟨v, 0, none⟩)] u0 fun e w' => e = .returned (.int .i64 (PG : Int)) ∧ w' = u0) := by rw [HPG.out.1]; exact prm22 HP5.out.1.wr
  clear hu0
  go_upto_region 5 with fail
  refine plain_region16 (fun V => V.cell? ⟨b, 0, none⟩ = some (.int .i64 (PG : Int))) 15 (by kernel_rfl) (by rw [HU0.out]; exact hb0) (fun hHeld => ?_)
  rw [HU0.out] at hHeld ⊢
  clear hb0
  refine wpAnyK_take (i := 0) (v := .int .i64 0) rfl (by kernel_rfl) (by kernel_rfl) (by kernel_rfl) (by kernel_rfl) (fun _ _ _ h => h) (Or.inl ⟨by rfl, fun w hSw => by go_simp⟩) hHeld ?_
  simp only [List.getElem_toArray, List.getElem_cons_zero, Act.put, List.setIfInBounds_toArray, List.set_cons_zero, List.set_cons_succ]
  refine wpAnyK_take (i := 1) (v := .bool false) rfl (by kernel_rfl) (by kernel_rfl) (by kernel_rfl) (by kernel_rfl) (fun _ _ _ h => h) (Or.inl ⟨by rfl, fun w hSw => by go_simp⟩) hHeld ?_
  simp only [List.getElem_toArray, List.getElem_cons_zero, List.getElem_cons_succ, Act.put, List.setIfInBounds_toArray, List.set_cons_zero, List.set_cons_succ]
  refine wpAnyK_take (i := 2) (v := .bool false) rfl (by kernel_rfl) (by kernel_rfl) (by kernel_rfl) (by kernel_rfl) (fun _ _ _ h => h) (Or.inl ⟨by rfl, fun w hSw => by go_simp⟩) hHeld ?_
  simp only [List.getElem_toArray, List.getElem_cons_zero, List.getElem_cons_succ, Act.put, List.setIfInBounds_toArray, List.set_cons_zero, List.set_cons_succ]
  refine wpAnyK_take (i := 3) (v := .pointer (some ⟨v, 0, none⟩)) rfl (by kernel_rfl) (by kernel_rfl) (by kernel_rfl) (by kernel_rfl) (fun _ _ _ h => h) (Or.inl ⟨by rfl, fun w hSw => by go_simp⟩) hHeld ?_
  simp only [List.getElem_toArray, List.getElem_cons_zero, List.getElem_cons_succ, Act.put, List.setIfInBounds_toArray, List.set_cons_zero, List.set_cons_succ]
  refine wpAnyK_take (i := 4) (v := .bool false) rfl (by kernel_rfl) (by kernel_rfl) (by kernel_rfl) (by kernel_rfl) (fun _ _ _ h => h) (Or.inl ⟨by rfl, fun w hSw => by go_simp⟩) hHeld ?_
  simp only [List.getElem_toArray, List.getElem_cons_zero, List.getElem_cons_succ, Act.put, List.setIfInBounds_toArray, List.set_cons_zero, List.set_cons_succ]
  refine wpAnyK_take (i := 5) (v := .bool false) rfl (by kernel_rfl) (by kernel_rfl) (by kernel_rfl) (by kernel_rfl) (fun _ _ _ h => h) (Or.inl ⟨by rfl, fun w hSw => by go_simp⟩) hHeld ?_
  simp only [List.getElem_toArray, List.getElem_cons_zero, List.getElem_cons_succ, Act.put, List.setIfInBounds_toArray, List.set_cons_zero, List.set_cons_succ]
  refine wpAnyK_take (i := 6) (v := .bool false) rfl (by kernel_rfl) (by kernel_rfl) (by kernel_rfl) (by kernel_rfl) (fun _ _ _ h => h) (Or.inl ⟨by rfl, fun w hSw => by go_simp⟩) hHeld ?_
  simp only [List.getElem_toArray, List.getElem_cons_zero, List.getElem_cons_succ, Act.put, List.setIfInBounds_toArray, List.set_cons_zero, List.set_cons_succ]
  refine wpAnyK_take (i := 7) (v := .pointer (some ⟨v, 0, none⟩)) rfl (by kernel_rfl) (by kernel_rfl) (by kernel_rfl) (by kernel_rfl) (fun _ _ _ h => h) (Or.inl ⟨by rfl, fun w hSw => by go_simp⟩) hHeld ?_
  simp only [List.getElem_toArray, List.getElem_cons_zero, List.getElem_cons_succ, Act.put, List.setIfInBounds_toArray, List.set_cons_zero, List.set_cons_succ]
  refine wpAnyK_take (i := 9) (v := .pointer (some ⟨b, 0, none⟩)) rfl (by kernel_rfl) (by kernel_rfl) (by kernel_rfl) (by kernel_rfl) (fun _ _ _ h => h) (Or.inl ⟨by rfl, fun w hSw => by go_simp⟩) hHeld ?_
  simp only [List.getElem_toArray, List.getElem_cons_zero, List.getElem_cons_succ, Act.put, List.setIfInBounds_toArray, List.set_cons_zero, List.set_cons_succ]
  refine wpAnyK_take (i := 10) (v := .pointer (some ⟨b, 0, none⟩)) rfl (by kernel_rfl) (by kernel_rfl) (by kernel_rfl) (by kernel_rfl) (fun _ _ _ h => h) (Or.inl ⟨by rfl, fun w hSw => by go_simp⟩) hHeld ?_
  simp only [List.getElem_toArray, List.getElem_cons_zero, List.getElem_cons_succ, Act.put, List.setIfInBounds_toArray, List.set_cons_zero, List.set_cons_succ]
  refine wpAnyK_take (i := 11) (v := .pointer (some ⟨b, 0, none⟩)) rfl (by kernel_rfl) (by kernel_rfl) (by kernel_rfl) (by kernel_rfl) (fun _ _ _ h => h) (Or.inl ⟨by rfl, fun w hSw => by go_simp⟩) hHeld ?_
  simp only [List.getElem_toArray, List.getElem_cons_zero, List.getElem_cons_succ, Act.put, List.setIfInBounds_toArray, List.set_cons_zero, List.set_cons_succ]
  refine wpAnyK_take (i := 12) (v := .int .i64 (PG : Int)) rfl (by kernel_rfl) (by kernel_rfl) (by kernel_rfl) (by kernel_rfl) (fun _ _ _ h => h) (Or.inl ⟨by rfl, fun w hSw => by go_simp⟩) hHeld ?_
  simp only [List.getElem_toArray, List.getElem_cons_zero, List.getElem_cons_succ, Act.put, List.setIfInBounds_toArray, List.set_cons_zero, List.set_cons_succ]
  refine wpAnyK_one (i := 8) (by kernel_rfl) rfl (fun K hK => ?_)
  (try simp only [List.getElem_toArray, List.getElem_cons_zero, List.getElem_cons_succ, Act.put, List.setIfInBounds_toArray, List.set_cons_zero, List.set_cons_succ])
  go_simp
  refine HRM.out.mono ?_
  rintro e w' ⟨rfl, hw'⟩
  subst w'
  refine hK.out _ _ (fun _ => hHeld) (fun hHeld0 => ?_)
  have hHeld := hHeld0 (by decide)
  clear hHeld0 hK K
  (try simp only [List.getElem_toArray, List.getElem_cons_zero, List.getElem_cons_succ, Act.put, List.setIfInBounds_toArray, List.set_cons_zero, List.set_cons_succ])
  refine wpAnyK_one (i := 13) (by kernel_rfl) rfl (fun K hK => ?_)
  (try simp only [List.getElem_toArray, List.getElem_cons_zero, List.getElem_cons_succ, Act.put, List.setIfInBounds_toArray, List.set_cons_zero, List.set_cons_succ])
  go_simp
  refine hK.out _ _ (fun _ => hHeld) (fun hHeld0 => ?_)
  have hHeld := hHeld0 (by decide)
  clear hHeld0 hK K
  (try simp only [List.getElem_toArray, List.getElem_cons_zero, List.getElem_cons_succ, Act.put, List.setIfInBounds_toArray, List.set_cons_zero, List.set_cons_succ])
  refine wpAnyK_one (i := 14) (by kernel_rfl) rfl (fun K hK => ?_)
  (try simp only [List.getElem_toArray, List.getElem_cons_zero, List.getElem_cons_succ, Act.put, List.setIfInBounds_toArray, List.set_cons_zero, List.set_cons_succ])
  go_simp
  refine hK.out _ _ (fun _ => hHeld) (fun _ => ?_)
  clear hK K hHeld
  refine wpAnyK_done (by kernel_rfl) ?_ _
  go_wp2_with fail
  refine (rnw22 HP5.out.2.1 HOK.out.1).mono ?_
  rintro e w6 ⟨rfl, hrw, b6⟩
  obtain ⟨u, hu⟩ : ∃ u, u = u0.heap.size := ⟨_, rfl⟩
  rw [← hu] at hrw
  rw [← hu]
  have HL6 : Hid (Lw22 w w6 v s g f u b F (fun k => G k ∨ k = u) S0 ⟨1 - S0.ac, [], 0, 0, 0⟩ S0 ⟨1 - S0.ac, [], 0, 0, 0⟩) := by
    have hGl := HP5.out.2.1.lts
    have hFl := HP5.out.1.fl.ltF
    have hwl := HP5.out.1.wr.lt
    have hz := HP5.out.2.2.size
    have h6 := b6.size
    have hul : u < w6.heap.size := (Array.getElem?_eq_some_iff.1 hrw.hu).1
    refine ⟨HP5.out.1.old b6, ⟨G, none, 0, HP5.out.2.1.old b6, hrw, fun q => by have := hGl u q; omega, fun k e => by simp [Value.ownBlock] at e, fun k e => .inl e, .inr rfl, fun k e => by simp [Value.ownBlock] at e, fun k e => ?_⟩, fun k e => ?_, HF2.out.2.2.1, fun k e => ?_, by have := HP4.out.2.2.2.1; omega, HP5.out.2.2.trans (b6.mono hz)⟩
    · rcases e with e | e
      · have := hGl k e; omega
      · omega
    · rcases e with e | e
      · exact ⟨fun q => HF2.out.2.2.2.2.1 k q e, (HP4.out.2.2.2.2 k e).2.1, (HP4.out.2.2.2.2 k e).2.2, (HP4.out.2.2.2.2 k e).1⟩
      · exact ⟨fun q => by have := hFl k q; omega, by omega, by omega, by omega⟩
    · rcases e with e | e
      · exact HF2.out.2.2.2.1 k e
      · omega
  have HI6 : Hid (Iv22 PG PS S0 ⟨1 - S0.ac, [], 0, 0, 0⟩) := by rw [HPG.out.1, HPG.out.2.1]; exact Iv22.new HOK.out.1 HOK.out.2.1
  clear hu hrw b6
  go_wp2_with fail
  go_loopw [11] (fun ti wr => ∃ (i : Nat) (F H : Nat → Prop) (S : Fs21) (P : Pw22), i ≤ len ∧ ti = .int .i64 (i : Int) ∧ Lw22 w wr v s g f u b F H S P S P ∧ Iv22 PG PS S P) (fun ti _ => len - (intOf ti).toNat)
  case atStart => exact ⟨0, _, _, _, _, by omega, rfl, HL6.out, HI6.out⟩
  case round =>
    obtain ⟨i, F, H, S, P, hin, rfl, hL, hI⟩ := hrel
    by_cases hi : i < len
    · have hii : (i : Int) < (len : Int) := by omega
      have hiw : IntKind.i64.wrap ((i : Int) + 1) = ((i + 1 : Nat) : Int) := by rw [IntWalk.i64_in _ (by omega)]; omega
      obtain ⟨ga, off, hsa, e0, e1, e2⟩ := HSO.out.at_ i hi
      have hof := HSO.out.of i hi
      subst hsa
      have hgl := World.block_lt_of_cell? w _ e0
      replace e0 := (hL.k.cell (p := ⟨ga, off + i * 3, none⟩) hgl).trans e0
      replace e1 := (hL.k.cell (p := ⟨ga, off + i * 3 + 1, none⟩) hgl).trans e1
      replace e2 := (hL.k.cell (p := ⟨ga, off + i * 3 + 2, none⟩) hgl).trans e2
      obtain ⟨K, hK⟩ : ∃ K, K = (O i).c := ⟨_, rfl⟩
      obtain ⟨ba, hba⟩ : ∃ x, x = (O i).ba := ⟨_, rfl⟩
      obtain ⟨L, hLb⟩ : ∃ x, x = (O i).b := ⟨_, rfl⟩
      obtain ⟨bc, hbc⟩ : ∃ x, x = (O i).bc := ⟨_, rfl⟩
      obtain ⟨nn, hnn⟩ : ∃ x, x = (O i).n := ⟨_, rfl⟩
      obtain ⟨n, hn⟩ : ∃ n, n = L.length := ⟨_, rfl⟩
      rw [← hK] at e0
      rw [← hba, ← hbc, ← hLb, ← hn] at e1
      rw [← hnn] at e2
      have HOF : Hid (Seg w ba L ∧ n ≤ bc ∧ (ba = none → bc = 0) ∧ n ≤ 140737488351232 ∧ In21 nn ∧ L.length = n) := by
        refine ⟨?_, ?_, ?_, ?_, ?_, hn.symm⟩
        · rw [hba, hLb]; exact hof.sg
        · rw [hn, hLb, hbc]; exact hof.cap
        · rw [hba, hbc]; exact hof.nil
        · rw [hn, hLb]; exact hof.ln
        · rw [hnn]; exact hof.n
      obtain ⟨w5, hw5⟩ : ∃ x, x = wr.alloc (.cells #[.int .i64 K, .slice ba n bc, .int .i64 nn] 71) := ⟨_, rfl⟩
      obtain ⟨gc, hgc⟩ : ∃ x, x = wr.heap.size := ⟨_, rfl⟩
      have HW5 : Hid (wr.alloc (.cells #[.int .i64 K, .slice ba n bc, .int .i64 nn] 71) = w5 ∧ wr.heap.size = gc) := ⟨hw5.symm, hgc.symm⟩
      have qc : w5.heap[gc]? = some (.cells #[.int .i64 K, .slice ba n bc, .int .i64 nn] 71 (0, 0)) := by rw [hw5, hgc]; exact heap_alloc_new _ _
      have b5 : Below wr.heap.size wr w5 := by rw [hw5]; exact (Below.refl _ _).alloc (Nat.le_refl _) _
      have HL5 : Hid (Lw22 w w5 v s g f u b F H S P S P ∧ Iv22 PG PS S P ∧ w5.heap[gc]? = some (.cells #[.int .i64 K, .slice ba n bc, .int .i64 nn] 71 (0, 0)) ∧ (∀ k, F k → k < gc) ∧ (∀ k, H k → k < gc) ∧ (s < gc ∧ g < gc ∧ v < gc) ∧ w.heap.size ≤ gc ∧ gc < w5.heap.size) := by
        rw [hgc] at qc ⊢
        exact ⟨hL.below b5, hI, qc, hL.pe.fl.ltF, hL.re.lt, by have := hL.pe.wr.lt; omega, hL.k.size, (Array.getElem?_eq_some_iff.1 qc).1⟩
      have m0 := three_cell0 qc
      have m1 := three_cell1 qc
      have m2 := three_cell2 qc
      clear hof hgl hK hba hLb hbc hnn hn hw5 hgc qc b5 hL hI
      go_upto_block 2 with fail
      rw [HW5.out.1, HW5.out.2]
      go_cut [13, 14, 15, 16] from 61 to 139 (fun s13 s14 s15 s16 wc => Rd22 w wc v s g f u b PG PS s13 s14)
      case first =>
        by_cases k0 : K = 0
        · subst k0
          obtain ⟨v1, W1, gl, cl, W2, r1, r2, own2, bW1, bW2, hcl⟩ := (law_l22 (w := w5) ba L n bc (HOF.out.1.old HL5.out.1.k) HOF.out.2.2.2.2.2 HOF.out.2.2.1 HOF.out.2.2.2.1).out
          obtain ⟨N2, hN2⟩ : ∃ x, x = n + 2 := ⟨_, rfl⟩
          rw [← hN2] at r2 own2 hcl
          have hnN : n < N2 ∧ N2 ≤ 140737488351234 := by have := HOF.out.2.2.2.1; omega
          have hLL : (L ++ [71, 72]).length = N2 := by rw [List.length_append, HOF.out.2.2.2.2.2, hN2]; rfl
          have HLB : Hid (∀ y ∈ (L ++ [71, 72] : List Int), 0 ≤ y ∧ y ≤ 255) := fun y hy => by
            rcases List.mem_append.1 hy with h | h
            · obtain ⟨i, hi, rfl⟩ := List.getElem_of_mem h
              have := HOF.out.1.bd i
              simpa [List.getD, hi] using this
            · simp at h; omega
          have HGL : Hid (w5.heap.size ≤ gl) := by
            rcases own2.2 with ⟨e, _⟩ | ⟨g', cp, cu, e, hg', _⟩
            · simp at e
            · simp only [Value.slice.injEq, Option.some.injEq, Addr.mk.injEq, and_true, true_and] at e
              obtain ⟨rfl, _⟩ := e
              exact hg'
          have HGN : Hid (gl ≠ gc ∧ ¬ F gl ∧ ¬ H gl ∧ gl ≠ s ∧ gl ≠ g ∧ gl ≠ v ∧ w.heap.size ≤ gl) := by
            have h1 := HGL.out
            have h2 := HL5.out.2.2
            exact ⟨by omega, fun q => by have := h2.2.1 gl q; omega, fun q => by have := h2.2.2.1 gl q; omega, by omega, by omega, by omega, by omega⟩
          have HGC : Hid (¬ F gc ∧ ¬ H gc ∧ gc ≠ s ∧ gc ≠ g ∧ gc ≠ v) := ⟨fun q => by have := HL5.out.2.2.2.1 gc q; omega, fun q => by have := HL5.out.2.2.2.2.1 gc q; omega, by have := HL5.out.2.2.2.2.2.1; omega, by have := HL5.out.2.2.2.2.2.1; omega, by have := HL5.out.2.2.2.2.2.1; omega⟩
          obtain ⟨v0, hv0⟩ : ∃ x, x = W2.drew := ⟨_, rfl⟩
          have HV0 : Hid (W2.drew = v0) := hv0.symm
          have L0 : Hid (Lw22 w v0 v s g f u b F H S P S P) := by rw [hv0]; exact HL5.out.1.below bW2.drew
          have own0 : v0.ownsRow w5.heap.size 5 1 (.slice (some ⟨gl, 0, none⟩) N2 cl) N2 ((L ++ [71, 72]).map (Value.int .u8)) := by rw [hv0]; exact own2.drew
          have HO0 : Hid (v0.ownsRow w5.heap.size 5 1 (.slice (some ⟨gl, 0, none⟩) N2 cl) N2 ((L ++ [71, 72]).map (Value.int .u8))) := own0
          have hc0 : v0.cell? ⟨gc, 1, none⟩ = some (.slice ba n bc) := by
            rw [hv0]
            exact (bW2.drew.cell (p := ⟨gc, 1, none⟩) HL5.out.2.2.2.2.2.2.2).trans m1
          have HKC : Hid (∀ V V' X, Kp X V V' → ¬ X gc → V.cell? ⟨gc, 1, none⟩ = some (.slice ba n bc) → V'.cell? ⟨gc, 1, none⟩ = some (.slice ba n bc)) := fun V V' X hX hn h => by
            have hb := hX.block gc (World.block_lt_of_cell? _ _ h) hn
            exact (World.cell?_of_block (a := ⟨gc, 1, none⟩) hb).trans h
          have HLT : Hid ((L ++ [71, 72]).take n = L ∧ (L ++ [71, 72]).length = N2) := ⟨by rw [← HOF.out.2.2.2.2.2]; exact List.take_left, hLL⟩
          have hsl := slice_hi22 (some ⟨gl, 0, none⟩) N2 cl n hcl (by omega) (fun e => by cases e)
          have hnZ : (n : Int) < (N2 : Int) := by omega
          have HNN : Hid (n < N2 ∧ N2 ≤ 140737488351234 ∧ N2 ≤ cl) := ⟨hnN.1, hnN.2, hcl⟩
          clear hv0 hLL own0 own2 bW1 bW2 hN2 hnN hcl m0 m2 e0 e1 e2
          go_upto_region 17 with (at_builtin; refine wpList_plain rfl fun K hK => ?_; (first | refine operwp_app22 _ _ _ rfl rfl rfl r1 ?_ | refine operwp_app22 _ _ _ rfl rfl rfl r2 ?_); refine hK _ _ ?_; clear hK K)
          refine plain_region16 (fun V => V.cell? ⟨gc, 1, none⟩ = some (.slice ba n bc)) 13 (by kernel_rfl) (by rw [HV0.out]; exact hc0) (fun hHeld => ?_)
          rw [HV0.out] at hHeld ⊢
          clear hc0 m1 r1 r2
          refine wpAnyK_take (i := 0) (v := .pointer (some ⟨v, 0, none⟩)) rfl (by kernel_rfl) (by kernel_rfl) (by kernel_rfl) (by kernel_rfl) (fun _ _ _ h => h) (Or.inl ⟨by rfl, fun w hSw => by go_simp⟩) hHeld ?_
          simp only [List.getElem_toArray, List.getElem_cons_zero, Act.put, List.setIfInBounds_toArray, List.set_cons_zero, List.set_cons_succ]
          refine wpAnyK_take (i := 1) (v := .slice (some ⟨gl, 0, none⟩) N2 cl) rfl (by kernel_rfl) (by kernel_rfl) (by kernel_rfl) (by kernel_rfl) (fun _ _ _ h => h) (Or.inl ⟨by rfl, fun w hSw => by go_simp⟩) hHeld ?_
          simp only [List.getElem_toArray, List.getElem_cons_zero, List.getElem_cons_succ, Act.put, List.setIfInBounds_toArray, List.set_cons_zero, List.set_cons_succ]
          refine wpAnyK_take (i := 2) (v := .pointer (some ⟨gc, 1, none⟩)) rfl (by kernel_rfl) (by kernel_rfl) (by kernel_rfl) (by kernel_rfl) (fun _ _ _ h => h) (Or.inl ⟨by rfl, fun w hSw => by go_simp⟩) hHeld ?_
          simp only [List.getElem_toArray, List.getElem_cons_zero, List.getElem_cons_succ, Act.put, List.setIfInBounds_toArray, List.set_cons_zero, List.set_cons_succ]
          refine wpAnyK_take (i := 3) (v := .slice ba n bc) rfl (by kernel_rfl) (by kernel_rfl) (by kernel_rfl) (by kernel_rfl) (fun _ _ _ h => h) (Or.inl ⟨by rfl, fun w hSw => by go_simp⟩) hHeld ?_
          simp only [List.getElem_toArray, List.getElem_cons_zero, List.getElem_cons_succ, Act.put, List.setIfInBounds_toArray, List.set_cons_zero, List.set_cons_succ]
          refine wpAnyK_take (i := 4) (v := .int .i64 (n : Int)) rfl (by kernel_rfl) (by kernel_rfl) (by kernel_rfl) (by kernel_rfl) (fun _ _ _ h => h) (Or.inl ⟨by rfl, fun w hSw => by go_simp⟩) hHeld ?_
          simp only [List.getElem_toArray, List.getElem_cons_zero, List.getElem_cons_succ, Act.put, List.setIfInBounds_toArray, List.set_cons_zero, List.set_cons_succ]
          refine wpAnyK_take (i := 5) (v := .slice (some ⟨gl, 0, none⟩) n cl) rfl (by kernel_rfl) (by kernel_rfl) (by kernel_rfl) (by kernel_rfl) (fun _ _ _ h => h) (Or.inl ⟨by rfl, fun w hSw => by go_simp⟩) hHeld ?_
          simp only [List.getElem_toArray, List.getElem_cons_zero, List.getElem_cons_succ, Act.put, List.setIfInBounds_toArray, List.set_cons_zero, List.set_cons_succ]
          refine wpAnyK_take (i := 7) (v := .pointer (some ⟨u, 0, none⟩)) rfl (by kernel_rfl) (by kernel_rfl) (by kernel_rfl) (by kernel_rfl) (fun _ _ _ h => h) (Or.inl ⟨by rfl, fun w hSw => by go_simp⟩) hHeld ?_
          simp only [List.getElem_toArray, List.getElem_cons_zero, List.getElem_cons_succ, Act.put, List.setIfInBounds_toArray, List.set_cons_zero, List.set_cons_succ]
          refine wpAnyK_take (i := 8) (v := .pointer (some ⟨gc, 1, none⟩)) rfl (by kernel_rfl) (by kernel_rfl) (by kernel_rfl) (by kernel_rfl) (fun _ _ _ h => h) (Or.inl ⟨by rfl, fun w hSw => by go_simp⟩) hHeld ?_
          simp only [List.getElem_toArray, List.getElem_cons_zero, List.getElem_cons_succ, Act.put, List.setIfInBounds_toArray, List.set_cons_zero, List.set_cons_succ]
          refine wpAnyK_take (i := 9) (v := .slice ba n bc) rfl (by kernel_rfl) (by kernel_rfl) (by kernel_rfl) (by kernel_rfl) (fun _ _ _ h => h) (Or.inl ⟨by rfl, fun w hSw => by go_simp⟩) hHeld ?_
          simp only [List.getElem_toArray, List.getElem_cons_zero, List.getElem_cons_succ, Act.put, List.setIfInBounds_toArray, List.set_cons_zero, List.set_cons_succ]
          refine wpAnyK_one (i := 6) (by kernel_rfl) rfl (fun K hK => ?_)
          (try simp only [List.getElem_toArray, List.getElem_cons_zero, List.getElem_cons_succ, Act.put, List.setIfInBounds_toArray, List.set_cons_zero, List.set_cons_succ])
          go_simp
          refine (L0.out.wr1 HL5.out.2.1 HPG.out.2.2 (some ⟨gl, 0, none⟩) L n cl (by have h := SegK.take (own_seg22 HO0.out HLB.out) n; rw [HLT.out.1] at h; exact h) HOF.out.2.2.2.2.2 (by have := HNN.out; omega) (by have := HOF.out.2.2.2.1; omega) (fun x off e _ => by cases e; exact ⟨HGN.out.2.1, HGN.out.2.2.2.1, HGN.out.2.2.2.2.1⟩)).mono ?_
          rintro e w6 ⟨rfl, ⟨F2, hL2, hF2⟩, hk2⟩
          have L6 : Hid (Lw22 w w6 v s g f u b F2 H (wrS22 S P L) (wrP22 S P L) S P) := hL2
          have h6 := HKC.out v0 w6 _ hk2 (fun q => by rcases q with q | q | q; exact HGC.out.1 q; exact HGC.out.2.2.1 q; exact HGC.out.2.2.2.1 q) hHeld
          have HO6 : Hid (w6.ownsRow w5.heap.size 5 1 (.slice (some ⟨gl, 0, none⟩) N2 cl) N2 ((L ++ [71, 72]).map (Value.int .u8)) ∧ ¬ F2 gl ∧ gl < w6.heap.size) := ⟨own_kp HO0.out hk2 (fun k e q => by
            simp only [Value.ownBlock, Option.some.injEq] at e
            subst e
            rcases q with q | q | q
            · exact HGN.out.2.1 q
            · exact HGN.out.2.2.2.1 q
            · exact HGN.out.2.2.2.2.1 q), fun q => by
            have h1 := (HO0.out.lt gl rfl).2
            rcases hF2 gl q with q | q
            · exact HGN.out.2.1 q
            · omega, Nat.lt_of_lt_of_le (HO0.out.lt gl rfl).2 hk2.size⟩
          clear hL2 hk2 hF2 hHeld
          refine hK.out _ _ (fun _ => h6) (fun hHeld0 => ?_)
          have hHeld := hHeld0 (by decide)
          clear hHeld0 hK K
          (try simp only [List.getElem_toArray, List.getElem_cons_zero, List.getElem_cons_succ, Act.put, List.setIfInBounds_toArray, List.set_cons_zero, List.set_cons_succ])
          clear h6
          refine wpAnyK_one (i := 10) (by kernel_rfl) rfl (fun K hK => ?_)
          (try simp only [List.getElem_toArray, List.getElem_cons_zero, List.getElem_cons_succ, Act.put, List.setIfInBounds_toArray, List.set_cons_zero, List.set_cons_succ])
          go_simp
          refine (L6.out.wr2 HL5.out.2.1 HPG.out.2.2 ba L n bc (HOF.out.1.old L6.out.k) HOF.out.2.2.2.2.2 (by have := HOF.out.2.2.2.1; omega) (fun x off e h0 q => ?_)).mono ?_
          · have h1 := L6.out.gH x q
            obtain ⟨b', o', e', hcel⟩ := HOF.out.1.at_ 0 (by rw [HOF.out.2.2.2.2.2]; exact h0)
            rw [e] at e'
            cases e'
            have := World.block_lt_of_cell? _ _ hcel
            simp only at this
            omega
          rintro e w7 ⟨rfl, ⟨H2, hL3, hH2⟩, hk3⟩
          have L7 : Hid (Lw22 w w7 v s g f u b F2 H2 (wrS22 S P L) (wrP22 S P L) (wrS22 S P L) (wrP22 S P L)) := hL3
          have h7 := HKC.out w6 w7 H hk3 HGC.out.2.1 hHeld
          have HO7 : Hid (w7.ownsRow w5.heap.size 5 1 (.slice (some ⟨gl, 0, none⟩) N2 cl) N2 ((L ++ [71, 72]).map (Value.int .u8)) ∧ ¬ F2 gl ∧ ¬ H2 gl) := ⟨own_kp HO6.out.1 hk3 (fun k e q => by
            simp only [Value.ownBlock, Option.some.injEq] at e
            subst e
            exact HGN.out.2.2.1 q), HO6.out.2.1, fun q => by
            have h1 := HO6.out.2.2
            rcases hH2 gl q with q | q
            · exact HGN.out.2.2.1 q
            · omega⟩
          clear hL3 hk3 hH2 hHeld
          refine hK.out _ _ (fun _ => h7) (fun hHeld0 => ?_)
          have hHeld := hHeld0 (by decide)
          clear hHeld0 hK K
          (try simp only [List.getElem_toArray, List.getElem_cons_zero, List.getElem_cons_succ, Act.put, List.setIfInBounds_toArray, List.set_cons_zero, List.set_cons_succ])
          clear h7
          refine wpAnyK_one (i := 11) (by kernel_rfl) rfl (fun K hK => ?_)
          (try simp only [List.getElem_toArray, List.getElem_cons_zero, List.getElem_cons_succ, Act.put, List.setIfInBounds_toArray, List.set_cons_zero, List.set_cons_succ])
          go_simp
          refine hK.out _ _ (fun _ => hHeld) (fun hHeld0 => ?_)
          have hHeld := hHeld0 (by decide)
          clear hHeld0 hK K
          (try simp only [List.getElem_toArray, List.getElem_cons_zero, List.getElem_cons_succ, Act.put, List.setIfInBounds_toArray, List.set_cons_zero, List.set_cons_succ])
          refine wpAnyK_one (i := 12) (by kernel_rfl) rfl (fun K hK => ?_)
          (try simp only [List.getElem_toArray, List.getElem_cons_zero, List.getElem_cons_succ, Act.put, List.setIfInBounds_toArray, List.set_cons_zero, List.set_cons_succ])
          go_simp
          refine hK.out _ _ (fun _ => hHeld) (fun _ => ?_)
          clear hK K
          refine wpAnyK_done (by kernel_rfl) ?_ _
          obtain ⟨v7, hv7⟩ : ∃ x, x = w7.drew := ⟨_, rfl⟩
          have HV7 : Hid (w7.drew = v7) := hv7.symm
          have L8 : Hid (Lw22 w v7 v s g f u b F2 H2 (wrS22 S P L) (wrP22 S P L) (wrS22 S P L) (wrP22 S P L)) := by rw [hv7]; exact L7.out.below ((Below.refl _ _).drew)
          have HO8 : Hid (v7.ownsRow w5.heap.size 5 1 (.slice (some ⟨gl, 0, none⟩) N2 cl) N2 ((L ++ [71, 72]).map (Value.int .u8)) ∧ ¬ F2 gl ∧ ¬ H2 gl) := by rw [hv7]; exact ⟨HO7.out.1.drew, HO7.out.2⟩
          obtain ⟨st, hst⟩ : ∃ x, x = strOfNums L := ⟨_, rfl⟩
          have hbb : (st.toList == st.toList) = true := beq_self_eq_true _
          have hc7 : v7.cell? ⟨gc, 1, none⟩ = some (.slice ba n bc) ∧ (convert 22 9 (.slice (some ⟨gl, 0, none⟩) n cl)).run Try.prog v7 = .ok (.string st) v7 ∧ (convert 22 9 (.slice ba n bc)).run Try.prog v7 = .ok (.string st) v7 ∧ v7.cell? ⟨gl, n, none⟩ = some (.int .u8 71) := by
            refine ⟨by rw [hv7]; exact hHeld, ?_, ?_, ?_⟩
            · rw [hst]
              exact run_conv22 n cl HOF.out.2.2.2.2.2 (by have h := SegK.take (own_seg22 HO8.out.1 HLB.out) n; rw [HLT.out.1] at h; exact h) 22 5 9 Try.underlying22 Try.underlying5 Try.underlying9
            · rw [hst]
              exact run_conv22 n bc HOF.out.2.2.2.2.2 (HOF.out.1.old L8.out.k) 22 5 9 Try.underlying22 Try.underlying5 Try.underlying9
            · have h := HO8.out.1.cellAt n (by have := HNN.out; omega)
              rw [h, List.getElem?_map, List.getElem?_append_right (by rw [HOF.out.2.2.2.2.2]; exact Nat.le_refl _), HOF.out.2.2.2.2.2, Nat.sub_self]
              rfl
          clear hv7 hst hHeld
          go_upto_region 18 with fail
          refine plain_region16 (fun V => V.cell? ⟨gc, 1, none⟩ = some (.slice ba n bc) ∧ (convert 22 9 (.slice (some ⟨gl, 0, none⟩) n cl)).run Try.prog V = .ok (.string st) V ∧ (convert 22 9 (.slice ba n bc)).run Try.prog V = .ok (.string st) V ∧ V.cell? ⟨gl, n, none⟩ = some (.int .u8 71)) 19 (by kernel_rfl) (by rw [HV7.out]; exact hc7) (fun hHeld => ?_)
          rw [HV7.out] at hHeld ⊢
          clear hc7
          refine wpAnyK_take (i := 0) (v := .slice (some ⟨gl, 0, none⟩) N2 cl) rfl (by kernel_rfl) (by kernel_rfl) (by kernel_rfl) (by kernel_rfl) (fun _ _ _ h => h) (Or.inl ⟨by rfl, fun w hSw => by go_simp⟩) hHeld ?_
          simp only [List.getElem_toArray, List.getElem_cons_zero, Act.put, List.setIfInBounds_toArray, List.set_cons_zero, List.set_cons_succ]
          refine wpAnyK_take (i := 1) (v := .pointer (some ⟨gc, 1, none⟩)) rfl (by kernel_rfl) (by kernel_rfl) (by kernel_rfl) (by kernel_rfl) (fun _ _ _ h => h) (Or.inl ⟨by rfl, fun w hSw => by go_simp⟩) hHeld ?_
          simp only [List.getElem_toArray, List.getElem_cons_zero, List.getElem_cons_succ, Act.put, List.setIfInBounds_toArray, List.set_cons_zero, List.set_cons_succ]
          refine wpAnyK_take (i := 2) (v := .slice ba n bc) rfl (by kernel_rfl) (by kernel_rfl) (by kernel_rfl) (by kernel_rfl) (fun _ _ _ h => h) (Or.inl ⟨by rfl, fun w hSw => by go_simp⟩) hHeld ?_
          simp only [List.getElem_toArray, List.getElem_cons_zero, List.getElem_cons_succ, Act.put, List.setIfInBounds_toArray, List.set_cons_zero, List.set_cons_succ]
          refine wpAnyK_take (i := 3) (v := .int .i64 (n : Int)) rfl (by kernel_rfl) (by kernel_rfl) (by kernel_rfl) (by kernel_rfl) (fun _ _ _ h => h) (Or.inl ⟨by rfl, fun w hSw => by go_simp⟩) hHeld ?_
          simp only [List.getElem_toArray, List.getElem_cons_zero, List.getElem_cons_succ, Act.put, List.setIfInBounds_toArray, List.set_cons_zero, List.set_cons_succ]
          refine wpAnyK_take (i := 4) (v := .slice (some ⟨gl, 0, none⟩) n cl) rfl (by kernel_rfl) (by kernel_rfl) (by kernel_rfl) (by kernel_rfl) (fun _ _ _ h => h) (Or.inl ⟨by rfl, fun w hSw => by go_simp⟩) hHeld ?_
          simp only [List.getElem_toArray, List.getElem_cons_zero, List.getElem_cons_succ, Act.put, List.setIfInBounds_toArray, List.set_cons_zero, List.set_cons_succ]
          refine wpAnyK_take (i := 5) (v := .string st) rfl (by kernel_rfl) (by kernel_rfl) (by kernel_rfl) (by kernel_rfl) (fun _ _ _ h => h) (Or.inl ⟨by rfl, fun w hSw => by go_simp⟩) hHeld ?_
          simp only [List.getElem_toArray, List.getElem_cons_zero, List.getElem_cons_succ, Act.put, List.setIfInBounds_toArray, List.set_cons_zero, List.set_cons_succ]
          refine wpAnyK_take (i := 6) (v := .pointer (some ⟨gc, 1, none⟩)) rfl (by kernel_rfl) (by kernel_rfl) (by kernel_rfl) (by kernel_rfl) (fun _ _ _ h => h) (Or.inl ⟨by rfl, fun w hSw => by go_simp⟩) hHeld ?_
          simp only [List.getElem_toArray, List.getElem_cons_zero, List.getElem_cons_succ, Act.put, List.setIfInBounds_toArray, List.set_cons_zero, List.set_cons_succ]
          refine wpAnyK_take (i := 7) (v := .slice ba n bc) rfl (by kernel_rfl) (by kernel_rfl) (by kernel_rfl) (by kernel_rfl) (fun _ _ _ h => h) (Or.inl ⟨by rfl, fun w hSw => by go_simp⟩) hHeld ?_
          simp only [List.getElem_toArray, List.getElem_cons_zero, List.getElem_cons_succ, Act.put, List.setIfInBounds_toArray, List.set_cons_zero, List.set_cons_succ]
          refine wpAnyK_take (i := 8) (v := .string st) rfl (by kernel_rfl) (by kernel_rfl) (by kernel_rfl) (by kernel_rfl) (fun _ _ _ h => h) (Or.inl ⟨by rfl, fun w hSw => by go_simp⟩) hHeld ?_
          simp only [List.getElem_toArray, List.getElem_cons_zero, List.getElem_cons_succ, Act.put, List.setIfInBounds_toArray, List.set_cons_zero, List.set_cons_succ]
          refine wpAnyK_take (i := 9) (v := .bool false) rfl (by kernel_rfl) (by kernel_rfl) (by kernel_rfl) (by kernel_rfl) (fun _ _ _ h => h) (Or.inl ⟨by rfl, fun w hSw => by go_simp⟩) hHeld ?_
          simp only [List.getElem_toArray, List.getElem_cons_zero, List.getElem_cons_succ, Act.put, List.setIfInBounds_toArray, List.set_cons_zero, List.set_cons_succ]
          refine wpAnyK_take (i := 10) (v := .bool false) rfl (by kernel_rfl) (by kernel_rfl) (by kernel_rfl) (by kernel_rfl) (fun _ _ _ h => h) (Or.inl ⟨by rfl, fun w hSw => by go_simp⟩) hHeld ?_
          simp only [List.getElem_toArray, List.getElem_cons_zero, List.getElem_cons_succ, Act.put, List.setIfInBounds_toArray, List.set_cons_zero, List.set_cons_succ]
          refine wpAnyK_take (i := 11) (v := .slice (some ⟨gl, 0, none⟩) N2 cl) rfl (by kernel_rfl) (by kernel_rfl) (by kernel_rfl) (by kernel_rfl) (fun _ _ _ h => h) (Or.inl ⟨by rfl, fun w hSw => by go_simp⟩) hHeld ?_
          simp only [List.getElem_toArray, List.getElem_cons_zero, List.getElem_cons_succ, Act.put, List.setIfInBounds_toArray, List.set_cons_zero, List.set_cons_succ]
          refine wpAnyK_take (i := 12) (v := .pointer (some ⟨gc, 1, none⟩)) rfl (by kernel_rfl) (by kernel_rfl) (by kernel_rfl) (by kernel_rfl) (fun _ _ _ h => h) (Or.inl ⟨by rfl, fun w hSw => by go_simp⟩) hHeld ?_
          simp only [List.getElem_toArray, List.getElem_cons_zero, List.getElem_cons_succ, Act.put, List.setIfInBounds_toArray, List.set_cons_zero, List.set_cons_succ]
          refine wpAnyK_take (i := 13) (v := .slice ba n bc) rfl (by kernel_rfl) (by kernel_rfl) (by kernel_rfl) (by kernel_rfl) (fun _ _ _ h => h) (Or.inl ⟨by rfl, fun w hSw => by go_simp⟩) hHeld ?_
          simp only [List.getElem_toArray, List.getElem_cons_zero, List.getElem_cons_succ, Act.put, List.setIfInBounds_toArray, List.set_cons_zero, List.set_cons_succ]
          refine wpAnyK_take (i := 14) (v := .int .i64 (n : Int)) rfl (by kernel_rfl) (by kernel_rfl) (by kernel_rfl) (by kernel_rfl) (fun _ _ _ h => h) (Or.inl ⟨by rfl, fun w hSw => by go_simp⟩) hHeld ?_
          simp only [List.getElem_toArray, List.getElem_cons_zero, List.getElem_cons_succ, Act.put, List.setIfInBounds_toArray, List.set_cons_zero, List.set_cons_succ]
          refine wpAnyK_take (i := 15) (v := .pointer (some ⟨gl, n, none⟩)) rfl (by kernel_rfl) (by kernel_rfl) (by kernel_rfl) (by kernel_rfl) (fun _ _ _ h => h) (Or.inl ⟨by rfl, fun w hSw => by go_simp⟩) hHeld ?_
          simp only [List.getElem_toArray, List.getElem_cons_zero, List.getElem_cons_succ, Act.put, List.setIfInBounds_toArray, List.set_cons_zero, List.set_cons_succ]
          refine wpAnyK_take (i := 16) (v := .int .u8 71) rfl (by kernel_rfl) (by kernel_rfl) (by kernel_rfl) (by kernel_rfl) (fun _ _ _ h => h) (Or.inl ⟨by rfl, fun w hSw => by go_simp⟩) hHeld ?_
          simp only [List.getElem_toArray, List.getElem_cons_zero, List.getElem_cons_succ, Act.put, List.setIfInBounds_toArray, List.set_cons_zero, List.set_cons_succ]
          refine wpAnyK_take (i := 17) (v := .bool false) rfl (by kernel_rfl) (by kernel_rfl) (by kernel_rfl) (by kernel_rfl) (fun _ _ _ h => h) (Or.inl ⟨by rfl, fun w hSw => by go_simp⟩) hHeld ?_
          simp only [List.getElem_toArray, List.getElem_cons_zero, List.getElem_cons_succ, Act.put, List.setIfInBounds_toArray, List.set_cons_zero, List.set_cons_succ]
          refine wpAnyK_one (i := 18) (by kernel_rfl) rfl (fun K hK => ?_)
          (try simp only [List.getElem_toArray, List.getElem_cons_zero, List.getElem_cons_succ, Act.put, List.setIfInBounds_toArray, List.set_cons_zero, List.set_cons_succ])
          go_simp
          refine hK.out _ _ (fun _ => hHeld) (fun _ => ?_)
          clear hK K hHeld
          refine wpAnyK_done (by kernel_rfl) ?_ _
          clear hsl hnZ hbb
          go_wp2_with fail
          go_loopw [16] (fun ti wr => ∃ (k : Nat) (L3 : List Int), k ≤ N2 ∧ ti = .int .i64 (k : Int) ∧ wr.ownsRow w5.heap.size 5 1 (.slice (some ⟨gl, 0, none⟩) N2 cl) N2 (L3.map (Value.int .u8)) ∧ Hid (L3.length = N2) ∧ Kp (fun j => j = gl) v7 wr) (fun ti _ => N2 - (intOf ti).toNat)
          case atStart => exact ⟨0, L ++ [71, 72], by omega, rfl, HO8.out.1, HLT.out.2, Kp.refl _ _⟩
          case round =>
            obtain ⟨k, L3, hkn, rfl, OA, HL3, KR⟩ := hrel
            by_cases hlt : k < N2
            · have hlti : (k : Int) < (N2 : Int) := by omega
              have hiw : IntKind.i64.wrap ((k : Int) + 1) = ((k + 1 : Nat) : Int) := by rw [IntWalk.i64_in _ (by have := HNN.out; omega)]; omega
              obtain ⟨y, d0⟩ : ∃ y, wr.cell? ⟨gl, k, none⟩ = some (.int .u8 y) := ⟨L3.getD k 0, by
                rw [OA.cellAt k (by omega), List.getElem?_map]
                simp [List.getD, show k < L3.length by rw [HL3.out]; exact hlt]⟩
              have f0 := OA.frozenAt k
              have HO9 : Hid ((wr.setCell ⟨gl, k, none⟩ (.int .u8 73)).ownsRow w5.heap.size 5 1 (.slice (some ⟨gl, 0, none⟩) N2 cl) N2 ((L3.set k 73).map (Value.int .u8)) ∧ Kp (fun j => j = gl) v7 (wr.setCell ⟨gl, k, none⟩ (.int .u8 73)) ∧ (L3.set k 73).length = N2) := ⟨by have h := (OA.stored k (.int .u8 73)).1; rw [← List.map_set] at h; exact h, KR.trans (Kp.set (S := fun j => j = gl) rfl _) (fun _ _ e => e), by rw [List.length_set]; exact HL3.out⟩
              clear OA KR HL3
              go_wp2_with fail
              go_roundw
              case rel => exact ⟨k + 1, L3.set k 73, by omega, rfl, HO9.out.1, HO9.out.2.2, HO9.out.2.1⟩
              case measure => simp [intOf]; omega
            · have hge : ¬ (k : Int) < (N2 : Int) := by omega
              have LX : Hid (Lw22 w wr v s g f u b F2 H2 (wrS22 S P L) (wrP22 S P L) (wrS22 S P L) (wrP22 S P L)) := L8.out.other KR (fun j e => by subst e; exact ⟨HGN.out.2.2.2.2.2.2, HO8.out.2.1, HO8.out.2.2, HGN.out.2.2.2.1, HGN.out.2.2.2.2.1, HGN.out.2.2.2.2.2.1⟩)
              clear OA KR HL3
              go_wp2_with fail
              go_meet
              case rel => exact ⟨wrE22 S P L, F2, H2, _, _, rfl, rfl, LX.out, HL5.out.2.1.wr L⟩
        by_cases k1 : K = 1
        · subst k1
          go_wp2_with fail
          refine (HL5.out.1.end1 HL5.out.2.1 HPG.out.2.2).mono ?_
          rintro e w6 ⟨rfl, F2, hL2⟩
          have L6 : Hid (Lw22 w w6 v s g f u b F2 H (edS22 S P) (edP22 S P) S P) := hL2
          clear hL2
          go_wp2_with fail
          refine (L6.out.end2 HL5.out.2.1 HPG.out.2.2).mono ?_
          rintro e w7 ⟨rfl, H2, hL3⟩
          have L7 : Hid (Lw22 w w7 v s g f u b F2 H2 (edS22 S P) (edP22 S P) (edS22 S P) (edP22 S P)) := hL3
          clear hL3
          go_wp2_with fail
          go_meet
          case rel => exact ⟨edE22 S P, F2, H2, _, _, rfl, rfl, L7.out, HL5.out.2.1.ed⟩
        by_cases k2 : K = 2
        · subst k2
          obtain ⟨v0, hv0⟩ : ∃ x, x = w5.drew := ⟨_, rfl⟩
          have HV0 : Hid (w5.drew = v0) := hv0.symm
          have L0 : Hid (Lw22 w v0 v s g f u b F H S P S P) := by rw [hv0]; exact HL5.out.1.below ((Below.refl _ _).drew)
          have hc0 : v0.cell? ⟨gc, 1, none⟩ = some (.slice ba n bc) ∧ v0.cell? ⟨gc, 2, none⟩ = some (.int .i64 nn) := by rw [hv0]; exact ⟨m1, m2⟩
          have hsz0 : gc < v0.heap.size := by rw [hv0]; exact HL5.out.2.2.2.2.2.2.2
          have HKC : Hid (∀ V V' X, Kp X V V' → ¬ X gc → (V.cell? ⟨gc, 1, none⟩ = some (.slice ba n bc) ∧ V.cell? ⟨gc, 2, none⟩ = some (.int .i64 nn)) → V'.cell? ⟨gc, 1, none⟩ = some (.slice ba n bc) ∧ V'.cell? ⟨gc, 2, none⟩ = some (.int .i64 nn)) := fun V V' X hX hn h => by
            have hb := hX.block gc (World.block_lt_of_cell? _ _ h.1) hn
            exact ⟨(World.cell?_of_block (a := ⟨gc, 1, none⟩) hb).trans h.1, (World.cell?_of_block (a := ⟨gc, 2, none⟩) hb).trans h.2⟩
          have hnF : ¬ F gc := fun q => by have := HL5.out.2.2.2.1 gc q; omega
          have hnH : ¬ H gc := fun q => by have := HL5.out.2.2.2.2.1 gc q; omega
          have HNN : Hid (¬ F gc ∧ ¬ H gc) := ⟨hnF, hnH⟩
          clear hv0 m0 m1 m2 hnF hnH hsz0
          go_upto_region 27 with fail
          refine plain_region16 (fun V => V.cell? ⟨gc, 1, none⟩ = some (.slice ba n bc) ∧ V.cell? ⟨gc, 2, none⟩ = some (.int .i64 nn)) 14 (by kernel_rfl) (by rw [HV0.out]; exact hc0) (fun hHeld => ?_)
          rw [HV0.out] at hHeld ⊢
          clear hc0
          refine wpAnyK_take (i := 0) (v := .pointer (some ⟨f, 0, none⟩)) rfl (by kernel_rfl) (by kernel_rfl) (by kernel_rfl) (by kernel_rfl) (fun _ _ _ h => h) (Or.inl ⟨by rfl, fun w hSw => by go_simp⟩) hHeld ?_
          simp only [List.getElem_toArray, List.getElem_cons_zero, Act.put, List.setIfInBounds_toArray, List.set_cons_zero, List.set_cons_succ]
          refine wpAnyK_take (i := 1) (v := .pointer (some ⟨gc, 2, none⟩)) rfl (by kernel_rfl) (by kernel_rfl) (by kernel_rfl) (by kernel_rfl) (fun _ _ _ h => h) (Or.inl ⟨by rfl, fun w hSw => by go_simp⟩) hHeld ?_
          simp only [List.getElem_toArray, List.getElem_cons_zero, List.getElem_cons_succ, Act.put, List.setIfInBounds_toArray, List.set_cons_zero, List.set_cons_succ]
          refine wpAnyK_take (i := 2) (v := .int .i64 nn) rfl (by kernel_rfl) (by kernel_rfl) (by kernel_rfl) (by kernel_rfl) (fun _ _ _ h => h) (Or.inl ⟨by rfl, fun w hSw => by go_simp⟩) hHeld ?_
          simp only [List.getElem_toArray, List.getElem_cons_zero, List.getElem_cons_succ, Act.put, List.setIfInBounds_toArray, List.set_cons_zero, List.set_cons_succ]
          refine wpAnyK_take (i := 3) (v := .pointer (some ⟨gc, 1, none⟩)) rfl (by kernel_rfl) (by kernel_rfl) (by kernel_rfl) (by kernel_rfl) (fun _ _ _ h => h) (Or.inl ⟨by rfl, fun w hSw => by go_simp⟩) hHeld ?_
          simp only [List.getElem_toArray, List.getElem_cons_zero, List.getElem_cons_succ, Act.put, List.setIfInBounds_toArray, List.set_cons_zero, List.set_cons_succ]
          refine wpAnyK_take (i := 4) (v := .slice ba n bc) rfl (by kernel_rfl) (by kernel_rfl) (by kernel_rfl) (by kernel_rfl) (fun _ _ _ h => h) (Or.inl ⟨by rfl, fun w hSw => by go_simp⟩) hHeld ?_
          simp only [List.getElem_toArray, List.getElem_cons_zero, List.getElem_cons_succ, Act.put, List.setIfInBounds_toArray, List.set_cons_zero, List.set_cons_succ]
          refine wpAnyK_take (i := 6) (v := .pointer (some ⟨b, 0, none⟩)) rfl (by kernel_rfl) (by kernel_rfl) (by kernel_rfl) (by kernel_rfl) (fun _ _ _ h => h) (Or.inl ⟨by rfl, fun w hSw => by go_simp⟩) hHeld ?_
          simp only [List.getElem_toArray, List.getElem_cons_zero, List.getElem_cons_succ, Act.put, List.setIfInBounds_toArray, List.set_cons_zero, List.set_cons_succ]
          refine wpAnyK_take (i := 7) (v := .pointer (some ⟨gc, 2, none⟩)) rfl (by kernel_rfl) (by kernel_rfl) (by kernel_rfl) (by kernel_rfl) (fun _ _ _ h => h) (Or.inl ⟨by rfl, fun w hSw => by go_simp⟩) hHeld ?_
          simp only [List.getElem_toArray, List.getElem_cons_zero, List.getElem_cons_succ, Act.put, List.setIfInBounds_toArray, List.set_cons_zero, List.set_cons_succ]
          refine wpAnyK_take (i := 8) (v := .int .i64 nn) rfl (by kernel_rfl) (by kernel_rfl) (by kernel_rfl) (by kernel_rfl) (fun _ _ _ h => h) (Or.inl ⟨by rfl, fun w hSw => by go_simp⟩) hHeld ?_
          simp only [List.getElem_toArray, List.getElem_cons_zero, List.getElem_cons_succ, Act.put, List.setIfInBounds_toArray, List.set_cons_zero, List.set_cons_succ]
          refine wpAnyK_take (i := 9) (v := .pointer (some ⟨gc, 1, none⟩)) rfl (by kernel_rfl) (by kernel_rfl) (by kernel_rfl) (by kernel_rfl) (fun _ _ _ h => h) (Or.inl ⟨by rfl, fun w hSw => by go_simp⟩) hHeld ?_
          simp only [List.getElem_toArray, List.getElem_cons_zero, List.getElem_cons_succ, Act.put, List.setIfInBounds_toArray, List.set_cons_zero, List.set_cons_succ]
          refine wpAnyK_take (i := 10) (v := .slice ba n bc) rfl (by kernel_rfl) (by kernel_rfl) (by kernel_rfl) (by kernel_rfl) (fun _ _ _ h => h) (Or.inl ⟨by rfl, fun w hSw => by go_simp⟩) hHeld ?_
          simp only [List.getElem_toArray, List.getElem_cons_zero, List.getElem_cons_succ, Act.put, List.setIfInBounds_toArray, List.set_cons_zero, List.set_cons_succ]
          refine wpAnyK_one (i := 5) (by kernel_rfl) rfl (fun K hK => ?_)
          (try simp only [List.getElem_toArray, List.getElem_cons_zero, List.getElem_cons_succ, Act.put, List.setIfInBounds_toArray, List.set_cons_zero, List.set_cons_succ])
          go_simp
          refine (L0.out.cut1 HL5.out.2.1.ok nn HOF.out.2.2.2.2.1 ba L n bc (HOF.out.1.old L0.out.k) HOF.out.2.2.2.2.2 HOF.out.2.2.1).mono ?_
          rintro e w6 ⟨rfl, ⟨F2, hL2⟩, hk2⟩
          have L6 : Hid (Lw22 w w6 v s g f u b F2 H (cuS21 S nn L) P S P) := hL2
          have h6 := HKC.out v0 w6 F hk2 HNN.out.1 hHeld
          clear hL2 hk2 hHeld
          refine hK.out _ _ (fun _ => h6) (fun hHeld0 => ?_)
          have hHeld := hHeld0 (by decide)
          clear hHeld0 hK K
          (try simp only [List.getElem_toArray, List.getElem_cons_zero, List.getElem_cons_succ, Act.put, List.setIfInBounds_toArray, List.set_cons_zero, List.set_cons_succ])
          clear h6
          refine wpAnyK_one (i := 11) (by kernel_rfl) rfl (fun K hK => ?_)
          (try simp only [List.getElem_toArray, List.getElem_cons_zero, List.getElem_cons_succ, Act.put, List.setIfInBounds_toArray, List.set_cons_zero, List.set_cons_succ])
          go_simp
          refine (L6.out.cut2 HL5.out.2.1.ok nn ba L n bc (HOF.out.1.old L6.out.k) HOF.out.2.2.2.2.2 HOF.out.2.2.1 HOF.out.2.2.2.1).mono ?_
          rintro e w7 ⟨rfl, ⟨H2, hL3⟩, hk3⟩
          have L7 : Hid (Lw22 w w7 v s g f u b F2 H2 (cuS21 S nn L) P (cuS21 S nn L) P) := hL3
          have h7 := HKC.out w6 w7 H hk3 HNN.out.2 hHeld
          clear hL3 hk3 hHeld
          refine hK.out _ _ (fun _ => h7) (fun hHeld0 => ?_)
          have hHeld := hHeld0 (by decide)
          clear hHeld0 hK K
          (try simp only [List.getElem_toArray, List.getElem_cons_zero, List.getElem_cons_succ, Act.put, List.setIfInBounds_toArray, List.set_cons_zero, List.set_cons_succ])
          clear h7
          refine wpAnyK_one (i := 12) (by kernel_rfl) rfl (fun K hK => ?_)
          (try simp only [List.getElem_toArray, List.getElem_cons_zero, List.getElem_cons_succ, Act.put, List.setIfInBounds_toArray, List.set_cons_zero, List.set_cons_succ])
          go_simp
          refine hK.out _ _ (fun _ => hHeld) (fun hHeld0 => ?_)
          have hHeld := hHeld0 (by decide)
          clear hHeld0 hK K
          (try simp only [List.getElem_toArray, List.getElem_cons_zero, List.getElem_cons_succ, Act.put, List.setIfInBounds_toArray, List.set_cons_zero, List.set_cons_succ])
          refine wpAnyK_one (i := 13) (by kernel_rfl) rfl (fun K hK => ?_)
          (try simp only [List.getElem_toArray, List.getElem_cons_zero, List.getElem_cons_succ, Act.put, List.setIfInBounds_toArray, List.set_cons_zero, List.set_cons_succ])
          go_simp
          refine hK.out _ _ (fun _ => hHeld) (fun _ => ?_)
          clear hK K hHeld
          refine wpAnyK_done (by kernel_rfl) ?_ _
          go_wp2_with fail
          go_meet
          case rel =>
            have hq := cu_ok22 HL5.out.2.1.ok nn HOF.out.2.2.2.2.1 L
            exact ⟨cuE21 S nn n, F2, H2, _, _, rfl, rfl, L7.out, HL5.out.2.1.dev hq.1 hq.2.1 hq.2.2.1 hq.2.2.2⟩
        by_cases k3 : K = 3
        · subst k3
          go_wp2_with fail
          refine (HL5.out.1.pow1 HL5.out.2.1.ok).mono ?_
          rintro e w6 ⟨rfl, F2, hL2⟩
          obtain ⟨⟨H2, hL3⟩, f7, x7, d7⟩ := hL2.pow2
          have L7 : Hid (Lw22 w (w6.setCell ⟨b, 7, none⟩ (.bool false)) v s g f u b F2 H2 { S with on := true } P { S with on := true } P) := hL3
          clear hL2 hL3
          go_wp2_with fail
          go_meet
          case rel =>
            have ho := HL5.out.2.1.ok
            exact ⟨0, F2, H2, _, _, rfl, rfl, L7.out, HL5.out.2.1.dev ⟨ho.pg, ho.ps, ho.ac, ho.lm, ho.lf, ho.tn, ho.sh⟩ rfl rfl rfl⟩
        have k0' : (K == 0) = false := beq_eq_false_iff_ne.2 k0
        have k1' : (K == 1) = false := beq_eq_false_iff_ne.2 k1
        have k2' : (K == 2) = false := beq_eq_false_iff_ne.2 k2
        have k3' : (K == 3) = false := beq_eq_false_iff_ne.2 k3
        go_wp2_with fail
        refine (HL5.out.1.turn1 HL5.out.2.1.ok).mono ?_
        rintro e w6 ⟨rfl, F2, hL2⟩
        have L6 : Hid (Lw22 w w6 v s g f u b F2 H (tuS21 S) P S P) := hL2
        clear hL2
        go_wp2_with fail
        refine (L6.out.turn2 HL5.out.2.1.ok).mono ?_
        rintro e w7 ⟨rfl, H2, hL3⟩
        have L7 : Hid (Lw22 w w7 v s g f u b F2 H2 (tuS21 S) P (tuS21 S) P) := hL3
        clear hL3
        go_wp2_with fail
        go_meet
        case rel =>
          have hq := tu_ok22 HL5.out.2.1.ok
          exact ⟨st21 S.on, F2, H2, _, _, rfl, rfl, L7.out, HL5.out.2.1.dev hq.1 hq.2.1 hq.2.2.1 hq.2.2.2⟩
      case rest =>
        obtain ⟨E, F2, H2, S2, P2, rfl, rfl, hL2, hI2⟩ := hcut
        obtain ⟨w7, hw7⟩ : ∃ x, x = wc := ⟨_, rfl⟩
        have HW7 : Hid (wc = w7) := hw7.symm
        rw [← hw7] at hL2
        obtain ⟨u7, hu7⟩ : ∃ x, x = w7.drew := ⟨_, rfl⟩
        have HU7 : Hid (w7.drew = u7) := hu7.symm
        have L7 : Hid (Lw22 w u7 v s g f u b F2 H2 S2 P2 S2 P2 ∧ Iv22 PG PS S2 P2) := ⟨by rw [hu7]; exact hL2.below ((Below.refl _ _).drew), hI2⟩
        obtain ⟨WN, hWN⟩ : ∃ x, x = P2.wn := ⟨_, rfl⟩
        obtain ⟨PN, hPN⟩ : ∃ x, x = P2.pn := ⟨_, rfl⟩
        have hcl := L7.out.1.cells
        rw [← hWN, ← hPN, hI2.pg.1] at hcl
        have HNU : Hid (Calls Try.prog 29 #[.int .i64 E] u7 fun e w' => e = .returned (.int .i64 E) ∧ w' = u7) := pnum22 E u7
        have HWR : Hid (Calls Try.prog 30 #[.pointer (some ⟨v, 0, none⟩)] u7 fun e w' => e = .returned (.int .i64 (WN : Int)) ∧ w' = u7) := by rw [hWN]; exact pwn22 L7.out.1.pe.wr
        have HPA : Hid (Calls Try.prog 31 #[.pointer (some ⟨v, 0, none⟩)] u7 fun e w' => e = .returned (.int .i64 (PN : Int)) ∧ w' = u7) := by rw [hPN]; exact ppn22 L7.out.1.pe.wr
        have HRO : Hid (Calls Try.prog 21 #[.pointer (some ⟨v, 0, none⟩)] u7 fun e w' => e = .returned (.int .i64 (PG : Int)) ∧ w' = u7) := by rw [← hI2.pg.1]; exact prm22 L7.out.1.pe.wr
        have HSL : Hid (Calls Try.prog 32 #[.pointer (some ⟨f, 0, none⟩), .pointer (some ⟨b, 0, none⟩)] u7 fun e w' => e = .returned (.bool true) ∧ Lw22 w w' v s g f u b F2 H2 S2 P2 S2 P2) := L7.out.1.log hI2.ok rfl (by have h1 := hI2.lg; have h2 := HPG.out.2.2; omega)
        clear m0 m1 m2 e0 e1 e2 hL2 hI2 hw7 hu7 hWN hPN
        go_upto_region 31 with fail
        rw [HW7.out]
        refine plain_region16 (fun V => V.cell? ⟨u, 3, none⟩ = some (.int .i64 (WN : Int)) ∧ V.cell? ⟨u, 4, none⟩ = some (.int .i64 (PN : Int)) ∧ V.cell? ⟨b, 0, none⟩ = some (.int .i64 (PG : Int))) 37 (by kernel_rfl) (by rw [HU7.out]; exact hcl) (fun hHeld => ?_)
        rw [HU7.out] at hHeld ⊢
        clear hcl
        refine wpAnyK_take (i := 0) (v := .int .i64 E) rfl (by kernel_rfl) (by kernel_rfl) (by kernel_rfl) (by kernel_rfl) (fun _ _ _ h => h) (Or.inl ⟨by rfl, fun w hSw => by go_simp⟩) hHeld ?_
        simp only [List.getElem_toArray, List.getElem_cons_zero, Act.put, List.setIfInBounds_toArray, List.set_cons_zero, List.set_cons_succ]
        refine wpAnyK_take (i := 2) (v := .int .i64 E) rfl (by kernel_rfl) (by kernel_rfl) (by kernel_rfl) (by kernel_rfl) (fun _ _ _ h => h) (Or.inl ⟨by rfl, fun w hSw => by go_simp⟩) hHeld ?_
        simp only [List.getElem_toArray, List.getElem_cons_zero, List.getElem_cons_succ, Act.put, List.setIfInBounds_toArray, List.set_cons_zero, List.set_cons_succ]
        refine wpAnyK_one (i := 1) (by kernel_rfl) rfl (fun K hK => ?_)
        (try simp only [List.getElem_toArray, List.getElem_cons_zero, List.getElem_cons_succ, Act.put, List.setIfInBounds_toArray, List.set_cons_zero, List.set_cons_succ])
        go_simp
        refine HNU.out.mono ?_
        rintro e w' ⟨rfl, hw'⟩
        subst w'
        refine hK.out _ _ (fun _ => hHeld) (fun hHeld0 => ?_)
        have hHeld := hHeld0 (by decide)
        clear hHeld0 hK K
        (try simp only [List.getElem_toArray, List.getElem_cons_zero, List.getElem_cons_succ, Act.put, List.setIfInBounds_toArray, List.set_cons_zero, List.set_cons_succ])
        refine wpAnyK_one (i := 3) (by kernel_rfl) rfl (fun K hK => ?_)
        (try simp only [List.getElem_toArray, List.getElem_cons_zero, List.getElem_cons_succ, Act.put, List.setIfInBounds_toArray, List.set_cons_zero, List.set_cons_succ])
        go_simp
        refine hK.out _ _ (fun _ => hHeld) (fun hHeld0 => ?_)
        have hHeld := hHeld0 (by decide)
        clear hHeld0 hK K
        (try simp only [List.getElem_toArray, List.getElem_cons_zero, List.getElem_cons_succ, Act.put, List.setIfInBounds_toArray, List.set_cons_zero, List.set_cons_succ])
        refine wpAnyK_one (i := 4) (by kernel_rfl) rfl (fun K hK => ?_)
        (try simp only [List.getElem_toArray, List.getElem_cons_zero, List.getElem_cons_succ, Act.put, List.setIfInBounds_toArray, List.set_cons_zero, List.set_cons_succ])
        go_simp
        refine hK.out _ _ (fun _ => hHeld) (fun hHeld0 => ?_)
        have hHeld := hHeld0 (by decide)
        clear hHeld0 hK K
        (try simp only [List.getElem_toArray, List.getElem_cons_zero, List.getElem_cons_succ, Act.put, List.setIfInBounds_toArray, List.set_cons_zero, List.set_cons_succ])
        refine wpAnyK_take (i := 5) (v := .pointer (some ⟨v, 0, none⟩)) rfl (by kernel_rfl) (by kernel_rfl) (by kernel_rfl) (by kernel_rfl) (fun _ _ _ h => h) (Or.inl ⟨by rfl, fun w hSw => by go_simp⟩) hHeld ?_
        simp only [List.getElem_toArray, List.getElem_cons_zero, List.getElem_cons_succ, Act.put, List.setIfInBounds_toArray, List.set_cons_zero, List.set_cons_succ]
        refine wpAnyK_take (i := 7) (v := .pointer (some ⟨u, 0, none⟩)) rfl (by kernel_rfl) (by kernel_rfl) (by kernel_rfl) (by kernel_rfl) (fun _ _ _ h => h) (Or.inl ⟨by rfl, fun w hSw => by go_simp⟩) hHeld ?_
        simp only [List.getElem_toArray, List.getElem_cons_zero, List.getElem_cons_succ, Act.put, List.setIfInBounds_toArray, List.set_cons_zero, List.set_cons_succ]
        refine wpAnyK_take (i := 8) (v := .pointer (some ⟨u, 0, none⟩)) rfl (by kernel_rfl) (by kernel_rfl) (by kernel_rfl) (by kernel_rfl) (fun _ _ _ h => h) (Or.inl ⟨by rfl, fun w hSw => by go_simp⟩) hHeld ?_
        simp only [List.getElem_toArray, List.getElem_cons_zero, List.getElem_cons_succ, Act.put, List.setIfInBounds_toArray, List.set_cons_zero, List.set_cons_succ]
        refine wpAnyK_take (i := 9) (v := .pointer (some ⟨u, 3, none⟩)) rfl (by kernel_rfl) (by kernel_rfl) (by kernel_rfl) (by kernel_rfl) (fun _ _ _ h => h) (Or.inl ⟨by rfl, fun w hSw => by go_simp⟩) hHeld ?_
        simp only [List.getElem_toArray, List.getElem_cons_zero, List.getElem_cons_succ, Act.put, List.setIfInBounds_toArray, List.set_cons_zero, List.set_cons_succ]
        refine wpAnyK_take (i := 10) (v := .int .i64 (WN : Int)) rfl (by kernel_rfl) (by kernel_rfl) (by kernel_rfl) (by kernel_rfl) (fun _ _ _ h => h) (Or.inl ⟨by rfl, fun w hSw => by go_simp⟩) hHeld ?_
        simp only [List.getElem_toArray, List.getElem_cons_zero, List.getElem_cons_succ, Act.put, List.setIfInBounds_toArray, List.set_cons_zero, List.set_cons_succ]
        refine wpAnyK_one (i := 6) (by kernel_rfl) rfl (fun K hK => ?_)
        (try simp only [List.getElem_toArray, List.getElem_cons_zero, List.getElem_cons_succ, Act.put, List.setIfInBounds_toArray, List.set_cons_zero, List.set_cons_succ])
        go_simp
        refine HWR.out.mono ?_
        rintro e w' ⟨rfl, hw'⟩
        subst w'
        refine hK.out _ _ (fun _ => hHeld) (fun hHeld0 => ?_)
        have hHeld := hHeld0 (by decide)
        clear hHeld0 hK K
        (try simp only [List.getElem_toArray, List.getElem_cons_zero, List.getElem_cons_succ, Act.put, List.setIfInBounds_toArray, List.set_cons_zero, List.set_cons_succ])
        refine wpAnyK_one (i := 11) (by kernel_rfl) rfl (fun K hK => ?_)
        (try simp only [List.getElem_toArray, List.getElem_cons_zero, List.getElem_cons_succ, Act.put, List.setIfInBounds_toArray, List.set_cons_zero, List.set_cons_succ])
        go_simp
        refine hK.out _ _ (fun _ => hHeld) (fun hHeld0 => ?_)
        have hHeld := hHeld0 (by decide)
        clear hHeld0 hK K
        (try simp only [List.getElem_toArray, List.getElem_cons_zero, List.getElem_cons_succ, Act.put, List.setIfInBounds_toArray, List.set_cons_zero, List.set_cons_succ])
        refine wpAnyK_one (i := 12) (by kernel_rfl) rfl (fun K hK => ?_)
        (try simp only [List.getElem_toArray, List.getElem_cons_zero, List.getElem_cons_succ, Act.put, List.setIfInBounds_toArray, List.set_cons_zero, List.set_cons_succ])
        go_simp
        refine hK.out _ _ (fun _ => hHeld) (fun hHeld0 => ?_)
        have hHeld := hHeld0 (by decide)
        clear hHeld0 hK K
        (try simp only [List.getElem_toArray, List.getElem_cons_zero, List.getElem_cons_succ, Act.put, List.setIfInBounds_toArray, List.set_cons_zero, List.set_cons_succ])
        refine wpAnyK_one (i := 13) (by kernel_rfl) rfl (fun K hK => ?_)
        (try simp only [List.getElem_toArray, List.getElem_cons_zero, List.getElem_cons_succ, Act.put, List.setIfInBounds_toArray, List.set_cons_zero, List.set_cons_succ])
        go_simp
        refine hK.out _ _ (fun _ => hHeld) (fun hHeld0 => ?_)
        have hHeld := hHeld0 (by decide)
        clear hHeld0 hK K
        (try simp only [List.getElem_toArray, List.getElem_cons_zero, List.getElem_cons_succ, Act.put, List.setIfInBounds_toArray, List.set_cons_zero, List.set_cons_succ])
        refine wpAnyK_take (i := 14) (v := .pointer (some ⟨v, 0, none⟩)) rfl (by kernel_rfl) (by kernel_rfl) (by kernel_rfl) (by kernel_rfl) (fun _ _ _ h => h) (Or.inl ⟨by rfl, fun w hSw => by go_simp⟩) hHeld ?_
        simp only [List.getElem_toArray, List.getElem_cons_zero, List.getElem_cons_succ, Act.put, List.setIfInBounds_toArray, List.set_cons_zero, List.set_cons_succ]
        refine wpAnyK_take (i := 16) (v := .pointer (some ⟨u, 0, none⟩)) rfl (by kernel_rfl) (by kernel_rfl) (by kernel_rfl) (by kernel_rfl) (fun _ _ _ h => h) (Or.inl ⟨by rfl, fun w hSw => by go_simp⟩) hHeld ?_
        simp only [List.getElem_toArray, List.getElem_cons_zero, List.getElem_cons_succ, Act.put, List.setIfInBounds_toArray, List.set_cons_zero, List.set_cons_succ]
        refine wpAnyK_take (i := 17) (v := .pointer (some ⟨u, 0, none⟩)) rfl (by kernel_rfl) (by kernel_rfl) (by kernel_rfl) (by kernel_rfl) (fun _ _ _ h => h) (Or.inl ⟨by rfl, fun w hSw => by go_simp⟩) hHeld ?_
        simp only [List.getElem_toArray, List.getElem_cons_zero, List.getElem_cons_succ, Act.put, List.setIfInBounds_toArray, List.set_cons_zero, List.set_cons_succ]
        refine wpAnyK_take (i := 18) (v := .pointer (some ⟨u, 4, none⟩)) rfl (by kernel_rfl) (by kernel_rfl) (by kernel_rfl) (by kernel_rfl) (fun _ _ _ h => h) (Or.inl ⟨by rfl, fun w hSw => by go_simp⟩) hHeld ?_
        simp only [List.getElem_toArray, List.getElem_cons_zero, List.getElem_cons_succ, Act.put, List.setIfInBounds_toArray, List.set_cons_zero, List.set_cons_succ]
        refine wpAnyK_take (i := 19) (v := .int .i64 (PN : Int)) rfl (by kernel_rfl) (by kernel_rfl) (by kernel_rfl) (by kernel_rfl) (fun _ _ _ h => h) (Or.inl ⟨by rfl, fun w hSw => by go_simp⟩) hHeld ?_
        simp only [List.getElem_toArray, List.getElem_cons_zero, List.getElem_cons_succ, Act.put, List.setIfInBounds_toArray, List.set_cons_zero, List.set_cons_succ]
        refine wpAnyK_one (i := 15) (by kernel_rfl) rfl (fun K hK => ?_)
        (try simp only [List.getElem_toArray, List.getElem_cons_zero, List.getElem_cons_succ, Act.put, List.setIfInBounds_toArray, List.set_cons_zero, List.set_cons_succ])
        go_simp
        refine HPA.out.mono ?_
        rintro e w' ⟨rfl, hw'⟩
        subst w'
        refine hK.out _ _ (fun _ => hHeld) (fun hHeld0 => ?_)
        have hHeld := hHeld0 (by decide)
        clear hHeld0 hK K
        (try simp only [List.getElem_toArray, List.getElem_cons_zero, List.getElem_cons_succ, Act.put, List.setIfInBounds_toArray, List.set_cons_zero, List.set_cons_succ])
        refine wpAnyK_one (i := 20) (by kernel_rfl) rfl (fun K hK => ?_)
        (try simp only [List.getElem_toArray, List.getElem_cons_zero, List.getElem_cons_succ, Act.put, List.setIfInBounds_toArray, List.set_cons_zero, List.set_cons_succ])
        go_simp
        refine hK.out _ _ (fun _ => hHeld) (fun hHeld0 => ?_)
        have hHeld := hHeld0 (by decide)
        clear hHeld0 hK K
        (try simp only [List.getElem_toArray, List.getElem_cons_zero, List.getElem_cons_succ, Act.put, List.setIfInBounds_toArray, List.set_cons_zero, List.set_cons_succ])
        refine wpAnyK_one (i := 21) (by kernel_rfl) rfl (fun K hK => ?_)
        (try simp only [List.getElem_toArray, List.getElem_cons_zero, List.getElem_cons_succ, Act.put, List.setIfInBounds_toArray, List.set_cons_zero, List.set_cons_succ])
        go_simp
        refine hK.out _ _ (fun _ => hHeld) (fun hHeld0 => ?_)
        have hHeld := hHeld0 (by decide)
        clear hHeld0 hK K
        (try simp only [List.getElem_toArray, List.getElem_cons_zero, List.getElem_cons_succ, Act.put, List.setIfInBounds_toArray, List.set_cons_zero, List.set_cons_succ])
        refine wpAnyK_one (i := 22) (by kernel_rfl) rfl (fun K hK => ?_)
        (try simp only [List.getElem_toArray, List.getElem_cons_zero, List.getElem_cons_succ, Act.put, List.setIfInBounds_toArray, List.set_cons_zero, List.set_cons_succ])
        go_simp
        refine hK.out _ _ (fun _ => hHeld) (fun hHeld0 => ?_)
        have hHeld := hHeld0 (by decide)
        clear hHeld0 hK K
        (try simp only [List.getElem_toArray, List.getElem_cons_zero, List.getElem_cons_succ, Act.put, List.setIfInBounds_toArray, List.set_cons_zero, List.set_cons_succ])
        refine wpAnyK_take (i := 23) (v := .pointer (some ⟨v, 0, none⟩)) rfl (by kernel_rfl) (by kernel_rfl) (by kernel_rfl) (by kernel_rfl) (fun _ _ _ h => h) (Or.inl ⟨by rfl, fun w hSw => by go_simp⟩) hHeld ?_
        simp only [List.getElem_toArray, List.getElem_cons_zero, List.getElem_cons_succ, Act.put, List.setIfInBounds_toArray, List.set_cons_zero, List.set_cons_succ]
        refine wpAnyK_take (i := 25) (v := .pointer (some ⟨b, 0, none⟩)) rfl (by kernel_rfl) (by kernel_rfl) (by kernel_rfl) (by kernel_rfl) (fun _ _ _ h => h) (Or.inl ⟨by rfl, fun w hSw => by go_simp⟩) hHeld ?_
        simp only [List.getElem_toArray, List.getElem_cons_zero, List.getElem_cons_succ, Act.put, List.setIfInBounds_toArray, List.set_cons_zero, List.set_cons_succ]
        refine wpAnyK_take (i := 26) (v := .pointer (some ⟨b, 0, none⟩)) rfl (by kernel_rfl) (by kernel_rfl) (by kernel_rfl) (by kernel_rfl) (fun _ _ _ h => h) (Or.inl ⟨by rfl, fun w hSw => by go_simp⟩) hHeld ?_
        simp only [List.getElem_toArray, List.getElem_cons_zero, List.getElem_cons_succ, Act.put, List.setIfInBounds_toArray, List.set_cons_zero, List.set_cons_succ]
        refine wpAnyK_take (i := 27) (v := .pointer (some ⟨b, 0, none⟩)) rfl (by kernel_rfl) (by kernel_rfl) (by kernel_rfl) (by kernel_rfl) (fun _ _ _ h => h) (Or.inl ⟨by rfl, fun w hSw => by go_simp⟩) hHeld ?_
        simp only [List.getElem_toArray, List.getElem_cons_zero, List.getElem_cons_succ, Act.put, List.setIfInBounds_toArray, List.set_cons_zero, List.set_cons_succ]
        refine wpAnyK_take (i := 28) (v := .int .i64 (PG : Int)) rfl (by kernel_rfl) (by kernel_rfl) (by kernel_rfl) (by kernel_rfl) (fun _ _ _ h => h) (Or.inl ⟨by rfl, fun w hSw => by go_simp⟩) hHeld ?_
        simp only [List.getElem_toArray, List.getElem_cons_zero, List.getElem_cons_succ, Act.put, List.setIfInBounds_toArray, List.set_cons_zero, List.set_cons_succ]
        refine wpAnyK_one (i := 24) (by kernel_rfl) rfl (fun K hK => ?_)
        (try simp only [List.getElem_toArray, List.getElem_cons_zero, List.getElem_cons_succ, Act.put, List.setIfInBounds_toArray, List.set_cons_zero, List.set_cons_succ])
        go_simp
        refine HRO.out.mono ?_
        rintro e w' ⟨rfl, hw'⟩
        subst w'
        refine hK.out _ _ (fun _ => hHeld) (fun hHeld0 => ?_)
        have hHeld := hHeld0 (by decide)
        clear hHeld0 hK K
        (try simp only [List.getElem_toArray, List.getElem_cons_zero, List.getElem_cons_succ, Act.put, List.setIfInBounds_toArray, List.set_cons_zero, List.set_cons_succ])
        refine wpAnyK_one (i := 29) (by kernel_rfl) rfl (fun K hK => ?_)
        (try simp only [List.getElem_toArray, List.getElem_cons_zero, List.getElem_cons_succ, Act.put, List.setIfInBounds_toArray, List.set_cons_zero, List.set_cons_succ])
        go_simp
        refine hK.out _ _ (fun _ => hHeld) (fun hHeld0 => ?_)
        have hHeld := hHeld0 (by decide)
        clear hHeld0 hK K
        (try simp only [List.getElem_toArray, List.getElem_cons_zero, List.getElem_cons_succ, Act.put, List.setIfInBounds_toArray, List.set_cons_zero, List.set_cons_succ])
        refine wpAnyK_one (i := 30) (by kernel_rfl) rfl (fun K hK => ?_)
        (try simp only [List.getElem_toArray, List.getElem_cons_zero, List.getElem_cons_succ, Act.put, List.setIfInBounds_toArray, List.set_cons_zero, List.set_cons_succ])
        go_simp
        refine hK.out _ _ (fun _ => hHeld) (fun hHeld0 => ?_)
        have hHeld := hHeld0 (by decide)
        clear hHeld0 hK K
        (try simp only [List.getElem_toArray, List.getElem_cons_zero, List.getElem_cons_succ, Act.put, List.setIfInBounds_toArray, List.set_cons_zero, List.set_cons_succ])
        refine wpAnyK_one (i := 31) (by kernel_rfl) rfl (fun K hK => ?_)
        (try simp only [List.getElem_toArray, List.getElem_cons_zero, List.getElem_cons_succ, Act.put, List.setIfInBounds_toArray, List.set_cons_zero, List.set_cons_succ])
        go_simp
        refine hK.out _ _ (fun _ => hHeld) (fun hHeld0 => ?_)
        have hHeld := hHeld0 (by decide)
        clear hHeld0 hK K
        (try simp only [List.getElem_toArray, List.getElem_cons_zero, List.getElem_cons_succ, Act.put, List.setIfInBounds_toArray, List.set_cons_zero, List.set_cons_succ])
        refine wpAnyK_take (i := 32) (v := .pointer (some ⟨f, 0, none⟩)) rfl (by kernel_rfl) (by kernel_rfl) (by kernel_rfl) (by kernel_rfl) (fun _ _ _ h => h) (Or.inl ⟨by rfl, fun w hSw => by go_simp⟩) hHeld ?_
        simp only [List.getElem_toArray, List.getElem_cons_zero, List.getElem_cons_succ, Act.put, List.setIfInBounds_toArray, List.set_cons_zero, List.set_cons_succ]
        refine wpAnyK_take (i := 33) (v := .pointer (some ⟨b, 0, none⟩)) rfl (by kernel_rfl) (by kernel_rfl) (by kernel_rfl) (by kernel_rfl) (fun _ _ _ h => h) (Or.inl ⟨by rfl, fun w hSw => by go_simp⟩) hHeld ?_
        simp only [List.getElem_toArray, List.getElem_cons_zero, List.getElem_cons_succ, Act.put, List.setIfInBounds_toArray, List.set_cons_zero, List.set_cons_succ]
        refine wpAnyK_one (i := 34) (by kernel_rfl) rfl (fun K hK => ?_)
        (try simp only [List.getElem_toArray, List.getElem_cons_zero, List.getElem_cons_succ, Act.put, List.setIfInBounds_toArray, List.set_cons_zero, List.set_cons_succ])
        go_simp
        refine HSL.out.mono ?_
        rintro e w8 ⟨rfl, hL8⟩
        have L8 : Hid (Lw22 w w8 v s g f u b F2 H2 S2 P2 S2 P2) := hL8
        have hcl8 : w8.cell? ⟨u, 3, none⟩ = some (.int .i64 (WN : Int)) ∧ w8.cell? ⟨u, 4, none⟩ = some (.int .i64 (PN : Int)) ∧ w8.cell? ⟨b, 0, none⟩ = some (.int .i64 (PG : Int)) := by
          have h1 := L8.out.cells
          have h2 := L7.out.1.cells
          rw [hHeld.1] at h2
          rw [hHeld.2.1, hHeld.2.2] at h2
          simp only [Option.some.injEq, Value.int.injEq, true_and] at h2
          rw [← h2.1, ← h2.2.1, ← h2.2.2] at h1
          exact h1
        clear hL8
        refine hK.out _ _ (fun _ => hcl8) (fun hHeld0 => ?_)
        have hHeld := hHeld0 (by decide)
        clear hHeld0 hK K
        (try simp only [List.getElem_toArray, List.getElem_cons_zero, List.getElem_cons_succ, Act.put, List.setIfInBounds_toArray, List.set_cons_zero, List.set_cons_succ])
        clear hcl8
        refine wpAnyK_one (i := 35) (by kernel_rfl) rfl (fun K hK => ?_)
        (try simp only [List.getElem_toArray, List.getElem_cons_zero, List.getElem_cons_succ, Act.put, List.setIfInBounds_toArray, List.set_cons_zero, List.set_cons_succ])
        go_simp
        refine hK.out _ _ (fun _ => hHeld) (fun hHeld0 => ?_)
        have hHeld := hHeld0 (by decide)
        clear hHeld0 hK K
        (try simp only [List.getElem_toArray, List.getElem_cons_zero, List.getElem_cons_succ, Act.put, List.setIfInBounds_toArray, List.set_cons_zero, List.set_cons_succ])
        refine wpAnyK_one (i := 36) (by kernel_rfl) rfl (fun K hK => ?_)
        (try simp only [List.getElem_toArray, List.getElem_cons_zero, List.getElem_cons_succ, Act.put, List.setIfInBounds_toArray, List.set_cons_zero, List.set_cons_succ])
        go_simp
        refine hK.out _ _ (fun _ => hHeld) (fun _ => ?_)
        clear hK K hHeld
        refine wpAnyK_done (by kernel_rfl) ?_ _
        go_wp2_with fail
        go_roundw
        case rel => exact ⟨i + 1, F2, H2, S2, P2, by omega, rfl, L8.out, L7.out.2⟩
        case measure => simp [intOf]; omega
    · have hii : ¬ (i : Int) < (len : Int) := by omega
      obtain ⟨w9, hw9⟩ : ∃ x, x = wr := ⟨_, rfl⟩
      have HW9 : Hid (wr = w9) := hw9.symm
      rw [← hw9] at hL
      have HBY : Hid (Calls Try.prog 33 #[.pointer (some ⟨f, 0, none⟩), .pointer (some ⟨b, 0, none⟩)] w9 fun e w' => e = .returned (.bool true) ∧ Below w.heap.size w w') := hL.bytes hI.ok
      clear hL hI hw9
      go_wp2_with fail
      rw [HW9.out]
      refine HBY.out.mono ?_
      rintro e w10 ⟨rfl, hb⟩
      have HB10 : Hid (Below w.heap.size w w10) := hb
      clear hb
      go_wp2_with fail
      go_ret
      exact ⟨rfl, HB10.out⟩
end Go.Proofs.Ythefcmhmcgjcoaa
