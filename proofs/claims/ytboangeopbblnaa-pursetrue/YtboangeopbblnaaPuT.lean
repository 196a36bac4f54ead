
import Derived.Test.YtboangeopbblnaaPuK
import Derived.Test.YtboangeopbblnaaPuF
import Derived.Deep.CutRange
namespace Go.Proofs.Ytboangeopbblnaa
open Go.RowKit Go.Maps Go.WideMaps Go.MuLone Go.Shelf
set_option linter.unusedVariables false
set_option linter.unusedSimpArgs false
set_option maxRecDepth 100000

/-! PurseTrue. -/
set_option maxRecDepth 100000 in
set_option maxHeartbeats 16000000 in
theorem purseTrue_walk (w : World) (sa : Option Addr) (len cap : Nat) (O : Nat → Oq23) (so : Ss23 w sa len O) (hlen : len * 32 ≤ 140737488351232) :
    Calls Try.prog 5 #[.slice sa len cap] w fun e w' => e = .returned (.bool true) ∧ Below w.heap.size w w' := by
  have HSO : Hid (Ss23 w sa len O) := so
  clear so
  have HNW : Hid (∀ W : World, Calls Try.prog 10 #[] W fun e w' => e = .returned (.pointer (some ⟨W.heap.size + 2, 0, none⟩)) ∧ Pm23 w' (W.heap.size + 2) (W.heap.size + 1) W.heap.size ⟨[], 0⟩ ∧ Below W.heap.size W w') := pnew23
  have nq : ∀ (W : World) (a : Addr), (binOp .eql 24 (.pointer (some a)) (.pointer none)).run Try.prog W = .ok (.bool false) W := fun W a => by kernel_rfl
  go_enter Try.func5, Try.ntmps5
  go_wp2_with fail
  refine (HNW.out _).mono ?_
  rintro e w1 ⟨rfl, h1, b1⟩
  obtain ⟨p, hp⟩ : ∃ p, p = w.heap.size + 2 := ⟨_, rfl⟩
  obtain ⟨l, hl⟩ : ∃ l, l = w.heap.size + 1 := ⟨_, rfl⟩
  obtain ⟨m, hm⟩ : ∃ m, m = w.heap.size := ⟨_, rfl⟩
  rw [← hp, ← hl, ← hm] at h1
  rw [← hp]
  have H1 : Hid (Pm23 w1 p l m ⟨[], 0⟩ ∧ Below w.heap.size w w1 ∧ (w.heap.size ≤ l ∧ w.heap.size ≤ m)) := ⟨h1, b1, by omega, by omega⟩
  clear hp hl hm h1 b1
  go_wp2_with fail
  refine (HNW.out _).mono ?_
  rintro e w2 ⟨rfl, h2, b2⟩
  obtain ⟨q, hq⟩ : ∃ q, q = w1.heap.size + 2 := ⟨_, rfl⟩
  obtain ⟨r, hr⟩ : ∃ r, r = w1.heap.size + 1 := ⟨_, rfl⟩
  obtain ⟨n, hn⟩ : ∃ n, n = w1.heap.size := ⟨_, rfl⟩
  rw [← hq, ← hr, ← hn] at h2
  rw [← hq]
  have HP : Hid (Pr23 w w2 p l m q r n ⟨[], 0⟩ ⟨[], 0⟩) := pr_new23 H1.out.1 H1.out.2.1 h2 b2 H1.out.2.2 ⟨by omega, by omega, by omega⟩
  clear hq hr hn h2 b2 H1 HNW
  have HB2 : Hid (l < w2.heap.size ∧ m < w2.heap.size ∧ r < w2.heap.size ∧ n < w2.heap.size) := ⟨HP.out.a.lg.lt.1, HP.out.a.lg.lt.2, HP.out.b.lg.lt.1, HP.out.b.lg.lt.2⟩
  obtain ⟨B, hB⟩ : ∃ B, B = w2.heap.size := ⟨_, rfl⟩
  have HB : Hid (w2.heap.size = B) := hB.symm
  have HLT : Hid ((p < B ∧ l < B ∧ m < B ∧ q < B ∧ r < B ∧ n < B) ∧ w.heap.size ≤ B) := by
    have h1 := (Array.getElem?_eq_some_iff.1 HP.out.a.hp).1
    have h2 := (Array.getElem?_eq_some_iff.1 HP.out.b.hp).1
    have h3 := HB2.out
    exact ⟨by omega, by rw [hB]; exact HP.out.k.size⟩
  clear hB
  go_wp2_with fail
  go_loopw [5, 6, 26] (fun t5 t6 ti wr => ∃ (i : Nat) (acc : List (ByteArray × Int)) (S : Pu23) (va vb : Value), va = t5 ∧ vb = t6 ∧ i ≤ len ∧ ti = .int .i64 (i : Int) ∧ Nn23 S acc ∧ Pr23 w wr p l m q r n S ⟨[], 0⟩ ∧ wr.ownsRow B 9 1 va (acc.map Prod.fst).length ((acc.map Prod.fst).map Value.string) ∧ wr.ownsRow B 3 1 vb (acc.map Prod.snd).length ((acc.map Prod.snd).map (Value.int .i64)) ∧ B ≤ wr.heap.size) (fun _ _ ti _ => len - (intOf ti).toNat)
  case atStart => exact ⟨0, [], ⟨[], 0⟩, _, _, rfl, rfl, by omega, rfl, ⟨rfl, List.Perm.refl _⟩, HP.out, World.ownsRow_nil _ _ _ _, World.ownsRow_nil _ _ _ _, by rw [HB.out]; exact Nat.le_refl _⟩
  case round =>

    obtain ⟨i, acc, S, va, vb, rfl, rfl, hin, rfl, hN, hP, hA, hZ, hge⟩ := hrel
    by_cases hi : i < len
    · have hii : (i : Int) < (len : Int) := by omega
      have hiw : IntKind.i64.wrap ((i : Int) + 1) = ((i + 1 : Nat) : Int) := by rw [IntWalk.i64_in _ (by omega)]; omega
      obtain ⟨g, off, hsa, e0, e1, e2⟩ := HSO.out.at_ i hi
      have hof := HSO.out.of i hi
      subst hsa
      have hgl := World.block_lt_of_cell? w _ e0
      replace e0 := (hP.k.cell (p := ⟨g, off + i * 3, none⟩) hgl).trans e0
      replace e1 := (hP.k.cell (p := ⟨g, off + i * 3 + 1, none⟩) hgl).trans e1
      replace e2 := (hP.k.cell (p := ⟨g, off + i * 3 + 2, none⟩) hgl).trans e2
      obtain ⟨u, hu⟩ : ∃ u, u = wr.alloc (.cells #[.bool (O i).h, .string (O i).s, .int .i64 (O i).n] 30) := ⟨_, rfl⟩
      have HU : Hid (wr.alloc (.cells #[.bool (O i).h, .string (O i).s, .int .i64 (O i).n] 30) = u) := hu.symm
      have qu : u.heap[wr.heap.size]? = some (.cells #[.bool (O i).h, .string (O i).s, .int .i64 (O i).n] 30 (0, 0)) := by rw [hu]; exact new_blk23 _ _
      have bu : Below wr.heap.size wr u := by rw [hu]; exact (Below.refl _ _).alloc (Nat.le_refl _) _
      have ku : Kp (fun _ => False) wr u := Kp.of_below bu
      obtain ⟨gu, hgu⟩ : ∃ gu, gu = wr.heap.size := ⟨_, rfl⟩
      have HG : Hid (wr.heap.size = gu) := hgu.symm
      rw [← hgu] at qu
      have LU : Hid (Lo23 w B p l m q r n gu (O i) S ⟨[], 0⟩ u va vb (acc.map Prod.fst) (acc.map Prod.snd)) :=
        ⟨hP.below bu, own_kp hA ku (fun _ _ f => f), own_kp hZ ku (fun _ _ f => f), qu, HLT.out.1, HLT.out.2, Nat.le_trans hge bu.size⟩
      have c0 := three_cell0 qu
      have c1 := three_cell1 qu
      have c2 := three_cell2 qu
      have HN : Hid (Nn23 S acc ∧ Ok23 S) := ⟨hN, hP.a.lg.ok⟩
      have HOF : Hid (Of23 (O i)) := hof
      have HGB : Hid (B ≤ gu) := by rw [hgu]; exact hge
      clear hu qu bu ku hgu hP hA hZ hN hge hof
      cases hh : (O i).h with
      | true =>
        rw [hh] at e0 c0 HU
        go_upto_region 9 with fail
        rw [HU.out, HG.out]
        go_wp2_with fail
        go_roundw
        case rel => exact ⟨i + 1, acc, S, _, _, rfl, rfl, by omega, rfl, HN.out.1, LU.out.pr, LU.out.a, LU.out.b, LU.out.ge.2⟩
        case measure => simp [intOf]; omega
      | false =>
        rw [hh] at e0 c0 HU
        by_cases he : oE23 S (O i).s (O i).n = 0
        · have HO : Hid (Calls Try.prog 14 #[.pointer (some ⟨p, 0, none⟩), .string (O i).s, .int .i64 (O i).n] u fun e w' => e = .returned (.int .i64 0) ∧ Pr23 w w' p l m q r n (oS23 S (O i).s (O i).n) ⟨[], 0⟩ ∧ Kb23 l m r n u w') := by
            have := aOpn23 LU.out.pr HOF.out.s (O i).n
            rw [he] at this
            exact this
          have HE : Hid (oE23 S (O i).s (O i).n = 0) := he
          clear he
          go_upto_region 9 with fail
          rw [HU.out, HG.out]
          go_upto_region 10 with (go_at_call 14; refine HO.out.mono ?_; rintro e w4 ⟨rfl, hP4, hk4⟩)
          have LV : Hid (Lo23 w B p l m q r n gu (O i) (oS23 S (O i).s (O i).n) ⟨[], 0⟩ w4.drew va vb (acc.map Prod.fst) (acc.map Prod.snd)) := by
            have hlt := HLT.out.1
            have hnF : ∀ k, B ≤ k → ¬ (k = l ∨ k = m ∨ k = r ∨ k = n) := fun k hk => by omega
            have hgB : B ≤ gu := HGB.out
            exact Lo23.drew ⟨hP4, own_kp LU.out.a hk4 (fun k e => hnF k (LU.out.a.lt k e).1), own_kp LU.out.b hk4 (fun k e => hnF k (LU.out.b.lt k e).1), hk4.heap LU.out.c (hnF _ hgB), hlt, HLT.out.2, Nat.le_trans LU.out.ge.2 hk4.size⟩
          clear hP4 hk4
          obtain ⟨v0, hv0⟩ : ∃ v, v = w4.drew := ⟨_, rfl⟩
          have HV0 : Hid (w4.drew = v0) := hv0.symm
          rw [← hv0] at LV
          clear hv0
          have hAl : (acc.map Prod.fst).length ≤ 1024 := by have h1 := HN.out.1.len; have h2 := HN.out.2.ln; rw [List.length_map]; omega
          have hZl : (acc.map Prod.snd).length ≤ 1024 := by have h1 := HN.out.1.len; have h2 := HN.out.2.ln; rw [List.length_map]; omega
          have HAL : Hid ((acc.map Prod.fst).length ≤ 1024) := hAl
          have HZL : Hid ((acc.map Prod.snd).length ≤ 1024) := hZl
          clear hAl hZl c0 c1 c2
          have eA : (acc ++ [((O i).s, (O i).n)]).map Prod.fst = acc.map Prod.fst ++ [(O i).s] := by simp
          have eZ : (acc ++ [((O i).s, (O i).n)]).map Prod.snd = acc.map Prod.snd ++ [(O i).n] := by simp
          have EAZ : Hid ((acc ++ [((O i).s, (O i).n)]).map Prod.fst = acc.map Prod.fst ++ [(O i).s] ∧ (acc ++ [((O i).s, (O i).n)]).map Prod.snd = acc.map Prod.snd ++ [(O i).n]) := ⟨eA, eZ⟩
          clear eA eZ
          refine plain_region16 (fun V => V.cell? ⟨gu, 1, none⟩ = some (.string (O i).s) ∧ V.cell? ⟨gu, 2, none⟩ = some (.int .i64 (O i).n)) 11 (by kernel_rfl) (by rw [HV0.out]; exact LV.out.cells) (fun hHeld => ?_)
          rw [HV0.out] at hHeld ⊢
          refine wpAnyK_take (i := 0) (v := va) rfl (by kernel_rfl) (by kernel_rfl) (by kernel_rfl) (by kernel_rfl) (fun _ _ _ h => h) (Or.inl ⟨by rfl, fun w hSw => by go_simp⟩) hHeld ?_
          simp only [List.getElem_toArray, List.getElem_cons_zero, Act.put, List.setIfInBounds_toArray, List.set_cons_zero, List.set_cons_succ]
          refine wpAnyK_take (i := 1) (v := .pointer (some ⟨gu, 1, none⟩)) rfl (by kernel_rfl) (by kernel_rfl) (by kernel_rfl) (by kernel_rfl) (fun _ _ _ h => h) (Or.inl ⟨by rfl, fun w hSw => by go_simp⟩) hHeld ?_
          simp only [List.getElem_toArray, List.getElem_cons_zero, List.getElem_cons_succ, Act.put, List.setIfInBounds_toArray, List.set_cons_zero, List.set_cons_succ]
          refine wpAnyK_take (i := 2) (v := .string (O i).s) rfl (by kernel_rfl) (by kernel_rfl) (by kernel_rfl) (by kernel_rfl) (fun _ _ _ h => h) (Or.inl ⟨by rfl, fun w hSw => by go_simp⟩) hHeld ?_
          simp only [List.getElem_toArray, List.getElem_cons_zero, List.getElem_cons_succ, Act.put, List.setIfInBounds_toArray, List.set_cons_zero, List.set_cons_succ]
          refine wpAnyK_take (i := 5) (v := vb) rfl (by kernel_rfl) (by kernel_rfl) (by kernel_rfl) (by kernel_rfl) (fun _ _ _ h => h) (Or.inl ⟨by rfl, fun w hSw => by go_simp⟩) hHeld ?_
          simp only [List.getElem_toArray, List.getElem_cons_zero, List.getElem_cons_succ, Act.put, List.setIfInBounds_toArray, List.set_cons_zero, List.set_cons_succ]
          refine wpAnyK_take (i := 6) (v := .pointer (some ⟨gu, 2, none⟩)) rfl (by kernel_rfl) (by kernel_rfl) (by kernel_rfl) (by kernel_rfl) (fun _ _ _ h => h) (Or.inl ⟨by rfl, fun w hSw => by go_simp⟩) hHeld ?_
          simp only [List.getElem_toArray, List.getElem_cons_zero, List.getElem_cons_succ, Act.put, List.setIfInBounds_toArray, List.set_cons_zero, List.set_cons_succ]
          refine wpAnyK_take (i := 7) (v := .int .i64 (O i).n) rfl (by kernel_rfl) (by kernel_rfl) (by kernel_rfl) (by kernel_rfl) (fun _ _ _ h => h) (Or.inl ⟨by rfl, fun w hSw => by go_simp⟩) hHeld ?_
          simp only [List.getElem_toArray, List.getElem_cons_zero, List.getElem_cons_succ, Act.put, List.setIfInBounds_toArray, List.set_cons_zero, List.set_cons_succ]
          refine wpAnyK_two23 (i := 3) (j := 8) (by kernel_rfl) rfl rfl (fun K hK => ?_) (fun K hK => ?_)
          · (try simp only [List.getElem_toArray, List.getElem_cons_zero, List.getElem_cons_succ, Act.put, List.setIfInBounds_toArray, List.set_cons_zero, List.set_cons_succ])
            go_simp
            obtain ⟨v1, hv1⟩ : ∃ v, v = v0.alloc (.cells #[.string (O i).s] 9) := ⟨_, rfl⟩
            have L1 : Hid (Lo23 w B p l m q r n gu (O i) (oS23 S (O i).s (O i).n) ⟨[], 0⟩ v1 va vb (acc.map Prod.fst) (acc.map Prod.snd)) := by rw [hv1]; exact LV.out.alloc _
            have xL1 : v1.cell? ⟨v0.heap.size, 0, none⟩ = some (.string (O i).s) := by rw [hv1]; exact new_cell23 _ _ _
            have yL1 : v1.heap[v0.heap.size]? = some (.cells #[.string (O i).s] 9 (0, 0)) := by rw [hv1]; exact new_blk23 _ _
            rw [← hv1]
            clear hv1
            obtain ⟨k1, hk1⟩ : ∃ k, k = v0.heap.size := ⟨_, rfl⟩
            rw [← hk1] at xL1 yL1 ⊢
            clear hk1
            have XL1 : Hid (v1.cell? ⟨k1, 0, none⟩ = some (.string (O i).s)) := xL1
            have YL1 : Hid (v1.heap[k1]? = some (.cells #[.string (O i).s] 9 (0, 0))) := yL1
            clear xL1 yL1
            refine hK.out _ _ (fun _ => L1.out.cells) (fun hHeld0 => ?_)
            have hHeld := hHeld0 (by decide)
            clear hHeld0 hK K
            (try simp only [List.getElem_toArray, List.getElem_cons_zero, List.getElem_cons_succ, Act.put, List.setIfInBounds_toArray, List.set_cons_zero, List.set_cons_succ])
            refine wpAnyK_two23 (i := 4) (j := 8) (by kernel_rfl) rfl rfl (fun K hK => ?_) (fun K hK => ?_)
            · skip
              (try simp only [List.getElem_toArray, List.getElem_cons_zero, List.getElem_cons_succ, Act.put, List.setIfInBounds_toArray, List.set_cons_zero, List.set_cons_succ])
              rw [if_pos (by rfl)]
              obtain ⟨va2, v2, hr, LL2x, holdL2⟩ := L1.out.app_a XL1.out HAL.out _
              refine operwp_app23 _ _ _ rfl rfl rfl hr ?_
              clear hr
              have L2 : Hid (Lo23 w B p l m q r n gu (O i) (oS23 S (O i).s (O i).n) ⟨[], 0⟩ v2 va2 vb (acc.map Prod.fst ++ [(O i).s]) (acc.map Prod.snd)) := LL2x
              have HoldL2 : Hid (∀ k, va.ownBlock ≠ some k → k < v1.heap.size → v2.heap[k]? = v1.heap[k]?) := holdL2
              clear LL2x holdL2
              refine hK.out _ _ (fun _ => L2.out.cells) (fun hHeld0 => ?_)
              have hHeld := hHeld0 (by decide)
              clear hHeld0 hK K
              simp only [Act.put, List.setIfInBounds_toArray, List.set_cons_zero, List.set_cons_succ]
              refine wpAnyK_one (i := 8) (by kernel_rfl) rfl (fun K hK => ?_)
              (try simp only [List.getElem_toArray, List.getElem_cons_zero, List.getElem_cons_succ, Act.put, List.setIfInBounds_toArray, List.set_cons_zero, List.set_cons_succ])
              go_simp
              obtain ⟨v3, hv3⟩ : ∃ v, v = v2.alloc (.cells #[.int .i64 (O i).n] 3) := ⟨_, rfl⟩
              have L3 : Hid (Lo23 w B p l m q r n gu (O i) (oS23 S (O i).s (O i).n) ⟨[], 0⟩ v3 va2 vb (acc.map Prod.fst ++ [(O i).s]) (acc.map Prod.snd)) := by rw [hv3]; exact L2.out.alloc _
              have xL3 : v3.cell? ⟨v2.heap.size, 0, none⟩ = some (.int .i64 (O i).n) := by rw [hv3]; exact new_cell23 _ _ _
              have yL3 : v3.heap[v2.heap.size]? = some (.cells #[.int .i64 (O i).n] 3 (0, 0)) := by rw [hv3]; exact new_blk23 _ _
              rw [← hv3]
              clear hv3
              obtain ⟨k3, hk3⟩ : ∃ k, k = v2.heap.size := ⟨_, rfl⟩
              rw [← hk3] at xL3 yL3 ⊢
              clear hk3
              have XL3 : Hid (v3.cell? ⟨k3, 0, none⟩ = some (.int .i64 (O i).n)) := xL3
              have YL3 : Hid (v3.heap[k3]? = some (.cells #[.int .i64 (O i).n] 3 (0, 0))) := yL3
              clear xL3 yL3
              refine hK.out _ _ (fun _ => L3.out.cells) (fun hHeld0 => ?_)
              have hHeld := hHeld0 (by decide)
              clear hHeld0 hK K
              (try simp only [List.getElem_toArray, List.getElem_cons_zero, List.getElem_cons_succ, Act.put, List.setIfInBounds_toArray, List.set_cons_zero, List.set_cons_succ])
              refine wpAnyK_one (i := 9) (by kernel_rfl) rfl (fun K hK => ?_)
              (try simp only [List.getElem_toArray, List.getElem_cons_zero, List.getElem_cons_succ, Act.put, List.setIfInBounds_toArray, List.set_cons_zero, List.set_cons_succ])
              rw [if_pos (by rfl)]
              obtain ⟨vb4, v4, hr, LL4x⟩ := L3.out.app_b XL3.out HZL.out _
              refine operwp_app23 _ _ _ rfl rfl rfl hr ?_
              clear hr
              have L4 : Hid (Lo23 w B p l m q r n gu (O i) (oS23 S (O i).s (O i).n) ⟨[], 0⟩ v4 va2 vb4 (acc.map Prod.fst ++ [(O i).s]) (acc.map Prod.snd ++ [(O i).n])) := LL4x
              clear LL4x
              refine hK.out _ _ (fun _ => L4.out.cells) (fun hHeld0 => ?_)
              have hHeld := hHeld0 (by decide)
              clear hHeld0 hK K
              simp only [Act.put, List.setIfInBounds_toArray, List.set_cons_zero, List.set_cons_succ]
              refine wpAnyK_one (i := 10) (by kernel_rfl) rfl (fun K hK => ?_)
              (try simp only [List.getElem_toArray, List.getElem_cons_zero, List.getElem_cons_succ, Act.put, List.setIfInBounds_toArray, List.set_cons_zero, List.set_cons_succ])
              go_simp
              refine hK.out _ _ (fun _ => L4.out.cells) (fun hHeld0 => ?_)
              have hHeld := hHeld0 (by decide)
              clear hHeld0 hK K
              (try simp only [List.getElem_toArray, List.getElem_cons_zero, List.getElem_cons_succ, Act.put, List.setIfInBounds_toArray, List.set_cons_zero, List.set_cons_succ])
              refine wpAnyK_one (i := 11) (by kernel_rfl) rfl (fun K hK => ?_)
              (try simp only [List.getElem_toArray, List.getElem_cons_zero, List.getElem_cons_succ, Act.put, List.setIfInBounds_toArray, List.set_cons_zero, List.set_cons_succ])
              go_simp
              refine hK.out _ _ (fun h => absurd rfl h) (fun _ => ?_)
              clear hK K
              refine wpAnyK_done (by kernel_rfl) ?_ _
              go_wp2_with fail
              go_roundw
              case rel => exact ⟨i + 1, acc ++ [((O i).s, (O i).n)], oS23 S (O i).s (O i).n, _, _, rfl, rfl, by omega, rfl, HN.out.1.open_ HE.out, L4.out.pr, by rw [EAZ.out.1]; exact L4.out.a, by rw [EAZ.out.2]; exact L4.out.b, L4.out.ge.2⟩
              case measure => simp [intOf]; omega
            · (try simp only [List.getElem_toArray, List.getElem_cons_zero, List.getElem_cons_succ, Act.put, List.setIfInBounds_toArray, List.set_cons_zero, List.set_cons_succ])
              go_simp
              obtain ⟨v2, hv2⟩ : ∃ v, v = v1.alloc (.cells #[.int .i64 (O i).n] 3) := ⟨_, rfl⟩
              have L2 : Hid (Lo23 w B p l m q r n gu (O i) (oS23 S (O i).s (O i).n) ⟨[], 0⟩ v2 va vb (acc.map Prod.fst) (acc.map Prod.snd)) := by rw [hv2]; exact L1.out.alloc _
              have xL2 : v2.cell? ⟨v1.heap.size, 0, none⟩ = some (.int .i64 (O i).n) := by rw [hv2]; exact new_cell23 _ _ _
              have yL2 : v2.heap[v1.heap.size]? = some (.cells #[.int .i64 (O i).n] 3 (0, 0)) := by rw [hv2]; exact new_blk23 _ _
              have zL2 : v2.cell? ⟨k1, 0, none⟩ = some (.string (O i).s) := by rw [hv2]; exact old_cell23 XL1.out _
              rw [← hv2]
              clear hv2
              obtain ⟨k2, hk2⟩ : ∃ k, k = v1.heap.size := ⟨_, rfl⟩
              rw [← hk2] at xL2 yL2 ⊢
              clear hk2
              have XL2 : Hid (v2.cell? ⟨k2, 0, none⟩ = some (.int .i64 (O i).n)) := xL2
              have YL2 : Hid (v2.heap[k2]? = some (.cells #[.int .i64 (O i).n] 3 (0, 0))) := yL2
              have ZL2 : Hid (v2.cell? ⟨k1, 0, none⟩ = some (.string (O i).s)) := zL2
              clear xL2 yL2 zL2
              refine hK.out _ _ (fun _ => L2.out.cells) (fun hHeld0 => ?_)
              have hHeld := hHeld0 (by decide)
              clear hHeld0 hK K
              (try simp only [List.getElem_toArray, List.getElem_cons_zero, List.getElem_cons_succ, Act.put, List.setIfInBounds_toArray, List.set_cons_zero, List.set_cons_succ])
              refine wpAnyK_one (i := 4) (by kernel_rfl) rfl (fun K hK => ?_)
              (try simp only [List.getElem_toArray, List.getElem_cons_zero, List.getElem_cons_succ, Act.put, List.setIfInBounds_toArray, List.set_cons_zero, List.set_cons_succ])
              rw [if_pos (by rfl)]
              obtain ⟨va3, v3, hr, LL3x, holdL3⟩ := L2.out.app_a ZL2.out HAL.out _
              refine operwp_app23 _ _ _ rfl rfl rfl hr ?_
              clear hr
              have L3 : Hid (Lo23 w B p l m q r n gu (O i) (oS23 S (O i).s (O i).n) ⟨[], 0⟩ v3 va3 vb (acc.map Prod.fst ++ [(O i).s]) (acc.map Prod.snd)) := LL3x
              have HoldL3 : Hid (∀ k, va.ownBlock ≠ some k → k < v2.heap.size → v3.heap[k]? = v2.heap[k]?) := holdL3
              clear LL3x holdL3
              have xc : Hid (v3.cell? ⟨k2, 0, none⟩ = some (.int .i64 (O i).n)) := (World.cell?_of_block (a := ⟨k2, 0, none⟩) (HoldL3.out k2 (own_no23 L2.out.a YL2.out (by decide)) (Array.getElem?_eq_some_iff.1 YL2.out).1)).trans XL2.out
              refine hK.out _ _ (fun _ => L3.out.cells) (fun hHeld0 => ?_)
              have hHeld := hHeld0 (by decide)
              clear hHeld0 hK K
              simp only [Act.put, List.setIfInBounds_toArray, List.set_cons_zero, List.set_cons_succ]
              refine wpAnyK_one (i := 9) (by kernel_rfl) rfl (fun K hK => ?_)
              (try simp only [List.getElem_toArray, List.getElem_cons_zero, List.getElem_cons_succ, Act.put, List.setIfInBounds_toArray, List.set_cons_zero, List.set_cons_succ])
              rw [if_pos (by rfl)]
              obtain ⟨vb4, v4, hr, LL4x⟩ := L3.out.app_b xc.out HZL.out _
              refine operwp_app23 _ _ _ rfl rfl rfl hr ?_
              clear hr
              have L4 : Hid (Lo23 w B p l m q r n gu (O i) (oS23 S (O i).s (O i).n) ⟨[], 0⟩ v4 va3 vb4 (acc.map Prod.fst ++ [(O i).s]) (acc.map Prod.snd ++ [(O i).n])) := LL4x
              clear LL4x
              refine hK.out _ _ (fun _ => L4.out.cells) (fun hHeld0 => ?_)
              have hHeld := hHeld0 (by decide)
              clear hHeld0 hK K
              simp only [Act.put, List.setIfInBounds_toArray, List.set_cons_zero, List.set_cons_succ]
              refine wpAnyK_one (i := 10) (by kernel_rfl) rfl (fun K hK => ?_)
              (try simp only [List.getElem_toArray, List.getElem_cons_zero, List.getElem_cons_succ, Act.put, List.setIfInBounds_toArray, List.set_cons_zero, List.set_cons_succ])
              go_simp
              refine hK.out _ _ (fun _ => L4.out.cells) (fun hHeld0 => ?_)
              have hHeld := hHeld0 (by decide)
              clear hHeld0 hK K
              (try simp only [List.getElem_toArray, List.getElem_cons_zero, List.getElem_cons_succ, Act.put, List.setIfInBounds_toArray, List.set_cons_zero, List.set_cons_succ])
              refine wpAnyK_one (i := 11) (by kernel_rfl) rfl (fun K hK => ?_)
              (try simp only [List.getElem_toArray, List.getElem_cons_zero, List.getElem_cons_succ, Act.put, List.setIfInBounds_toArray, List.set_cons_zero, List.set_cons_succ])
              go_simp
              refine hK.out _ _ (fun h => absurd rfl h) (fun _ => ?_)
              clear hK K
              refine wpAnyK_done (by kernel_rfl) ?_ _
              go_wp2_with fail
              go_roundw
              case rel => exact ⟨i + 1, acc ++ [((O i).s, (O i).n)], oS23 S (O i).s (O i).n, _, _, rfl, rfl, by omega, rfl, HN.out.1.open_ HE.out, L4.out.pr, by rw [EAZ.out.1]; exact L4.out.a, by rw [EAZ.out.2]; exact L4.out.b, L4.out.ge.2⟩
              case measure => simp [intOf]; omega
          · (try simp only [List.getElem_toArray, List.getElem_cons_zero, List.getElem_cons_succ, Act.put, List.setIfInBounds_toArray, List.set_cons_zero, List.set_cons_succ])
            go_simp
            obtain ⟨v1, hv1⟩ : ∃ v, v = v0.alloc (.cells #[.int .i64 (O i).n] 3) := ⟨_, rfl⟩
            have L1 : Hid (Lo23 w B p l m q r n gu (O i) (oS23 S (O i).s (O i).n) ⟨[], 0⟩ v1 va vb (acc.map Prod.fst) (acc.map Prod.snd)) := by rw [hv1]; exact LV.out.alloc _
            have xL1 : v1.cell? ⟨v0.heap.size, 0, none⟩ = some (.int .i64 (O i).n) := by rw [hv1]; exact new_cell23 _ _ _
            have yL1 : v1.heap[v0.heap.size]? = some (.cells #[.int .i64 (O i).n] 3 (0, 0)) := by rw [hv1]; exact new_blk23 _ _
            rw [← hv1]
            clear hv1
            obtain ⟨k1, hk1⟩ : ∃ k, k = v0.heap.size := ⟨_, rfl⟩
            rw [← hk1] at xL1 yL1 ⊢
            clear hk1
            have XL1 : Hid (v1.cell? ⟨k1, 0, none⟩ = some (.int .i64 (O i).n)) := xL1
            have YL1 : Hid (v1.heap[k1]? = some (.cells #[.int .i64 (O i).n] 3 (0, 0))) := yL1
            clear xL1 yL1
            refine hK.out _ _ (fun _ => L1.out.cells) (fun hHeld0 => ?_)
            have hHeld := hHeld0 (by decide)
            clear hHeld0 hK K
            (try simp only [List.getElem_toArray, List.getElem_cons_zero, List.getElem_cons_succ, Act.put, List.setIfInBounds_toArray, List.set_cons_zero, List.set_cons_succ])
            refine wpAnyK_one (i := 3) (by kernel_rfl) rfl (fun K hK => ?_)
            (try simp only [List.getElem_toArray, List.getElem_cons_zero, List.getElem_cons_succ, Act.put, List.setIfInBounds_toArray, List.set_cons_zero, List.set_cons_succ])
            go_simp
            obtain ⟨v2, hv2⟩ : ∃ v, v = v1.alloc (.cells #[.string (O i).s] 9) := ⟨_, rfl⟩
            have L2 : Hid (Lo23 w B p l m q r n gu (O i) (oS23 S (O i).s (O i).n) ⟨[], 0⟩ v2 va vb (acc.map Prod.fst) (acc.map Prod.snd)) := by rw [hv2]; exact L1.out.alloc _
            have xL2 : v2.cell? ⟨v1.heap.size, 0, none⟩ = some (.string (O i).s) := by rw [hv2]; exact new_cell23 _ _ _
            have yL2 : v2.heap[v1.heap.size]? = some (.cells #[.string (O i).s] 9 (0, 0)) := by rw [hv2]; exact new_blk23 _ _
            have zL2 : v2.cell? ⟨k1, 0, none⟩ = some (.int .i64 (O i).n) := by rw [hv2]; exact old_cell23 XL1.out _
            have y1b : v2.heap[k1]? = some (.cells #[.int .i64 (O i).n] 3 (0, 0)) := by rw [hv2]; exact (((Below.refl v1.heap.size v1).alloc (Nat.le_refl _) _).block k1 (Array.getElem?_eq_some_iff.1 YL1.out).1).trans YL1.out
            rw [← hv2]
            clear hv2
            obtain ⟨k2, hk2⟩ : ∃ k, k = v1.heap.size := ⟨_, rfl⟩
            rw [← hk2] at xL2 yL2 ⊢
            clear hk2
            have XL2 : Hid (v2.cell? ⟨k2, 0, none⟩ = some (.string (O i).s)) := xL2
            have YL2 : Hid (v2.heap[k2]? = some (.cells #[.string (O i).s] 9 (0, 0))) := yL2
            have ZL2 : Hid (v2.cell? ⟨k1, 0, none⟩ = some (.int .i64 (O i).n)) := zL2
            clear xL2 yL2 zL2
            have YL1b : Hid (v2.heap[k1]? = some (.cells #[.int .i64 (O i).n] 3 (0, 0))) := y1b
            clear y1b
            refine hK.out _ _ (fun _ => L2.out.cells) (fun hHeld0 => ?_)
            have hHeld := hHeld0 (by decide)
            clear hHeld0 hK K
            (try simp only [List.getElem_toArray, List.getElem_cons_zero, List.getElem_cons_succ, Act.put, List.setIfInBounds_toArray, List.set_cons_zero, List.set_cons_succ])
            refine wpAnyK_one (i := 4) (by kernel_rfl) rfl (fun K hK => ?_)
            (try simp only [List.getElem_toArray, List.getElem_cons_zero, List.getElem_cons_succ, Act.put, List.setIfInBounds_toArray, List.set_cons_zero, List.set_cons_succ])
            rw [if_pos (by rfl)]
            obtain ⟨va3, v3, hr, LL3x, holdL3⟩ := L2.out.app_a XL2.out HAL.out _
            refine operwp_app23 _ _ _ rfl rfl rfl hr ?_
            clear hr
            have L3 : Hid (Lo23 w B p l m q r n gu (O i) (oS23 S (O i).s (O i).n) ⟨[], 0⟩ v3 va3 vb (acc.map Prod.fst ++ [(O i).s]) (acc.map Prod.snd)) := LL3x
            have HoldL3 : Hid (∀ k, va.ownBlock ≠ some k → k < v2.heap.size → v3.heap[k]? = v2.heap[k]?) := holdL3
            clear LL3x holdL3
            have xc : Hid (v3.cell? ⟨k1, 0, none⟩ = some (.int .i64 (O i).n)) := (World.cell?_of_block (a := ⟨k1, 0, none⟩) (HoldL3.out k1 (own_no23 L2.out.a YL1b.out (by decide)) (Array.getElem?_eq_some_iff.1 YL1b.out).1)).trans ZL2.out
            refine hK.out _ _ (fun _ => L3.out.cells) (fun hHeld0 => ?_)
            have hHeld := hHeld0 (by decide)
            clear hHeld0 hK K
            simp only [Act.put, List.setIfInBounds_toArray, List.set_cons_zero, List.set_cons_succ]
            refine wpAnyK_one (i := 9) (by kernel_rfl) rfl (fun K hK => ?_)
            (try simp only [List.getElem_toArray, List.getElem_cons_zero, List.getElem_cons_succ, Act.put, List.setIfInBounds_toArray, List.set_cons_zero, List.set_cons_succ])
            rw [if_pos (by rfl)]
            obtain ⟨vb4, v4, hr, LL4x⟩ := L3.out.app_b xc.out HZL.out _
            refine operwp_app23 _ _ _ rfl rfl rfl hr ?_
            clear hr
            have L4 : Hid (Lo23 w B p l m q r n gu (O i) (oS23 S (O i).s (O i).n) ⟨[], 0⟩ v4 va3 vb4 (acc.map Prod.fst ++ [(O i).s]) (acc.map Prod.snd ++ [(O i).n])) := LL4x
            clear LL4x
            refine hK.out _ _ (fun _ => L4.out.cells) (fun hHeld0 => ?_)
            have hHeld := hHeld0 (by decide)
            clear hHeld0 hK K
            simp only [Act.put, List.setIfInBounds_toArray, List.set_cons_zero, List.set_cons_succ]
            refine wpAnyK_one (i := 10) (by kernel_rfl) rfl (fun K hK => ?_)
            (try simp only [List.getElem_toArray, List.getElem_cons_zero, List.getElem_cons_succ, Act.put, List.setIfInBounds_toArray, List.set_cons_zero, List.set_cons_succ])
            go_simp
            refine hK.out _ _ (fun _ => L4.out.cells) (fun hHeld0 => ?_)
            have hHeld := hHeld0 (by decide)
            clear hHeld0 hK K
            (try simp only [List.getElem_toArray, List.getElem_cons_zero, List.getElem_cons_succ, Act.put, List.setIfInBounds_toArray, List.set_cons_zero, List.set_cons_succ])
            refine wpAnyK_one (i := 11) (by kernel_rfl) rfl (fun K hK => ?_)
            (try simp only [List.getElem_toArray, List.getElem_cons_zero, List.getElem_cons_succ, Act.put, List.setIfInBounds_toArray, List.set_cons_zero, List.set_cons_succ])
            go_simp
            refine hK.out _ _ (fun h => absurd rfl h) (fun _ => ?_)
            clear hK K
            refine wpAnyK_done (by kernel_rfl) ?_ _
            go_wp2_with fail
            go_roundw
            case rel => exact ⟨i + 1, acc ++ [((O i).s, (O i).n)], oS23 S (O i).s (O i).n, _, _, rfl, rfl, by omega, rfl, HN.out.1.open_ HE.out, L4.out.pr, by rw [EAZ.out.1]; exact L4.out.a, by rw [EAZ.out.2]; exact L4.out.b, L4.out.ge.2⟩
            case measure => simp [intOf]; omega
        · have HO : Hid (∃ E : Int, E ≠ 0 ∧ Calls Try.prog 14 #[.pointer (some ⟨p, 0, none⟩), .string (O i).s, .int .i64 (O i).n] u fun e w' => e = .returned (.int .i64 E) ∧ Pr23 w w' p l m q r n S ⟨[], 0⟩ ∧ Kb23 l m r n u w') := by
            refine ⟨_, he, ?_⟩
            have := aOpn23 LU.out.pr HOF.out.s (O i).n
            have hS : oS23 S (O i).s (O i).n = S := by unfold oS23; rw [if_neg he]
            rw [hS] at this
            exact this
          obtain ⟨E, hE, hO⟩ := HO.out
          have HO2 : Hid (Calls Try.prog 14 #[.pointer (some ⟨p, 0, none⟩), .string (O i).s, .int .i64 (O i).n] u fun e w' => e = .returned (.int .i64 E) ∧ Pr23 w w' p l m q r n S ⟨[], 0⟩ ∧ Kb23 l m r n u w') := hO
          have hE' : (E == 0) = false := by simpa using hE
          clear HO hO he
          go_upto_region 9 with fail
          rw [HU.out, HG.out]
          go_wp2_with (go_at_call 14; refine HO2.out.mono ?_; rintro e w4 ⟨rfl, hP4, hk4⟩)
          have LV : Hid (Lo23 w B p l m q r n gu (O i) S ⟨[], 0⟩ w4 va vb (acc.map Prod.fst) (acc.map Prod.snd)) := by
            have hlt := HLT.out.1
            have hnF : ∀ k, B ≤ k → ¬ (k = l ∨ k = m ∨ k = r ∨ k = n) := fun k hk => by omega
            exact ⟨hP4, own_kp LU.out.a hk4 (fun k e => hnF k (LU.out.a.lt k e).1), own_kp LU.out.b hk4 (fun k e => hnF k (LU.out.b.lt k e).1), hk4.heap LU.out.c (hnF _ HGB.out), hlt, HLT.out.2, Nat.le_trans LU.out.ge.2 hk4.size⟩
          clear hP4 hk4
          go_roundw
          case rel => exact ⟨i + 1, acc, S, _, _, rfl, rfl, by omega, rfl, HN.out.1, LV.out.pr, LV.out.a, LV.out.b, LV.out.ge.2⟩
          case measure => simp [intOf]; omega
    · have hii : ¬ (i : Int) < (len : Int) := by omega
      obtain ⟨ra, rca, hva, hna, hat⟩ := own_at23 hA
      obtain ⟨rb, rcb, hvb, hnb, hbt⟩ := own_at23 hZ
      obtain ⟨N, hNN⟩ : ∃ N, N = acc.length := ⟨_, rfl⟩
      have ea : (acc.map Prod.fst).length = N := by rw [List.length_map]; exact hNN.symm
      have eb : (acc.map Prod.snd).length = N := by rw [List.length_map]; exact hNN.symm
      rw [ea] at hva
      rw [eb] at hvb
      subst hva
      subst hvb
      obtain ⟨w3, hw3⟩ : ∃ w3, w3 = wr := ⟨_, rfl⟩
      have HW3 : Hid (w3 = wr) := hw3
      have hok := hP.a.lg.ok
      have HRW : Hid (∀ j x, acc[j]? = some x → ∃ g g', ra = some ⟨g, 0, none⟩ ∧ rb = some ⟨g', 0, none⟩ ∧ B ≤ g ∧ B ≤ g' ∧ g < w3.heap.size ∧ g' < w3.heap.size ∧ w3.cell? ⟨g, j, none⟩ = some (.string x.1) ∧ w3.cell? ⟨g', j, none⟩ = some (.int .i64 x.2)) := fun j x hx => by
        obtain ⟨g, h1, h2, h3, h4⟩ := hat j (.string x.1) (by simp [hx])
        obtain ⟨g', h5, h6, h7, h8⟩ := hbt j (.int .i64 x.2) (by simp [hx])
        rw [hw3]
        exact ⟨g, g', h1, h5, h2, h6, h3, h7, h4, h8⟩
      have H3 : Hid (Nn23 S acc ∧ Ok23 S ∧ Pr23 w w3 p l m q r n S ⟨[], 0⟩ ∧ B ≤ w3.heap.size ∧ N = acc.length ∧ N ≤ 1024) := ⟨hN, hok, by rw [hw3]; exact hP, by rw [hw3]; exact hge, hNN, by have h1 := hN.len; have h2 := hok.ln; omega⟩
      have hN24 : N ≤ 1024 := H3.out.2.2.2.2.2
      have hw1 : IntKind.i64.wrap ((N : Int) - 1) = (N : Int) - 1 := IntWalk.i64_in _ (by omega)
      clear hA hZ hat hbt hna hnb ea eb hw3 hok hN hP hge hNN
      go_wp2_with fail
      go_loopw [9] (fun t9 wv => ∃ (j : Nat) (T : Pu23), j ≤ N ∧ t9 = .int .i64 ((j : Int) - 1) ∧ Pr23 w wv p l m q r n S T ∧ Nn23 T (acc.drop j) ∧ Kb23 l m r n w3 wv) (fun t9 _ => (intOf t9 + 1).toNat)
      case atStart => exact ⟨N, ⟨[], 0⟩, Nat.le_refl _, rfl, by rw [← HW3.out]; exact H3.out.2.2.1, ⟨rfl, by rw [List.drop_eq_nil_of_le (by have := H3.out.2.2.2.2.1; omega)]; exact List.Perm.refl _⟩, by rw [← HW3.out]; exact Kp.refl _ _⟩
      case round =>
        obtain ⟨j, T, hjN, rfl, hPT, hNT, hK⟩ := hrel
        clear hw1
        by_cases hj : 0 < j
        · obtain ⟨d, rfl⟩ : ∃ d, j = d + 1 := ⟨j - 1, by omega⟩
          have hd : (((d + 1 : Nat) : Int) - 1) = (d : Int) := by omega
          rw [hd]
          have hdl : d < acc.length := by have := H3.out.2.2.2.2.1; omega
          have hdN : (d : Int) < (N : Int) := by omega
          obtain ⟨x, hx⟩ : ∃ x, acc[d]? = some x := ⟨_, List.getElem?_eq_getElem hdl⟩
          obtain ⟨g, g', hra, hrb, b1, b2, b3, b4, x1, x2⟩ := HRW.out d x hx
          obtain ⟨ag1, ag2⟩ := H3.out.1.again H3.out.2.1 hx hNT
          have hlt := HLT.out.1
          have y1 : wr.cell? ⟨g, d, none⟩ = some (.string x.1) := (World.cell?_of_block (a := ⟨g, d, none⟩) (hK.block g b3 (by omega))).trans x1
          have y2 : wr.cell? ⟨g', d, none⟩ = some (.int .i64 x.2) := (World.cell?_of_block (a := ⟨g', d, none⟩) (hK.block g' b4 (by omega))).trans x2
          have hdr : acc.drop d = x :: acc.drop (d + 1) := by
            have h1 : acc[d] = x := by rw [List.getElem?_eq_getElem hdl] at hx; injection hx
            rw [← h1]; exact List.drop_eq_getElem_cons hdl
          subst hra
          subst hrb
          have hww : IntKind.i64.wrap ((d : Int) - 1) = (d : Int) - 1 := IntWalk.i64_in _ (by omega)
          obtain ⟨v0, hv0⟩ : ∃ v, v = wr.drew := ⟨_, rfl⟩
          have HV0 : Hid (wr.drew = v0) := hv0.symm
          have HVV : Hid (Pr23 w v0 p l m q r n S T ∧ Kb23 l m r n w3 v0 ∧ v0.cell? ⟨g, d, none⟩ = some (.string x.1) ∧ v0.cell? ⟨g', d, none⟩ = some (.int .i64 x.2)) := by
            have hk : Kp (fun _ => False) wr wr.drew := (Kp.refl _ _).drew
            rw [hv0]
            exact ⟨hPT.rows hk (fun _ f => f.elim) hlt HLT.out.2, hK.drew, y1, y2⟩
          have HO : Hid (Calls Try.prog 14 #[.pointer (some ⟨q, 0, none⟩), .string x.1, .int .i64 x.2] v0 fun e w' => e = .returned (.int .i64 0) ∧ Pr23 w w' p l m q r n S (oS23 T x.1 x.2) ∧ Kb23 l m r n v0 w') := by
            have := bOpn23 HVV.out.1 ag2 x.2
            rw [ag1] at this
            exact this
          have HNX : Hid (Nn23 (oS23 T x.1 x.2) (acc.drop d)) := by rw [hdr]; exact hNT.pre ag1
          have HGB : Hid (B ≤ g ∧ B ≤ g' ∧ g < w3.heap.size ∧ g' < w3.heap.size) := ⟨b1, b2, b3, b4⟩
          clear hlt y1 y2 x1 x2 b1 b2 b3 b4 hv0 hPT hK hNT hdr hd ag1 ag2 hx hdl
          go_upto_region 15 with fail
          refine plain_region16 (fun V => V.cell? ⟨g, d, none⟩ = some (.string x.1) ∧ V.cell? ⟨g', d, none⟩ = some (.int .i64 x.2)) 11 (by kernel_rfl) (by rw [HV0.out]; exact HVV.out.2.2) (fun hHeld => ?_)
          rw [HV0.out] at hHeld ⊢
          refine wpAnyK_take (i := 0) (v := .pointer (some ⟨q, 0, none⟩)) rfl (by kernel_rfl) (by kernel_rfl) (by kernel_rfl) (by kernel_rfl) (fun _ _ _ h => h) (Or.inl ⟨by rfl, fun w hSw => by go_simp⟩) hHeld ?_
          simp only [List.getElem_toArray, List.getElem_cons_zero, Act.put, List.setIfInBounds_toArray, List.set_cons_zero, List.set_cons_succ]
          refine wpAnyK_take (i := 1) (v := .slice (some ⟨g, 0, none⟩) N rca) rfl (by kernel_rfl) (by kernel_rfl) (by kernel_rfl) (by kernel_rfl) (fun _ _ _ h => h) (Or.inl ⟨by rfl, fun w hSw => by go_simp⟩) hHeld ?_
          simp only [List.getElem_toArray, List.getElem_cons_zero, List.getElem_cons_succ, Act.put, List.setIfInBounds_toArray, List.set_cons_zero, List.set_cons_succ]
          refine wpAnyK_take (i := 2) (v := .int .i64 (d : Int)) rfl (by kernel_rfl) (by kernel_rfl) (by kernel_rfl) (by kernel_rfl) (fun _ _ _ h => h) (Or.inl ⟨by rfl, fun w hSw => by go_simp⟩) hHeld ?_
          simp only [List.getElem_toArray, List.getElem_cons_zero, List.getElem_cons_succ, Act.put, List.setIfInBounds_toArray, List.set_cons_zero, List.set_cons_succ]
          refine wpAnyK_take (i := 3) (v := .pointer (some ⟨g, d, none⟩)) rfl (by kernel_rfl) (by kernel_rfl) (by kernel_rfl) (by kernel_rfl) (fun _ _ _ h => h) (Or.inl ⟨by rfl, fun w hSw => by go_simp⟩) hHeld ?_
          simp only [List.getElem_toArray, List.getElem_cons_zero, List.getElem_cons_succ, Act.put, List.setIfInBounds_toArray, List.set_cons_zero, List.set_cons_succ]
          refine wpAnyK_take (i := 4) (v := .string x.1) rfl (by kernel_rfl) (by kernel_rfl) (by kernel_rfl) (by kernel_rfl) (fun _ _ _ h => h) (Or.inl ⟨by rfl, fun w hSw => by go_simp⟩) hHeld ?_
          simp only [List.getElem_toArray, List.getElem_cons_zero, List.getElem_cons_succ, Act.put, List.setIfInBounds_toArray, List.set_cons_zero, List.set_cons_succ]
          refine wpAnyK_take (i := 5) (v := .slice (some ⟨g', 0, none⟩) N rcb) rfl (by kernel_rfl) (by kernel_rfl) (by kernel_rfl) (by kernel_rfl) (fun _ _ _ h => h) (Or.inl ⟨by rfl, fun w hSw => by go_simp⟩) hHeld ?_
          simp only [List.getElem_toArray, List.getElem_cons_zero, List.getElem_cons_succ, Act.put, List.setIfInBounds_toArray, List.set_cons_zero, List.set_cons_succ]
          refine wpAnyK_take (i := 6) (v := .int .i64 (d : Int)) rfl (by kernel_rfl) (by kernel_rfl) (by kernel_rfl) (by kernel_rfl) (fun _ _ _ h => h) (Or.inl ⟨by rfl, fun w hSw => by go_simp⟩) hHeld ?_
          simp only [List.getElem_toArray, List.getElem_cons_zero, List.getElem_cons_succ, Act.put, List.setIfInBounds_toArray, List.set_cons_zero, List.set_cons_succ]
          refine wpAnyK_take (i := 7) (v := .pointer (some ⟨g', d, none⟩)) rfl (by kernel_rfl) (by kernel_rfl) (by kernel_rfl) (by kernel_rfl) (fun _ _ _ h => h) (Or.inl ⟨by rfl, fun w hSw => by go_simp⟩) hHeld ?_
          simp only [List.getElem_toArray, List.getElem_cons_zero, List.getElem_cons_succ, Act.put, List.setIfInBounds_toArray, List.set_cons_zero, List.set_cons_succ]
          refine wpAnyK_take (i := 8) (v := .int .i64 x.2) rfl (by kernel_rfl) (by kernel_rfl) (by kernel_rfl) (by kernel_rfl) (fun _ _ _ h => h) (Or.inl ⟨by rfl, fun w hSw => by go_simp⟩) hHeld ?_
          simp only [List.getElem_toArray, List.getElem_cons_zero, List.getElem_cons_succ, Act.put, List.setIfInBounds_toArray, List.set_cons_zero, List.set_cons_succ]
          refine wpAnyK_one (i := 9) (by kernel_rfl) rfl (fun K hK => ?_)
          (try simp only [List.getElem_toArray, List.getElem_cons_zero, List.getElem_cons_succ, Act.put, List.setIfInBounds_toArray, List.set_cons_zero, List.set_cons_succ])
          go_simp
          refine HO.out.mono ?_
          rintro e v1 ⟨rfl, hP1, hK1⟩
          have HV1 : Hid (Pr23 w v1 p l m q r n S (oS23 T x.1 x.2) ∧ Kb23 l m r n w3 v1) := ⟨hP1, HVV.out.2.1.trans hK1 (fun _ _ h => h)⟩
          have HC1 : Hid (v1.cell? ⟨g, d, none⟩ = some (.string x.1) ∧ v1.cell? ⟨g', d, none⟩ = some (.int .i64 x.2)) := by
            have hlt := HLT.out.1
            have hgb := HGB.out
            have hz := HVV.out.2.1.size
            exact ⟨(World.cell?_of_block (a := ⟨g, d, none⟩) (hK1.block g (by omega) (by omega))).trans HVV.out.2.2.1, (World.cell?_of_block (a := ⟨g', d, none⟩) (hK1.block g' (by omega) (by omega))).trans HVV.out.2.2.2⟩
          clear hP1 hK1
          refine hK.out _ _ (fun _ => HC1.out) (fun hHeld0 => ?_)
          have hHeld := hHeld0 (by decide)
          clear hHeld0 hK K
          (try simp only [List.getElem_toArray, List.getElem_cons_zero, List.getElem_cons_succ, Act.put, List.setIfInBounds_toArray, List.set_cons_zero, List.set_cons_succ])
          refine wpAnyK_one (i := 10) (by kernel_rfl) rfl (fun K hK => ?_)
          (try simp only [List.getElem_toArray, List.getElem_cons_zero, List.getElem_cons_succ, Act.put, List.setIfInBounds_toArray, List.set_cons_zero, List.set_cons_succ])
          go_simp
          refine hK.out _ _ (fun _ => HC1.out) (fun _ => ?_)
          clear hK K
          refine wpAnyK_done (by kernel_rfl) ?_ _
          go_wp2_with fail
          go_roundw
          case rel => exact ⟨d, oS23 T x.1 x.2, by omega, rfl, HV1.out.1, HNX.out, HV1.out.2⟩
          case measure => simp [intOf]
        · obtain rfl : j = 0 := by omega
          have hd : (((0 : Nat) : Int) - 1) = -1 := by omega
          rw [hd]
          have hN2 : Nn23 T acc := by simpa using hNT
          have hST : S = T := H3.out.1.eq hN2 H3.out.2.1 hPT.b.lg.ok
          subst hST
          obtain ⟨w4, hw4⟩ : ∃ w4, w4 = wr := ⟨_, rfl⟩
          have HW4 : Hid (w4 = wr) := hw4
          have H4 : Hid (Pr23 w w4 p l m q r n S S ∧ S.L.length = N ∧ S.pk = 0 ∧ B ≤ w4.heap.size) := ⟨by rw [hw4]; exact hPT, by rw [hN2.len]; exact H3.out.2.2.2.2.1.symm, hN2.pk, by rw [hw4]; exact Nat.le_trans H3.out.2.2.2.1 hK.size⟩
          clear hd hN2 hNT hPT hK hw4 hjN hj
          go_wp2_with fail
          go_loopw [10, 73] (fun t10 ti wv => ∃ (i3 : Nat) (U : Pu23), i3 ≤ len ∧ ti = .int .i64 (i3 : Int) ∧ t10 = .int .i64 U.pk ∧ Pr23 w wv p l m q r n U U ∧ U.L.length = N ∧ B ≤ wv.heap.size) (fun _ ti _ => len - (intOf ti).toNat)
          case atStart => exact ⟨0, S, by omega, rfl, by rw [H4.out.2.2.1], by rw [← HW4.out]; exact H4.out.1, H4.out.2.1, by rw [← HW4.out]; exact H4.out.2.2.2⟩
          case round =>
            obtain ⟨i3, U, hin3, rfl, rfl, hPU, hUN, hge3⟩ := hrel
            by_cases hi3 : i3 < len
            · have hii3 : (i3 : Int) < (len : Int) := by omega
              have hiw3 : IntKind.i64.wrap ((i3 : Int) + 1) = ((i3 + 1 : Nat) : Int) := by rw [IntWalk.i64_in _ (by omega)]; omega
              obtain ⟨g, off, hsa, e0, e1, e2⟩ := HSO.out.at_ i3 hi3
              have hof := HSO.out.of i3 hi3
              subst hsa
              have hgl := World.block_lt_of_cell? w _ e0
              replace e0 := (hPU.k.cell (p := ⟨g, off + i3 * 3, none⟩) hgl).trans e0
              replace e1 := (hPU.k.cell (p := ⟨g, off + i3 * 3 + 1, none⟩) hgl).trans e1
              replace e2 := (hPU.k.cell (p := ⟨g, off + i3 * 3 + 2, none⟩) hgl).trans e2
              obtain ⟨u, hu⟩ : ∃ u, u = wr.alloc (.cells #[.bool (O i3).h, .string (O i3).s, .int .i64 (O i3).n] 30) := ⟨_, rfl⟩
              have HU : Hid (wr.alloc (.cells #[.bool (O i3).h, .string (O i3).s, .int .i64 (O i3).n] 30) = u) := hu.symm
              have qu : u.heap[wr.heap.size]? = some (.cells #[.bool (O i3).h, .string (O i3).s, .int .i64 (O i3).n] 30 (0, 0)) := by rw [hu]; exact new_blk23 _ _
              have bu : Below wr.heap.size wr u := by rw [hu]; exact (Below.refl _ _).alloc (Nat.le_refl _) _
              obtain ⟨gu, hgu⟩ : ∃ gu, gu = wr.heap.size := ⟨_, rfl⟩
              have HG : Hid (wr.heap.size = gu) := hgu.symm
              rw [← hgu] at qu
              have HGB : Hid (B ≤ gu) := by rw [hgu]; exact hge3
              have HPV : Hid (Pr23 w u p l m q r n U U ∧ U.L.length = N ∧ B ≤ u.heap.size ∧ u.heap[gu]? = some (.cells #[.bool (O i3).h, .string (O i3).s, .int .i64 (O i3).n] 30 (0, 0))) := ⟨hPU.below bu, hUN, Nat.le_trans hge3 bu.size, qu⟩
              have c0 := three_cell0 qu
              have c1 := three_cell1 qu
              have c2 := three_cell2 qu
              have HOF : Hid (Of23 (O i3)) := hof
              clear hu qu bu hgu hPU hUN hge3 hof
              cases hh : (O i3).h with
              | false =>
                rw [hh] at e0 c0 HU
                go_upto_region 21 with fail
                rw [HU.out, HG.out]
                go_wp2_with fail
                go_roundw
                case rel => exact ⟨i3 + 1, U, by omega, rfl, rfl, HPV.out.1, HPV.out.2.1, HPV.out.2.2.1⟩
                case measure => simp [intOf]; omega
              | true =>
                rw [hh] at e0 c0 HU
                obtain ⟨E, hE⟩ : ∃ E, E = hE23 U (O i3).s (O i3).n := ⟨_, rfl⟩
                obtain ⟨X, hX⟩ : ∃ X, X = hS23 U (O i3).s (O i3).n := ⟨_, rfl⟩
                obtain ⟨v0, hv0⟩ : ∃ v, v = u.drew := ⟨_, rfl⟩
                have HV0 : Hid (u.drew = v0) := hv0.symm
                have HVV : Hid (Pr23 w v0 p l m q r n U U ∧ v0.heap[gu]? = some (.cells #[.bool (O i3).h, .string (O i3).s, .int .i64 (O i3).n] 30 (0, 0)) ∧ B ≤ v0.heap.size) := by
                  have hk : Kp (fun _ => False) u u.drew := (Kp.refl _ _).drew
                  rw [hv0]
                  exact ⟨HPV.out.1.rows hk (fun _ f => f.elim) HLT.out.1 HLT.out.2, HPV.out.2.2.2, HPV.out.2.2.1⟩
                have HH1 : Hid (∀ V, Pr23 w V p l m q r n U U → Calls Try.prog 15 #[.pointer (some ⟨p, 0, none⟩), .string (O i3).s, .int .i64 (O i3).n] V fun e w' => e = .returned (.int .i64 E) ∧ Pr23 w w' p l m q r n X U ∧ Kb23 l m r n V w') := fun V hV => by rw [hE, hX]; exact aHld23 hV HOF.out.s _
                have HH2 : Hid (∀ V, Pr23 w V p l m q r n X U → Calls Try.prog 15 #[.pointer (some ⟨q, 0, none⟩), .string (O i3).s, .int .i64 (O i3).n] V fun e w' => e = .returned (.int .i64 E) ∧ Pr23 w w' p l m q r n X X ∧ Kb23 l m r n V w') := fun V hV => by rw [hE]; have := bHld23 hV HOF.out.s (O i3).n; rw [← hX] at this; exact this
                obtain ⟨XH, hXH⟩ : ∃ x, x = hs23 X.L := ⟨_, rfl⟩
                obtain ⟨XM, hXM⟩ : ∃ x, x = ms23 X.L := ⟨_, rfl⟩
                obtain ⟨XP, hXP⟩ : ∃ x, x = X.pk := ⟨_, rfl⟩
                obtain ⟨UP, hUP⟩ : ∃ x, x = U.pk := ⟨_, rfl⟩
                have HA : Hid (∀ V, Pr23 w V p l m q r n X X → Calls Try.prog 12 #[.pointer (some ⟨p, 0, none⟩)] V fun e w' => e = .returned (.int .i64 XH) ∧ Pr23 w w' p l m q r n X X ∧ Kb23 l m r n V w') := fun V hV => by rw [hXH]; exact aHed23 hV
                have HBq : Hid (∀ V, Pr23 w V p l m q r n X X → Calls Try.prog 12 #[.pointer (some ⟨q, 0, none⟩)] V fun e w' => e = .returned (.int .i64 XH) ∧ Pr23 w w' p l m q r n X X ∧ Kb23 l m r n V w') := fun V hV => by rw [hXH]; exact bHed23 hV
                have HPk : Hid (∀ V, Pr23 w V p l m q r n X X → Calls Try.prog 16 #[.pointer (some ⟨p, 0, none⟩)] V fun e w' => e = .returned (.int .i64 XP) ∧ Pr23 w w' p l m q r n X X ∧ Kb23 l m r n V w') := fun V hV => by rw [hXP]; exact aPek23 hV
                have HMp : Hid (∀ V, Pr23 w V p l m q r n X X → Calls Try.prog 17 #[.pointer (some ⟨p, 0, none⟩)] V fun e w' => e = .returned (.int .i64 XM) ∧ Pr23 w w' p l m q r n X X ∧ Kb23 l m r n V w') := fun V hV => by rw [hXM]; exact aMst23 hV
                have HMq : Hid (∀ V, Pr23 w V p l m q r n X X → Calls Try.prog 17 #[.pointer (some ⟨q, 0, none⟩)] V fun e w' => e = .returned (.int .i64 XM) ∧ Pr23 w w' p l m q r n X X ∧ Kb23 l m r n V w') := fun V hV => by rw [hXM]; exact bMst23 hV
                have hokU := HPV.out.1.a.lg.ok
                have hokX : Ok23 X := by rw [hX]; exact hokU.hold _ _
                have hbx := hokX.hb
                have hpk := hS23_pk U hokU (O i3).s (O i3).n
                rw [← hX, ← hXP, ← hUP, ← hXH] at hpk
                rw [← hXH, ← hXM, ← hXP] at hbx
                have HXN : Hid (X.L.length = N ∧ XP = X.pk) := ⟨by rw [hX, hS23_len]; exact HPV.out.2.1, hXP⟩
                rw [← hUP]
                clear hE hX hv0 hXH hXM hXP hUP hokU hokX
                have hneg : ¬ XH < 0 := by omega
                have hgt : ¬ XM < XP := by omega
                have HPKE : Hid (XP = max UP XH) := hpk
                clear hbx hpk
                go_upto_region 21 with fail
                rw [HU.out, HG.out]
                go_upto_region 22 with fail
                clear c0
                refine plain_region16 (fun V => V.cell? ⟨gu, 1, none⟩ = some (.string (O i3).s) ∧ V.cell? ⟨gu, 2, none⟩ = some (.int .i64 (O i3).n)) 20 (by kernel_rfl) (by rw [HV0.out]; exact ⟨three_cell1 HVV.out.2.1, three_cell2 HVV.out.2.1⟩) (fun hHeld => ?_)
                rw [HV0.out] at hHeld ⊢
                have HKC : Hid (∀ V V', Kb23 l m r n V V' → (V.cell? ⟨gu, 1, none⟩ = some (.string (O i3).s) ∧ V.cell? ⟨gu, 2, none⟩ = some (.int .i64 (O i3).n)) → V'.cell? ⟨gu, 1, none⟩ = some (.string (O i3).s) ∧ V'.cell? ⟨gu, 2, none⟩ = some (.int .i64 (O i3).n)) := fun V V' hK hV => by
                  have hlt := HLT.out.1
                  have hgb := HGB.out
                  have hb := hK.block gu (World.block_lt_of_cell? V _ hV.1) (by omega)
                  exact ⟨(World.cell?_of_block (a := ⟨gu, 1, none⟩) hb).trans hV.1, (World.cell?_of_block (a := ⟨gu, 2, none⟩) hb).trans hV.2⟩
                clear c1 c2
                refine wpAnyK_take (i := 0) (v := .pointer (some ⟨p, 0, none⟩)) rfl (by kernel_rfl) (by kernel_rfl) (by kernel_rfl) (by kernel_rfl) (fun _ _ _ h => h) (Or.inl ⟨by rfl, fun w hSw => by go_simp⟩) hHeld ?_
                simp only [List.getElem_toArray, List.getElem_cons_zero, Act.put, List.setIfInBounds_toArray, List.set_cons_zero, List.set_cons_succ]
                refine wpAnyK_take (i := 1) (v := .pointer (some ⟨gu, 1, none⟩)) rfl (by kernel_rfl) (by kernel_rfl) (by kernel_rfl) (by kernel_rfl) (fun _ _ _ h => h) (Or.inl ⟨by rfl, fun w hSw => by go_simp⟩) hHeld ?_
                simp only [List.getElem_toArray, List.getElem_cons_zero, List.getElem_cons_succ, Act.put, List.setIfInBounds_toArray, List.set_cons_zero, List.set_cons_succ]
                refine wpAnyK_take (i := 2) (v := .string (O i3).s) rfl (by kernel_rfl) (by kernel_rfl) (by kernel_rfl) (by kernel_rfl) (fun _ _ _ h => h) (Or.inl ⟨by rfl, fun w hSw => by go_simp⟩) hHeld ?_
                simp only [List.getElem_toArray, List.getElem_cons_zero, List.getElem_cons_succ, Act.put, List.setIfInBounds_toArray, List.set_cons_zero, List.set_cons_succ]
                refine wpAnyK_take (i := 3) (v := .pointer (some ⟨gu, 2, none⟩)) rfl (by kernel_rfl) (by kernel_rfl) (by kernel_rfl) (by kernel_rfl) (fun _ _ _ h => h) (Or.inl ⟨by rfl, fun w hSw => by go_simp⟩) hHeld ?_
                simp only [List.getElem_toArray, List.getElem_cons_zero, List.getElem_cons_succ, Act.put, List.setIfInBounds_toArray, List.set_cons_zero, List.set_cons_succ]
                refine wpAnyK_take (i := 4) (v := .int .i64 (O i3).n) rfl (by kernel_rfl) (by kernel_rfl) (by kernel_rfl) (by kernel_rfl) (fun _ _ _ h => h) (Or.inl ⟨by rfl, fun w hSw => by go_simp⟩) hHeld ?_
                simp only [List.getElem_toArray, List.getElem_cons_zero, List.getElem_cons_succ, Act.put, List.setIfInBounds_toArray, List.set_cons_zero, List.set_cons_succ]
                refine wpAnyK_take (i := 6) (v := .pointer (some ⟨q, 0, none⟩)) rfl (by kernel_rfl) (by kernel_rfl) (by kernel_rfl) (by kernel_rfl) (fun _ _ _ h => h) (Or.inl ⟨by rfl, fun w hSw => by go_simp⟩) hHeld ?_
                simp only [List.getElem_toArray, List.getElem_cons_zero, List.getElem_cons_succ, Act.put, List.setIfInBounds_toArray, List.set_cons_zero, List.set_cons_succ]
                refine wpAnyK_take (i := 7) (v := .pointer (some ⟨gu, 1, none⟩)) rfl (by kernel_rfl) (by kernel_rfl) (by kernel_rfl) (by kernel_rfl) (fun _ _ _ h => h) (Or.inl ⟨by rfl, fun w hSw => by go_simp⟩) hHeld ?_
                simp only [List.getElem_toArray, List.getElem_cons_zero, List.getElem_cons_succ, Act.put, List.setIfInBounds_toArray, List.set_cons_zero, List.set_cons_succ]
                refine wpAnyK_take (i := 8) (v := .string (O i3).s) rfl (by kernel_rfl) (by kernel_rfl) (by kernel_rfl) (by kernel_rfl) (fun _ _ _ h => h) (Or.inl ⟨by rfl, fun w hSw => by go_simp⟩) hHeld ?_
                simp only [List.getElem_toArray, List.getElem_cons_zero, List.getElem_cons_succ, Act.put, List.setIfInBounds_toArray, List.set_cons_zero, List.set_cons_succ]
                refine wpAnyK_take (i := 9) (v := .pointer (some ⟨gu, 2, none⟩)) rfl (by kernel_rfl) (by kernel_rfl) (by kernel_rfl) (by kernel_rfl) (fun _ _ _ h => h) (Or.inl ⟨by rfl, fun w hSw => by go_simp⟩) hHeld ?_
                simp only [List.getElem_toArray, List.getElem_cons_zero, List.getElem_cons_succ, Act.put, List.setIfInBounds_toArray, List.set_cons_zero, List.set_cons_succ]
                refine wpAnyK_take (i := 10) (v := .int .i64 (O i3).n) rfl (by kernel_rfl) (by kernel_rfl) (by kernel_rfl) (by kernel_rfl) (fun _ _ _ h => h) (Or.inl ⟨by rfl, fun w hSw => by go_simp⟩) hHeld ?_
                simp only [List.getElem_toArray, List.getElem_cons_zero, List.getElem_cons_succ, Act.put, List.setIfInBounds_toArray, List.set_cons_zero, List.set_cons_succ]
                refine wpAnyK_one (i := 5) (by kernel_rfl) rfl (fun K hK => ?_)
                (try simp only [List.getElem_toArray, List.getElem_cons_zero, List.getElem_cons_succ, Act.put, List.setIfInBounds_toArray, List.set_cons_zero, List.set_cons_succ])
                go_simp
                refine (HH1.out v0 HVV.out.1).mono ?_
                rintro e v1 ⟨rfl, hP1, hK1⟩
                have H1 : Hid (Pr23 w v1 p l m q r n X U ∧ Kb23 l m r n v0 v1) := ⟨hP1, hK1⟩
                have C1 := HKC.out v0 v1 hK1 hHeld
                clear hP1 hK1 hHeld
                refine hK.out _ _ (fun _ => C1) (fun hHeld0 => ?_)
                have hHeld := hHeld0 (by decide)
                clear hHeld0 hK K
                (try simp only [List.getElem_toArray, List.getElem_cons_zero, List.getElem_cons_succ, Act.put, List.setIfInBounds_toArray, List.set_cons_zero, List.set_cons_succ])
                clear C1
                refine wpAnyK_one (i := 11) (by kernel_rfl) rfl (fun K hK => ?_)
                (try simp only [List.getElem_toArray, List.getElem_cons_zero, List.getElem_cons_succ, Act.put, List.setIfInBounds_toArray, List.set_cons_zero, List.set_cons_succ])
                go_simp
                refine (HH2.out v1 H1.out.1).mono ?_
                rintro e v2 ⟨rfl, hP2, hK2⟩
                have H2 : Hid (Pr23 w v2 p l m q r n X X ∧ Kb23 l m r n v0 v2) := ⟨hP2, H1.out.2.trans hK2 (fun _ _ h => h)⟩
                have C2 := HKC.out v1 v2 hK2 hHeld
                clear hP2 hK2 hHeld H1
                refine hK.out _ _ (fun _ => C2) (fun hHeld0 => ?_)
                have hHeld := hHeld0 (by decide)
                clear hHeld0 hK K
                (try simp only [List.getElem_toArray, List.getElem_cons_zero, List.getElem_cons_succ, Act.put, List.setIfInBounds_toArray, List.set_cons_zero, List.set_cons_succ])
                clear C2
                refine wpAnyK_one (i := 12) (by kernel_rfl) rfl (fun K hK => ?_)
                (try simp only [List.getElem_toArray, List.getElem_cons_zero, List.getElem_cons_succ, Act.put, List.setIfInBounds_toArray, List.set_cons_zero, List.set_cons_succ])
                go_simp
                refine hK.out _ _ (fun _ => hHeld) (fun hHeld0 => ?_)
                have hHeld := hHeld0 (by decide)
                clear hHeld0 hK K
                (try simp only [List.getElem_toArray, List.getElem_cons_zero, List.getElem_cons_succ, Act.put, List.setIfInBounds_toArray, List.set_cons_zero, List.set_cons_succ])
                clear hHeld
                rename_i hHeld
                refine wpAnyK_one (i := 13) (by kernel_rfl) rfl (fun K hK => ?_)
                (try simp only [List.getElem_toArray, List.getElem_cons_zero, List.getElem_cons_succ, Act.put, List.setIfInBounds_toArray, List.set_cons_zero, List.set_cons_succ])
                go_simp
                refine hK.out _ _ (fun _ => hHeld) (fun hHeld0 => ?_)
                have hHeld := hHeld0 (by decide)
                clear hHeld0 hK K
                (try simp only [List.getElem_toArray, List.getElem_cons_zero, List.getElem_cons_succ, Act.put, List.setIfInBounds_toArray, List.set_cons_zero, List.set_cons_succ])
                clear hHeld
                rename_i hHeld
                refine wpAnyK_take (i := 14) (v := .pointer (some ⟨p, 0, none⟩)) rfl (by kernel_rfl) (by kernel_rfl) (by kernel_rfl) (by kernel_rfl) (fun _ _ _ h => h) (Or.inl ⟨by rfl, fun w hSw => by go_simp⟩) hHeld ?_
                simp only [List.getElem_toArray, List.getElem_cons_zero, List.getElem_cons_succ, Act.put, List.setIfInBounds_toArray, List.set_cons_zero, List.set_cons_succ]
                refine wpAnyK_take (i := 16) (v := .pointer (some ⟨q, 0, none⟩)) rfl (by kernel_rfl) (by kernel_rfl) (by kernel_rfl) (by kernel_rfl) (fun _ _ _ h => h) (Or.inl ⟨by rfl, fun w hSw => by go_simp⟩) hHeld ?_
                simp only [List.getElem_toArray, List.getElem_cons_zero, List.getElem_cons_succ, Act.put, List.setIfInBounds_toArray, List.set_cons_zero, List.set_cons_succ]
                refine wpAnyK_one (i := 15) (by kernel_rfl) rfl (fun K hK => ?_)
                (try simp only [List.getElem_toArray, List.getElem_cons_zero, List.getElem_cons_succ, Act.put, List.setIfInBounds_toArray, List.set_cons_zero, List.set_cons_succ])
                go_simp
                refine (HA.out v2 H2.out.1).mono ?_
                rintro e v3 ⟨rfl, hPn, hKn⟩
                have H3b : Hid (Pr23 w v3 p l m q r n X X ∧ Kb23 l m r n v0 v3) := ⟨hPn, H2.out.2.trans hKn (fun _ _ h => h)⟩
                have Cn := HKC.out v2 v3 hKn hHeld
                clear hPn hKn hHeld H2
                refine hK.out _ _ (fun _ => Cn) (fun hHeld0 => ?_)
                have hHeld := hHeld0 (by decide)
                clear hHeld0 hK K
                (try simp only [List.getElem_toArray, List.getElem_cons_zero, List.getElem_cons_succ, Act.put, List.setIfInBounds_toArray, List.set_cons_zero, List.set_cons_succ])
                clear Cn
                refine wpAnyK_one (i := 17) (by kernel_rfl) rfl (fun K hK => ?_)
                (try simp only [List.getElem_toArray, List.getElem_cons_zero, List.getElem_cons_succ, Act.put, List.setIfInBounds_toArray, List.set_cons_zero, List.set_cons_succ])
                go_simp
                refine (HBq.out v3 H3b.out.1).mono ?_
                rintro e v4 ⟨rfl, hPn, hKn⟩
                have H4b : Hid (Pr23 w v4 p l m q r n X X ∧ Kb23 l m r n v0 v4) := ⟨hPn, H3b.out.2.trans hKn (fun _ _ h => h)⟩
                have Cn := HKC.out v3 v4 hKn hHeld
                clear hPn hKn hHeld H3b
                refine hK.out _ _ (fun _ => Cn) (fun hHeld0 => ?_)
                have hHeld := hHeld0 (by decide)
                clear hHeld0 hK K
                (try simp only [List.getElem_toArray, List.getElem_cons_zero, List.getElem_cons_succ, Act.put, List.setIfInBounds_toArray, List.set_cons_zero, List.set_cons_succ])
                clear Cn
                refine wpAnyK_one (i := 18) (by kernel_rfl) rfl (fun K hK => ?_)
                (try simp only [List.getElem_toArray, List.getElem_cons_zero, List.getElem_cons_succ, Act.put, List.setIfInBounds_toArray, List.set_cons_zero, List.set_cons_succ])
                go_simp
                refine hK.out _ _ (fun _ => hHeld) (fun hHeld0 => ?_)
                have hHeld := hHeld0 (by decide)
                clear hHeld0 hK K
                (try simp only [List.getElem_toArray, List.getElem_cons_zero, List.getElem_cons_succ, Act.put, List.setIfInBounds_toArray, List.set_cons_zero, List.set_cons_succ])
                clear hHeld
                rename_i hHeld
                refine wpAnyK_one (i := 19) (by kernel_rfl) rfl (fun K hK => ?_)
                (try simp only [List.getElem_toArray, List.getElem_cons_zero, List.getElem_cons_succ, Act.put, List.setIfInBounds_toArray, List.set_cons_zero, List.set_cons_succ])
                go_simp
                refine hK.out _ _ (fun _ => hHeld) (fun _ => ?_)
                clear hK K hHeld
                refine wpAnyK_done (by kernel_rfl) ?_ _
                by_cases hc : UP < XH
                · have hxp : XP = XH := by have := HPKE.out; omega
                  rw [hxp] at HPk HXN hgt
                  clear hxp HPKE
                  go_wp2_with fail
                  refine (HA.out _ H4b.out.1).mono ?_
                  rintro e v5 ⟨rfl, hPn, hKn⟩
                  have G0 : Hid (Pr23 w v5 p l m q r n X X ∧ Kb23 l m r n v0 v5) := ⟨hPn, H4b.out.2.trans hKn (fun _ _ h => h)⟩
                  clear hPn hKn H4b
                  go_wp2_with fail
                  refine (HA.out _ G0.out.1).mono ?_
                  rintro e v6 ⟨rfl, hPn, hKn⟩
                  have G1 : Hid (Pr23 w v6 p l m q r n X X ∧ Kb23 l m r n v0 v6) := ⟨hPn, G0.out.2.trans hKn (fun _ _ h => h)⟩
                  clear hPn hKn G0
                  go_wp2_with fail
                  refine (HA.out _ G1.out.1).mono ?_
                  rintro e v7 ⟨rfl, hPn, hKn⟩
                  have G2 : Hid (Pr23 w v7 p l m q r n X X ∧ Kb23 l m r n v0 v7) := ⟨hPn, G1.out.2.trans hKn (fun _ _ h => h)⟩
                  clear hPn hKn G1
                  go_wp2_with fail
                  refine (HPk.out _ G2.out.1).mono ?_
                  rintro e v8 ⟨rfl, hPn, hKn⟩
                  have G3 : Hid (Pr23 w v8 p l m q r n X X ∧ Kb23 l m r n v0 v8) := ⟨hPn, G2.out.2.trans hKn (fun _ _ h => h)⟩
                  clear hPn hKn G2
                  go_wp2_with fail
                  refine (HPk.out _ G3.out.1).mono ?_
                  rintro e v9 ⟨rfl, hPn, hKn⟩
                  have G4 : Hid (Pr23 w v9 p l m q r n X X ∧ Kb23 l m r n v0 v9) := ⟨hPn, G3.out.2.trans hKn (fun _ _ h => h)⟩
                  clear hPn hKn G3
                  go_wp2_with fail
                  refine (HMp.out _ G4.out.1).mono ?_
                  rintro e v10 ⟨rfl, hPn, hKn⟩
                  have G5 : Hid (Pr23 w v10 p l m q r n X X ∧ Kb23 l m r n v0 v10) := ⟨hPn, G4.out.2.trans hKn (fun _ _ h => h)⟩
                  clear hPn hKn G4
                  go_wp2_with fail
                  refine (HMp.out _ G5.out.1).mono ?_
                  rintro e v11 ⟨rfl, hPn, hKn⟩
                  have G6 : Hid (Pr23 w v11 p l m q r n X X ∧ Kb23 l m r n v0 v11) := ⟨hPn, G5.out.2.trans hKn (fun _ _ h => h)⟩
                  clear hPn hKn G5
                  go_wp2_with fail
                  refine (HMq.out _ G6.out.1).mono ?_
                  rintro e v12 ⟨rfl, hPn, hKn⟩
                  have G7 : Hid (Pr23 w v12 p l m q r n X X ∧ Kb23 l m r n v0 v12) := ⟨hPn, G6.out.2.trans hKn (fun _ _ h => h)⟩
                  clear hPn hKn G6
                  go_wp2_with fail
                  go_roundw
                  case rel => exact ⟨i3 + 1, X, by omega, rfl, by rw [← HXN.out.2], G7.out.1, HXN.out.1, Nat.le_trans HVV.out.2.2 G7.out.2.size⟩
                  case measure => simp [intOf]; omega
                · have hxp : XP = UP := by have := HPKE.out; omega
                  rw [hxp] at HPk HXN hgt
                  clear hxp HPKE
                  go_wp2_with fail
                  refine (HA.out _ H4b.out.1).mono ?_
                  rintro e v5 ⟨rfl, hPn, hKn⟩
                  have G0 : Hid (Pr23 w v5 p l m q r n X X ∧ Kb23 l m r n v0 v5) := ⟨hPn, H4b.out.2.trans hKn (fun _ _ h => h)⟩
                  clear hPn hKn H4b
                  go_wp2_with fail
                  refine (HA.out _ G0.out.1).mono ?_
                  rintro e v6 ⟨rfl, hPn, hKn⟩
                  have G1 : Hid (Pr23 w v6 p l m q r n X X ∧ Kb23 l m r n v0 v6) := ⟨hPn, G0.out.2.trans hKn (fun _ _ h => h)⟩
                  clear hPn hKn G0
                  go_wp2_with fail
                  refine (HPk.out _ G1.out.1).mono ?_
                  rintro e v7 ⟨rfl, hPn, hKn⟩
                  have G2 : Hid (Pr23 w v7 p l m q r n X X ∧ Kb23 l m r n v0 v7) := ⟨hPn, G1.out.2.trans hKn (fun _ _ h => h)⟩
                  clear hPn hKn G1
                  go_wp2_with fail
                  refine (HPk.out _ G2.out.1).mono ?_
                  rintro e v8 ⟨rfl, hPn, hKn⟩
                  have G3 : Hid (Pr23 w v8 p l m q r n X X ∧ Kb23 l m r n v0 v8) := ⟨hPn, G2.out.2.trans hKn (fun _ _ h => h)⟩
                  clear hPn hKn G2
                  go_wp2_with fail
                  refine (HMp.out _ G3.out.1).mono ?_
                  rintro e v9 ⟨rfl, hPn, hKn⟩
                  have G4 : Hid (Pr23 w v9 p l m q r n X X ∧ Kb23 l m r n v0 v9) := ⟨hPn, G3.out.2.trans hKn (fun _ _ h => h)⟩
                  clear hPn hKn G3
                  go_wp2_with fail
                  refine (HMp.out _ G4.out.1).mono ?_
                  rintro e v10 ⟨rfl, hPn, hKn⟩
                  have G5 : Hid (Pr23 w v10 p l m q r n X X ∧ Kb23 l m r n v0 v10) := ⟨hPn, G4.out.2.trans hKn (fun _ _ h => h)⟩
                  clear hPn hKn G4
                  go_wp2_with fail
                  refine (HMq.out _ G5.out.1).mono ?_
                  rintro e v11 ⟨rfl, hPn, hKn⟩
                  have G6 : Hid (Pr23 w v11 p l m q r n X X ∧ Kb23 l m r n v0 v11) := ⟨hPn, G5.out.2.trans hKn (fun _ _ h => h)⟩
                  clear hPn hKn G5
                  go_wp2_with fail
                  go_roundw
                  case rel => exact ⟨i3 + 1, X, by omega, rfl, by rw [← HXN.out.2], G6.out.1, HXN.out.1, Nat.le_trans HVV.out.2.2 G6.out.2.size⟩
                  case measure => simp [intOf]; omega
            · have hii3 : ¬ (i3 : Int) < (len : Int) := by omega
              obtain ⟨w5, hw5⟩ : ∃ w5, w5 = wr := ⟨_, rfl⟩
              have HW5 : Hid (w5 = wr) := hw5
              have H5 : Hid (Pr23 w w5 p l m q r n U U ∧ U.L.length = N ∧ B ≤ w5.heap.size ∧ Ok23 U) := ⟨by rw [hw5]; exact hPU, hUN, by rw [hw5]; exact hge3, hPU.a.lg.ok⟩
              clear hPU hUN hge3 hw5
              go_wp2_with fail
              rw [← HW5.out]
              refine (pNam23 H5.out.1.a).mono ?_
              rintro e w6 ⟨xa, na, ca, rfl, hna, hoa, hPa, hKa⟩
              obtain rfl : N = na := by rw [hna]; exact H5.out.2.1.symm
              have H6 : Hid (Pr23 w w6 p l m q r n U U) := H5.out.1.turn_a hPa hKa
              have HO6 : Hid (w6.ownsRow w5.heap.size 9 1 (.slice xa N ca) N ((U.L.map Ho23.nm).map Value.string) ∧ w5.heap.size ≤ w6.heap.size) := ⟨hoa, hKa.size⟩
              clear hna hoa hPa hKa
              go_wp2_with fail
              refine (pNam23 H6.out.b).mono ?_
              rintro e w7 ⟨xb, nb, cb, rfl, hnb, hob, hPb, hKb⟩
              obtain rfl : N = nb := by rw [hnb]; exact H5.out.2.1.symm
              have H7 : Hid (Pr23 w w7 p l m q r n U U) := H6.out.turn_b hPb hKb
              have hoa7 := own_kp HO6.out.1 hKb (fun k e f => by
                have h1 := (HO6.out.1.lt k e).1
                have h2 := H5.out.1.b.lg.lt
                omega)
              obtain ⟨xa', ca', ha1, ha2, hat⟩ := own_at23 hoa7
              obtain ⟨xb', cb', hb1, hb2, hbt⟩ := own_at23 hob
              simp only [Value.slice.injEq] at ha1 hb1
              obtain ⟨rfl, -, rfl⟩ := ha1
              obtain ⟨rfl, -, rfl⟩ := hb1
              have HRN : Hid (∀ j x, (U.L.map Ho23.nm)[j]? = some x → ∃ ga gb, xa = some ⟨ga, 0, none⟩ ∧ xb = some ⟨gb, 0, none⟩ ∧ w7.cell? ⟨ga, j, none⟩ = some (.string x) ∧ w7.cell? ⟨gb, j, none⟩ = some (.string x)) := fun j x hx => by
                obtain ⟨g, h1, _, _, h4⟩ := hat j (.string x) (by rw [List.getElem?_map, hx]; rfl)
                obtain ⟨g', h5, _, _, h8⟩ := hbt j (.string x) (by rw [List.getElem?_map, hx]; rfl)
                exact ⟨g, g', h1, h5, h4, h8⟩
              clear hnb hob hPb hKb hoa7 ha2 hb2 hat hbt HO6
              go_wp2_with fail
              go_loopw [136] (fun ti wv => ∃ i5 : Nat, i5 ≤ N ∧ ti = .int .i64 (i5 : Int) ∧ Below w7.heap.size w7 wv) (fun ti _ => N - (intOf ti).toNat)
              case atStart => exact ⟨0, by omega, rfl, Below.refl _ _⟩
              case round =>
                obtain ⟨i5, hi5, rfl, hB5⟩ := hrel
                by_cases hj5 : i5 < N
                · have hjj : (i5 : Int) < (N : Int) := by omega
                  have hjw : IntKind.i64.wrap ((i5 : Int) + 1) = ((i5 + 1 : Nat) : Int) := by rw [IntWalk.i64_in _ (by omega)]; omega
                  have hlN : (U.L.map Ho23.nm).length = N := by rw [List.length_map]; exact H5.out.2.1
                  obtain ⟨x, hx⟩ : ∃ x, (U.L.map Ho23.nm)[i5]? = some x := ⟨_, List.getElem?_eq_getElem (by rw [hlN]; exact hj5)⟩
                  obtain ⟨ga, gb, h1, h2, h3, h4⟩ := HRN.out i5 x hx
                  subst h1
                  subst h2
                  have y1 : wr.drew.cell? ⟨ga, i5, none⟩ = some (.string x) := (hB5.cell (p := ⟨ga, i5, none⟩) (World.block_lt_of_cell? _ _ h3)).trans h3
                  have y2 : wr.drew.cell? ⟨gb, i5, none⟩ = some (.string x) := (hB5.cell (p := ⟨gb, i5, none⟩) (World.block_lt_of_cell? _ _ h4)).trans h4
                  have hneq := fun t W => str_neq23 (P := Try.prog) x t W
                  have HB5 : Hid (Below w7.heap.size w7 wr) := hB5
                  by_cases h0 : i5 = 0
                  · subst h0
                    rw [show ((0 : Nat) : Int) = 0 from rfl] at hjj hjw ⊢
                    have hg0 : ¬ (N : Int) ≤ 0 := by omega
                    have hg1 : ¬ N = 0 := by omega
                    clear h3 h4 hx hlN hB5
                    go_upto_region 33 with fail
                    refine plain_region16 (fun V => V.cell? ⟨ga, 0, none⟩ = some (.string x) ∧ V.cell? ⟨gb, 0, none⟩ = some (.string x)) 31 (by kernel_rfl) ⟨y1, y2⟩ (fun hHeld => ?_)
                    refine wpAnyK_take (i := 0) (v := .int .i64 0) rfl (by kernel_rfl) (by kernel_rfl) (by kernel_rfl) (by kernel_rfl) (fun _ _ _ h => h) (Or.inl ⟨by rfl, fun w hSw => by go_simp⟩) hHeld ?_
                    simp only [List.getElem_toArray, List.getElem_cons_zero, Act.put, List.setIfInBounds_toArray, List.set_cons_zero, List.set_cons_succ]
                    refine wpAnyK_take (i := 1) (v := .slice (some ⟨gb, 0, none⟩) N cb) rfl (by kernel_rfl) (by kernel_rfl) (by kernel_rfl) (by kernel_rfl) (fun _ _ _ h => h) (Or.inl ⟨by rfl, fun w hSw => by go_simp⟩) hHeld ?_
                    simp only [List.getElem_toArray, List.getElem_cons_zero, List.getElem_cons_succ, Act.put, List.setIfInBounds_toArray, List.set_cons_zero, List.set_cons_succ]
                    refine wpAnyK_take (i := 2) (v := .int .i64 (N : Int)) rfl (by kernel_rfl) (by kernel_rfl) (by kernel_rfl) (by kernel_rfl) (fun _ _ _ h => h) (Or.inl ⟨by rfl, fun w hSw => by go_simp⟩) hHeld ?_
                    simp only [List.getElem_toArray, List.getElem_cons_zero, List.getElem_cons_succ, Act.put, List.setIfInBounds_toArray, List.set_cons_zero, List.set_cons_succ]
                    refine wpAnyK_take (i := 3) (v := .bool false) rfl (by kernel_rfl) (by kernel_rfl) (by kernel_rfl) (by kernel_rfl) (fun _ _ _ h => h) (Or.inl ⟨by rfl, fun w hSw => by go_simp⟩) hHeld ?_
                    simp only [List.getElem_toArray, List.getElem_cons_zero, List.getElem_cons_succ, Act.put, List.setIfInBounds_toArray, List.set_cons_zero, List.set_cons_succ]
                    refine wpAnyK_take (i := 4) (v := .bool false) rfl (by kernel_rfl) (by kernel_rfl) (by kernel_rfl) (by kernel_rfl) (fun _ _ _ h => h) (Or.inl ⟨by rfl, fun w hSw => by go_simp⟩) hHeld ?_
                    simp only [List.getElem_toArray, List.getElem_cons_zero, List.getElem_cons_succ, Act.put, List.setIfInBounds_toArray, List.set_cons_zero, List.set_cons_succ]
                    refine wpAnyK_take (i := 5) (v := .slice (some ⟨ga, 0, none⟩) N ca) rfl (by kernel_rfl) (by kernel_rfl) (by kernel_rfl) (by kernel_rfl) (fun _ _ _ h => h) (Or.inl ⟨by rfl, fun w hSw => by go_simp⟩) hHeld ?_
                    simp only [List.getElem_toArray, List.getElem_cons_zero, List.getElem_cons_succ, Act.put, List.setIfInBounds_toArray, List.set_cons_zero, List.set_cons_succ]
                    refine wpAnyK_take (i := 6) (v := .int .i64 0) rfl (by kernel_rfl) (by kernel_rfl) (by kernel_rfl) (by kernel_rfl) (fun _ _ _ h => h) (Or.inl ⟨by rfl, fun w hSw => by go_simp⟩) hHeld ?_
                    simp only [List.getElem_toArray, List.getElem_cons_zero, List.getElem_cons_succ, Act.put, List.setIfInBounds_toArray, List.set_cons_zero, List.set_cons_succ]
                    refine wpAnyK_take (i := 7) (v := .pointer (some ⟨ga, 0, none⟩)) rfl (by kernel_rfl) (by kernel_rfl) (by kernel_rfl) (by kernel_rfl) (fun _ _ _ h => h) (Or.inl ⟨by rfl, fun w hSw => by go_simp⟩) hHeld ?_
                    simp only [List.getElem_toArray, List.getElem_cons_zero, List.getElem_cons_succ, Act.put, List.setIfInBounds_toArray, List.set_cons_zero, List.set_cons_succ]
                    refine wpAnyK_take (i := 8) (v := .string x) rfl (by kernel_rfl) (by kernel_rfl) (by kernel_rfl) (by kernel_rfl) (fun _ _ _ h => h) (Or.inl ⟨by rfl, fun w hSw => by go_simp⟩) hHeld ?_
                    simp only [List.getElem_toArray, List.getElem_cons_zero, List.getElem_cons_succ, Act.put, List.setIfInBounds_toArray, List.set_cons_zero, List.set_cons_succ]
                    refine wpAnyK_take (i := 9) (v := .slice (some ⟨gb, 0, none⟩) N cb) rfl (by kernel_rfl) (by kernel_rfl) (by kernel_rfl) (by kernel_rfl) (fun _ _ _ h => h) (Or.inl ⟨by rfl, fun w hSw => by go_simp⟩) hHeld ?_
                    simp only [List.getElem_toArray, List.getElem_cons_zero, List.getElem_cons_succ, Act.put, List.setIfInBounds_toArray, List.set_cons_zero, List.set_cons_succ]
                    refine wpAnyK_take (i := 10) (v := .int .i64 0) rfl (by kernel_rfl) (by kernel_rfl) (by kernel_rfl) (by kernel_rfl) (fun _ _ _ h => h) (Or.inl ⟨by rfl, fun w hSw => by go_simp⟩) hHeld ?_
                    simp only [List.getElem_toArray, List.getElem_cons_zero, List.getElem_cons_succ, Act.put, List.setIfInBounds_toArray, List.set_cons_zero, List.set_cons_succ]
                    refine wpAnyK_take (i := 11) (v := .pointer (some ⟨gb, 0, none⟩)) rfl (by kernel_rfl) (by kernel_rfl) (by kernel_rfl) (by kernel_rfl) (fun _ _ _ h => h) (Or.inl ⟨by rfl, fun w hSw => by go_simp⟩) hHeld ?_
                    simp only [List.getElem_toArray, List.getElem_cons_zero, List.getElem_cons_succ, Act.put, List.setIfInBounds_toArray, List.set_cons_zero, List.set_cons_succ]
                    refine wpAnyK_take (i := 12) (v := .string x) rfl (by kernel_rfl) (by kernel_rfl) (by kernel_rfl) (by kernel_rfl) (fun _ _ _ h => h) (Or.inl ⟨by rfl, fun w hSw => by go_simp⟩) hHeld ?_
                    simp only [List.getElem_toArray, List.getElem_cons_zero, List.getElem_cons_succ, Act.put, List.setIfInBounds_toArray, List.set_cons_zero, List.set_cons_succ]
                    refine wpAnyK_take (i := 13) (v := .bool false) rfl (by kernel_rfl) (by kernel_rfl) (by kernel_rfl) (by kernel_rfl) (fun _ _ _ h => h) (Or.inl ⟨by rfl, fun w hSw => by go_simp⟩) hHeld ?_
                    simp only [List.getElem_toArray, List.getElem_cons_zero, List.getElem_cons_succ, Act.put, List.setIfInBounds_toArray, List.set_cons_zero, List.set_cons_succ]
                    refine wpAnyK_take (i := 14) (v := .bool false) rfl (by kernel_rfl) (by kernel_rfl) (by kernel_rfl) (by kernel_rfl) (fun _ _ _ h => h) (Or.inl ⟨by rfl, fun w hSw => by go_simp⟩) hHeld ?_
                    simp only [List.getElem_toArray, List.getElem_cons_zero, List.getElem_cons_succ, Act.put, List.setIfInBounds_toArray, List.set_cons_zero, List.set_cons_succ]
                    refine wpAnyK_take (i := 15) (v := .bool false) rfl (by kernel_rfl) (by kernel_rfl) (by kernel_rfl) (by kernel_rfl) (fun _ _ _ h => h) (Or.inl ⟨by rfl, fun w hSw => by go_simp⟩) hHeld ?_
                    simp only [List.getElem_toArray, List.getElem_cons_zero, List.getElem_cons_succ, Act.put, List.setIfInBounds_toArray, List.set_cons_zero, List.set_cons_succ]
                    refine wpAnyK_take (i := 16) (v := .int .i64 0) rfl (by kernel_rfl) (by kernel_rfl) (by kernel_rfl) (by kernel_rfl) (fun _ _ _ h => h) (Or.inl ⟨by rfl, fun w hSw => by go_simp⟩) hHeld ?_
                    simp only [List.getElem_toArray, List.getElem_cons_zero, List.getElem_cons_succ, Act.put, List.setIfInBounds_toArray, List.set_cons_zero, List.set_cons_succ]
                    refine wpAnyK_take (i := 17) (v := .bool false) rfl (by kernel_rfl) (by kernel_rfl) (by kernel_rfl) (by kernel_rfl) (fun _ _ _ h => h) (Or.inl ⟨by rfl, fun w hSw => by go_simp⟩) hHeld ?_
                    simp only [List.getElem_toArray, List.getElem_cons_zero, List.getElem_cons_succ, Act.put, List.setIfInBounds_toArray, List.set_cons_zero, List.set_cons_succ]
                    refine wpAnyK_take (i := 18) (v := .bool false) rfl (by kernel_rfl) (by kernel_rfl) (by kernel_rfl) (by kernel_rfl) (fun _ _ _ h => h) (Or.inl ⟨by rfl, fun w hSw => by go_simp⟩) hHeld ?_
                    simp only [List.getElem_toArray, List.getElem_cons_zero, List.getElem_cons_succ, Act.put, List.setIfInBounds_toArray, List.set_cons_zero, List.set_cons_succ]
                    refine wpAnyK_take (i := 19) (v := undef) rfl (by kernel_rfl) (by kernel_rfl) (by kernel_rfl) (by kernel_rfl) (fun _ _ _ h => h) (Or.inr ⟨by rfl, rfl⟩) hHeld ?_
                    simp only [List.getElem_toArray, List.getElem_cons_zero, List.getElem_cons_succ, Act.put, List.setIfInBounds_toArray, List.set_cons_zero, List.set_cons_succ]
                    refine wpAnyK_take (i := 20) (v := undef) rfl (by kernel_rfl) (by kernel_rfl) (by kernel_rfl) (by kernel_rfl) (fun _ _ _ h => h) (Or.inr ⟨by rfl, rfl⟩) hHeld ?_
                    simp only [List.getElem_toArray, List.getElem_cons_zero, List.getElem_cons_succ, Act.put, List.setIfInBounds_toArray, List.set_cons_zero, List.set_cons_succ]
                    refine wpAnyK_take (i := 21) (v := undef) rfl (by kernel_rfl) (by kernel_rfl) (by kernel_rfl) (by kernel_rfl) (fun _ _ _ h => h) (Or.inr ⟨by rfl, rfl⟩) hHeld ?_
                    simp only [List.getElem_toArray, List.getElem_cons_zero, List.getElem_cons_succ, Act.put, List.setIfInBounds_toArray, List.set_cons_zero, List.set_cons_succ]
                    refine wpAnyK_take (i := 22) (v := undef) rfl (by kernel_rfl) (by kernel_rfl) (by kernel_rfl) (by kernel_rfl) (fun _ _ _ h => h) (Or.inr ⟨by rfl, rfl⟩) hHeld ?_
                    simp only [List.getElem_toArray, List.getElem_cons_zero, List.getElem_cons_succ, Act.put, List.setIfInBounds_toArray, List.set_cons_zero, List.set_cons_succ]
                    refine wpAnyK_take (i := 23) (v := undef) rfl (by kernel_rfl) (by kernel_rfl) (by kernel_rfl) (by kernel_rfl) (fun _ _ _ h => h) (Or.inr ⟨by rfl, rfl⟩) hHeld ?_
                    simp only [List.getElem_toArray, List.getElem_cons_zero, List.getElem_cons_succ, Act.put, List.setIfInBounds_toArray, List.set_cons_zero, List.set_cons_succ]
                    refine wpAnyK_take (i := 24) (v := undef) rfl (by kernel_rfl) (by kernel_rfl) (by kernel_rfl) (by kernel_rfl) (fun _ _ _ h => h) (Or.inr ⟨by rfl, rfl⟩) hHeld ?_
                    simp only [List.getElem_toArray, List.getElem_cons_zero, List.getElem_cons_succ, Act.put, List.setIfInBounds_toArray, List.set_cons_zero, List.set_cons_succ]
                    refine wpAnyK_take (i := 25) (v := undef) rfl (by kernel_rfl) (by kernel_rfl) (by kernel_rfl) (by kernel_rfl) (fun _ _ _ h => h) (Or.inr ⟨by rfl, rfl⟩) hHeld ?_
                    simp only [List.getElem_toArray, List.getElem_cons_zero, List.getElem_cons_succ, Act.put, List.setIfInBounds_toArray, List.set_cons_zero, List.set_cons_succ]
                    refine wpAnyK_take (i := 26) (v := undef) rfl (by kernel_rfl) (by kernel_rfl) (by kernel_rfl) (by kernel_rfl) (fun _ _ _ h => h) (Or.inr ⟨by rfl, rfl⟩) hHeld ?_
                    simp only [List.getElem_toArray, List.getElem_cons_zero, List.getElem_cons_succ, Act.put, List.setIfInBounds_toArray, List.set_cons_zero, List.set_cons_succ]
                    refine wpAnyK_take (i := 27) (v := undef) rfl (by kernel_rfl) (by kernel_rfl) (by kernel_rfl) (by kernel_rfl) (fun _ _ _ h => h) (Or.inr ⟨by rfl, rfl⟩) hHeld ?_
                    simp only [List.getElem_toArray, List.getElem_cons_zero, List.getElem_cons_succ, Act.put, List.setIfInBounds_toArray, List.set_cons_zero, List.set_cons_succ]
                    refine wpAnyK_take (i := 28) (v := undef) rfl (by kernel_rfl) (by kernel_rfl) (by kernel_rfl) (by kernel_rfl) (fun _ _ _ h => h) (Or.inr ⟨by rfl, rfl⟩) hHeld ?_
                    simp only [List.getElem_toArray, List.getElem_cons_zero, List.getElem_cons_succ, Act.put, List.setIfInBounds_toArray, List.set_cons_zero, List.set_cons_succ]
                    refine wpAnyK_take (i := 29) (v := .bool false) rfl (by kernel_rfl) (by kernel_rfl) (by kernel_rfl) (by kernel_rfl) (fun _ _ _ h => h) (Or.inl ⟨by rfl, fun w hSw => by go_simp⟩) hHeld ?_
                    simp only [List.getElem_toArray, List.getElem_cons_zero, List.getElem_cons_succ, Act.put, List.setIfInBounds_toArray, List.set_cons_zero, List.set_cons_succ]
                    refine wpAnyK_take (i := 30) (v := .bool false) rfl (by kernel_rfl) (by kernel_rfl) (by kernel_rfl) (by kernel_rfl) (fun _ _ _ h => h) (Or.inl ⟨by rfl, fun w hSw => by go_simp⟩) hHeld ?_
                    simp only [List.getElem_toArray, List.getElem_cons_zero, List.getElem_cons_succ, Act.put, List.setIfInBounds_toArray, List.set_cons_zero, List.set_cons_succ]
                    refine wpAnyK_done (by kernel_rfl) ?_ _
                    go_wp2_with fail
                    go_roundw
                    case rel => exact ⟨1, by omega, rfl, HB5.out.drew⟩
                    case measure => simp [intOf]; omega
                  · obtain ⟨d, rfl⟩ : ∃ d, i5 = d + 1 := ⟨i5 - 1, by omega⟩
                    obtain ⟨z, hz⟩ : ∃ z, (U.L.map Ho23.nm)[d]? = some z := ⟨_, List.getElem?_eq_getElem (by rw [hlN]; omega)⟩
                    obtain ⟨ga', gb', h5, h6, h7, h8⟩ := HRN.out d z hz
                    simp only [Option.some.injEq, Addr.mk.injEq, and_true] at h5
                    subst h5
                    have y3 : wr.drew.cell? ⟨ga, d, none⟩ = some (.string z) := (hB5.cell (p := ⟨ga, d, none⟩) (World.block_lt_of_cell? _ _ h7)).trans h7
                    have hlt : kb23 z < kb23 x := by
                      have hso := List.pairwise_map.2 H5.out.2.2.2.so
                      have h9 : d < (U.L.map Ho23.nm).length := by rw [hlN]; omega
                      have h10 : d + 1 < (U.L.map Ho23.nm).length := by rw [hlN]; omega
                      have := List.pairwise_iff_getElem.1 (List.pairwise_map (R := fun a b : ByteArray => kb23 a < kb23 b) (f := Ho23.nm) |>.2 H5.out.2.2.2.so) d (d + 1) h9 h10 (by omega)
                      rw [List.getElem?_eq_getElem h9] at hz
                      rw [List.getElem?_eq_getElem h10] at hx
                      injection hz with hz
                      injection hx with hx
                      rw [hz, hx] at this
                      exact this
                    obtain ⟨hbl, hbn⟩ := str_facts23 hlt
                    have hdN : (d : Int) < (N : Int) := by omega
                    have hpos : 0 < d + 1 := by omega
                    have hsub : IntKind.i64.wrap (((d + 1 : Nat) : Int) - 1) = (d : Int) := by rw [IntWalk.i64_in _ (by omega)]; omega
                    obtain ⟨D, hD⟩ : ∃ D, D = d + 1 := ⟨_, rfl⟩
                    rw [← hD] at hjj hjw hpos hsub y1 y2 ⊢
                    have hg0 : ¬ (N : Int) ≤ (D : Int) := by omega
                    have HD : Hid (D = d + 1) := hD
                    clear h3 h4 hx hlN hB5 h6 h7 h8 hz hlt hD h0 hi5 hj5
                    go_upto_region 33 with fail
                    refine plain_region16 (fun V => V.cell? ⟨ga, D, none⟩ = some (.string x) ∧ V.cell? ⟨gb, D, none⟩ = some (.string x) ∧ V.cell? ⟨ga, d, none⟩ = some (.string z)) 31 (by kernel_rfl) ⟨y1, y2, y3⟩ (fun hHeld => ?_)
                    refine wpAnyK_take (i := 0) (v := .int .i64 (D : Int)) rfl (by kernel_rfl) (by kernel_rfl) (by kernel_rfl) (by kernel_rfl) (fun _ _ _ h => h) (Or.inl ⟨by rfl, fun w hSw => by go_simp⟩) hHeld ?_
                    simp only [List.getElem_toArray, List.getElem_cons_zero, Act.put, List.setIfInBounds_toArray, List.set_cons_zero, List.set_cons_succ]
                    refine wpAnyK_take (i := 1) (v := .slice (some ⟨gb, 0, none⟩) N cb) rfl (by kernel_rfl) (by kernel_rfl) (by kernel_rfl) (by kernel_rfl) (fun _ _ _ h => h) (Or.inl ⟨by rfl, fun w hSw => by go_simp⟩) hHeld ?_
                    simp only [List.getElem_toArray, List.getElem_cons_zero, List.getElem_cons_succ, Act.put, List.setIfInBounds_toArray, List.set_cons_zero, List.set_cons_succ]
                    refine wpAnyK_take (i := 2) (v := .int .i64 (N : Int)) rfl (by kernel_rfl) (by kernel_rfl) (by kernel_rfl) (by kernel_rfl) (fun _ _ _ h => h) (Or.inl ⟨by rfl, fun w hSw => by go_simp⟩) hHeld ?_
                    simp only [List.getElem_toArray, List.getElem_cons_zero, List.getElem_cons_succ, Act.put, List.setIfInBounds_toArray, List.set_cons_zero, List.set_cons_succ]
                    refine wpAnyK_take (i := 3) (v := .bool false) rfl (by kernel_rfl) (by kernel_rfl) (by kernel_rfl) (by kernel_rfl) (fun _ _ _ h => h) (Or.inl ⟨by rfl, fun w hSw => by go_simp⟩) hHeld ?_
                    simp only [List.getElem_toArray, List.getElem_cons_zero, List.getElem_cons_succ, Act.put, List.setIfInBounds_toArray, List.set_cons_zero, List.set_cons_succ]
                    refine wpAnyK_take (i := 4) (v := .bool false) rfl (by kernel_rfl) (by kernel_rfl) (by kernel_rfl) (by kernel_rfl) (fun _ _ _ h => h) (Or.inl ⟨by rfl, fun w hSw => by go_simp⟩) hHeld ?_
                    simp only [List.getElem_toArray, List.getElem_cons_zero, List.getElem_cons_succ, Act.put, List.setIfInBounds_toArray, List.set_cons_zero, List.set_cons_succ]
                    refine wpAnyK_take (i := 5) (v := .slice (some ⟨ga, 0, none⟩) N ca) rfl (by kernel_rfl) (by kernel_rfl) (by kernel_rfl) (by kernel_rfl) (fun _ _ _ h => h) (Or.inl ⟨by rfl, fun w hSw => by go_simp⟩) hHeld ?_
                    simp only [List.getElem_toArray, List.getElem_cons_zero, List.getElem_cons_succ, Act.put, List.setIfInBounds_toArray, List.set_cons_zero, List.set_cons_succ]
                    refine wpAnyK_take (i := 6) (v := .int .i64 (D : Int)) rfl (by kernel_rfl) (by kernel_rfl) (by kernel_rfl) (by kernel_rfl) (fun _ _ _ h => h) (Or.inl ⟨by rfl, fun w hSw => by go_simp⟩) hHeld ?_
                    simp only [List.getElem_toArray, List.getElem_cons_zero, List.getElem_cons_succ, Act.put, List.setIfInBounds_toArray, List.set_cons_zero, List.set_cons_succ]
                    refine wpAnyK_take (i := 7) (v := .pointer (some ⟨ga, D, none⟩)) rfl (by kernel_rfl) (by kernel_rfl) (by kernel_rfl) (by kernel_rfl) (fun _ _ _ h => h) (Or.inl ⟨by rfl, fun w hSw => by go_simp⟩) hHeld ?_
                    simp only [List.getElem_toArray, List.getElem_cons_zero, List.getElem_cons_succ, Act.put, List.setIfInBounds_toArray, List.set_cons_zero, List.set_cons_succ]
                    refine wpAnyK_take (i := 8) (v := .string x) rfl (by kernel_rfl) (by kernel_rfl) (by kernel_rfl) (by kernel_rfl) (fun _ _ _ h => h) (Or.inl ⟨by rfl, fun w hSw => by go_simp⟩) hHeld ?_
                    simp only [List.getElem_toArray, List.getElem_cons_zero, List.getElem_cons_succ, Act.put, List.setIfInBounds_toArray, List.set_cons_zero, List.set_cons_succ]
                    refine wpAnyK_take (i := 9) (v := .slice (some ⟨gb, 0, none⟩) N cb) rfl (by kernel_rfl) (by kernel_rfl) (by kernel_rfl) (by kernel_rfl) (fun _ _ _ h => h) (Or.inl ⟨by rfl, fun w hSw => by go_simp⟩) hHeld ?_
                    simp only [List.getElem_toArray, List.getElem_cons_zero, List.getElem_cons_succ, Act.put, List.setIfInBounds_toArray, List.set_cons_zero, List.set_cons_succ]
                    refine wpAnyK_take (i := 10) (v := .int .i64 (D : Int)) rfl (by kernel_rfl) (by kernel_rfl) (by kernel_rfl) (by kernel_rfl) (fun _ _ _ h => h) (Or.inl ⟨by rfl, fun w hSw => by go_simp⟩) hHeld ?_
                    simp only [List.getElem_toArray, List.getElem_cons_zero, List.getElem_cons_succ, Act.put, List.setIfInBounds_toArray, List.set_cons_zero, List.set_cons_succ]
                    refine wpAnyK_take (i := 11) (v := .pointer (some ⟨gb, D, none⟩)) rfl (by kernel_rfl) (by kernel_rfl) (by kernel_rfl) (by kernel_rfl) (fun _ _ _ h => h) (Or.inl ⟨by rfl, fun w hSw => by go_simp⟩) hHeld ?_
                    simp only [List.getElem_toArray, List.getElem_cons_zero, List.getElem_cons_succ, Act.put, List.setIfInBounds_toArray, List.set_cons_zero, List.set_cons_succ]
                    refine wpAnyK_take (i := 12) (v := .string x) rfl (by kernel_rfl) (by kernel_rfl) (by kernel_rfl) (by kernel_rfl) (fun _ _ _ h => h) (Or.inl ⟨by rfl, fun w hSw => by go_simp⟩) hHeld ?_
                    simp only [List.getElem_toArray, List.getElem_cons_zero, List.getElem_cons_succ, Act.put, List.setIfInBounds_toArray, List.set_cons_zero, List.set_cons_succ]
                    refine wpAnyK_take (i := 13) (v := .bool false) rfl (by kernel_rfl) (by kernel_rfl) (by kernel_rfl) (by kernel_rfl) (fun _ _ _ h => h) (Or.inl ⟨by rfl, fun w hSw => by go_simp⟩) hHeld ?_
                    simp only [List.getElem_toArray, List.getElem_cons_zero, List.getElem_cons_succ, Act.put, List.setIfInBounds_toArray, List.set_cons_zero, List.set_cons_succ]
                    refine wpAnyK_take (i := 14) (v := .bool false) rfl (by kernel_rfl) (by kernel_rfl) (by kernel_rfl) (by kernel_rfl) (fun _ _ _ h => h) (Or.inl ⟨by rfl, fun w hSw => by go_simp⟩) hHeld ?_
                    simp only [List.getElem_toArray, List.getElem_cons_zero, List.getElem_cons_succ, Act.put, List.setIfInBounds_toArray, List.set_cons_zero, List.set_cons_succ]
                    refine wpAnyK_take (i := 15) (v := .bool false) rfl (by kernel_rfl) (by kernel_rfl) (by kernel_rfl) (by kernel_rfl) (fun _ _ _ h => h) (Or.inl ⟨by rfl, fun w hSw => by go_simp⟩) hHeld ?_
                    simp only [List.getElem_toArray, List.getElem_cons_zero, List.getElem_cons_succ, Act.put, List.setIfInBounds_toArray, List.set_cons_zero, List.set_cons_succ]
                    refine wpAnyK_take (i := 16) (v := .int .i64 (D : Int)) rfl (by kernel_rfl) (by kernel_rfl) (by kernel_rfl) (by kernel_rfl) (fun _ _ _ h => h) (Or.inl ⟨by rfl, fun w hSw => by go_simp⟩) hHeld ?_
                    simp only [List.getElem_toArray, List.getElem_cons_zero, List.getElem_cons_succ, Act.put, List.setIfInBounds_toArray, List.set_cons_zero, List.set_cons_succ]
                    refine wpAnyK_take (i := 17) (v := .bool true) rfl (by kernel_rfl) (by kernel_rfl) (by kernel_rfl) (by kernel_rfl) (fun _ _ _ h => h) (Or.inl ⟨by rfl, fun w hSw => by go_simp⟩) hHeld ?_
                    simp only [List.getElem_toArray, List.getElem_cons_zero, List.getElem_cons_succ, Act.put, List.setIfInBounds_toArray, List.set_cons_zero, List.set_cons_succ]
                    refine wpAnyK_take (i := 18) (v := .bool true) rfl (by kernel_rfl) (by kernel_rfl) (by kernel_rfl) (by kernel_rfl) (fun _ _ _ h => h) (Or.inl ⟨by rfl, fun w hSw => by go_simp⟩) hHeld ?_
                    simp only [List.getElem_toArray, List.getElem_cons_zero, List.getElem_cons_succ, Act.put, List.setIfInBounds_toArray, List.set_cons_zero, List.set_cons_succ]
                    refine wpAnyK_take (i := 19) (v := .slice (some ⟨ga, 0, none⟩) N ca) rfl (by kernel_rfl) (by kernel_rfl) (by kernel_rfl) (by kernel_rfl) (fun _ _ _ h => h) (Or.inl ⟨by rfl, fun w hSw => by go_simp⟩) hHeld ?_
                    simp only [List.getElem_toArray, List.getElem_cons_zero, List.getElem_cons_succ, Act.put, List.setIfInBounds_toArray, List.set_cons_zero, List.set_cons_succ]
                    refine wpAnyK_take (i := 20) (v := .int .i64 (D : Int)) rfl (by kernel_rfl) (by kernel_rfl) (by kernel_rfl) (by kernel_rfl) (fun _ _ _ h => h) (Or.inl ⟨by rfl, fun w hSw => by go_simp⟩) hHeld ?_
                    simp only [List.getElem_toArray, List.getElem_cons_zero, List.getElem_cons_succ, Act.put, List.setIfInBounds_toArray, List.set_cons_zero, List.set_cons_succ]
                    refine wpAnyK_take (i := 21) (v := .pointer (some ⟨ga, D, none⟩)) rfl (by kernel_rfl) (by kernel_rfl) (by kernel_rfl) (by kernel_rfl) (fun _ _ _ h => h) (Or.inl ⟨by rfl, fun w hSw => by go_simp⟩) hHeld ?_
                    simp only [List.getElem_toArray, List.getElem_cons_zero, List.getElem_cons_succ, Act.put, List.setIfInBounds_toArray, List.set_cons_zero, List.set_cons_succ]
                    refine wpAnyK_take (i := 22) (v := .string x) rfl (by kernel_rfl) (by kernel_rfl) (by kernel_rfl) (by kernel_rfl) (fun _ _ _ h => h) (Or.inl ⟨by rfl, fun w hSw => by go_simp⟩) hHeld ?_
                    simp only [List.getElem_toArray, List.getElem_cons_zero, List.getElem_cons_succ, Act.put, List.setIfInBounds_toArray, List.set_cons_zero, List.set_cons_succ]
                    refine wpAnyK_take (i := 23) (v := .slice (some ⟨ga, 0, none⟩) N ca) rfl (by kernel_rfl) (by kernel_rfl) (by kernel_rfl) (by kernel_rfl) (fun _ _ _ h => h) (Or.inl ⟨by rfl, fun w hSw => by go_simp⟩) hHeld ?_
                    simp only [List.getElem_toArray, List.getElem_cons_zero, List.getElem_cons_succ, Act.put, List.setIfInBounds_toArray, List.set_cons_zero, List.set_cons_succ]
                    refine wpAnyK_take (i := 24) (v := .int .i64 (D : Int)) rfl (by kernel_rfl) (by kernel_rfl) (by kernel_rfl) (by kernel_rfl) (fun _ _ _ h => h) (Or.inl ⟨by rfl, fun w hSw => by go_simp⟩) hHeld ?_
                    simp only [List.getElem_toArray, List.getElem_cons_zero, List.getElem_cons_succ, Act.put, List.setIfInBounds_toArray, List.set_cons_zero, List.set_cons_succ]
                    refine wpAnyK_take (i := 25) (v := .int .i64 (d : Int)) rfl (by kernel_rfl) (by kernel_rfl) (by kernel_rfl) (by kernel_rfl) (fun _ _ _ h => h) (Or.inl ⟨by rfl, fun w hSw => by go_simp⟩) hHeld ?_
                    simp only [List.getElem_toArray, List.getElem_cons_zero, List.getElem_cons_succ, Act.put, List.setIfInBounds_toArray, List.set_cons_zero, List.set_cons_succ]
                    refine wpAnyK_take (i := 26) (v := .pointer (some ⟨ga, d, none⟩)) rfl (by kernel_rfl) (by kernel_rfl) (by kernel_rfl) (by kernel_rfl) (fun _ _ _ h => h) (Or.inl ⟨by rfl, fun w hSw => by go_simp⟩) hHeld ?_
                    simp only [List.getElem_toArray, List.getElem_cons_zero, List.getElem_cons_succ, Act.put, List.setIfInBounds_toArray, List.set_cons_zero, List.set_cons_succ]
                    refine wpAnyK_take (i := 27) (v := .string z) rfl (by kernel_rfl) (by kernel_rfl) (by kernel_rfl) (by kernel_rfl) (fun _ _ _ h => h) (Or.inl ⟨by rfl, fun w hSw => by go_simp⟩) hHeld ?_
                    simp only [List.getElem_toArray, List.getElem_cons_zero, List.getElem_cons_succ, Act.put, List.setIfInBounds_toArray, List.set_cons_zero, List.set_cons_succ]
                    refine wpAnyK_take (i := 28) (v := .bool false) rfl (by kernel_rfl) (by kernel_rfl) (by kernel_rfl) (by kernel_rfl) (fun _ _ _ h => h) (Or.inl ⟨by rfl, fun w hSw => by go_simp⟩) hHeld ?_
                    simp only [List.getElem_toArray, List.getElem_cons_zero, List.getElem_cons_succ, Act.put, List.setIfInBounds_toArray, List.set_cons_zero, List.set_cons_succ]
                    refine wpAnyK_take (i := 29) (v := .bool false) rfl (by kernel_rfl) (by kernel_rfl) (by kernel_rfl) (by kernel_rfl) (fun _ _ _ h => h) (Or.inl ⟨by rfl, fun w hSw => by go_simp⟩) hHeld ?_
                    simp only [List.getElem_toArray, List.getElem_cons_zero, List.getElem_cons_succ, Act.put, List.setIfInBounds_toArray, List.set_cons_zero, List.set_cons_succ]
                    refine wpAnyK_take (i := 30) (v := .bool false) rfl (by kernel_rfl) (by kernel_rfl) (by kernel_rfl) (by kernel_rfl) (fun _ _ _ h => h) (Or.inl ⟨by rfl, fun w hSw => by go_simp⟩) hHeld ?_
                    simp only [List.getElem_toArray, List.getElem_cons_zero, List.getElem_cons_succ, Act.put, List.setIfInBounds_toArray, List.set_cons_zero, List.set_cons_succ]
                    refine wpAnyK_done (by kernel_rfl) ?_ _
                    go_wp2_with fail
                    go_roundw
                    case rel => exact ⟨D + 1, by omega, rfl, HB5.out.drew⟩
                    case measure => simp [intOf]; omega
                · have hjj : ¬ (i5 : Int) < (N : Int) := by omega
                  have HB5 : Hid (Below w7.heap.size w7 wr) := hB5
                  clear hB5
                  go_wp2_with fail
                  refine (pliv23 _).mono ?_
                  rintro e w9 ⟨rfl, hb9⟩
                  have HB9 : Hid (Below w7.heap.size w7 w9) := HB5.out.trans (hb9.mono HB5.out.size)
                  clear hb9
                  go_wp2_with fail
                  go_ret
                  exact ⟨rfl, H7.out.k.trans (HB9.out.mono H7.out.k.size)⟩
end Go.Proofs.Ytboangeopbblnaa
