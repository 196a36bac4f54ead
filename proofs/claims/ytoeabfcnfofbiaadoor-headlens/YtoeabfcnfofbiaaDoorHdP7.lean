
import Derived.Test.YtoeabfcnfofbiaaDoorHdP6
import Derived.Test.YtoeabfcnfofbiaaDoorHdR5
import Derived.Test.YtoeabfcnfofbiaaDoorHdM2
namespace Go.Proofs.YtoeabfcnfofbiaaDoor
open Go.RowKit
set_option linter.unusedVariables false

/-! The landed head: Lens. -/
def LnP (out : List Int) (v : Int) (w wq : World) (ty : TypeId) (c m : Nat) (to tk : Value) : Prop := ∃ (k m' oc : Nat) (oa : Option Addr), k ≤ c ∧ tk = .int .i64 (k : Int) ∧ to = .slice oa m' oc ∧ m' = m + k ∧ wq.ownsRow w.heap.size ty 1 (.slice oa m' oc) m' ((out ++ List.replicate k v).map (Value.int .i64)) ∧ Below w.heap.size w wq
set_option maxRecDepth 100000 in
set_option maxHeartbeats 4000000 in
theorem plens8 (R : List Rn8) (a : Option Addr) (n cap : Nat) (hn : Hid (R.length = n)) (w : World) (hs : SegN w a R) (hl : n ≤ 1152921504606846976) (T : TabS w) :
    Calls Tryd.prog 18 #[.slice a n cap] w (LsQ w 3 (lzs8 R) (ler8 R)) := by
  obtain ⟨i0, hi, hz0, hz1, hz2⟩ := info_parts info_int
  have HS : Hid (SegN w a R) := hs
  have HT : Hid (TabS w) := T
  have HNO : Hid (lens8 R = none → ∀ w', Below w.heap.size w w' → LsQ w 3 (lzs8 R) (ler8 R) (.returned (.tuple #[.slice none 0 0, .int .i64 81])) w') := fun hm w' hb => by
    rw [(lzs8_none hm).1, (lzs8_none hm).2]
    exact ⟨none, 0, rfl, World.ownsRow_nil _ _ _ _, hb⟩
  clear hs T
  go_enter Tryd.func18, Tryd.ntmps18
  go_wp2_with fail
  go_loopw [4, 10] (fun to ti wq => LnI R w wq 3 n to ti) (fun _ ti _ => n - (intOf ti).toNat)
  case atStart => exact ⟨0, 0, 0, none, [], by omega, by omega, rfl, rfl, rfl, by simp, rfl, World.ownsRow_nil _ _ _ _, Below.refl _ _⟩
  case round =>
    obtain ⟨i, m, oc, oa, out, hin, hm3, rfl, rfl, hol, hob, hlg, OO, BR⟩ := hrel
    have HOL : Hid (out.length = m) := hol
    have HOB : Hid (∀ z ∈ out, 0 ≤ z ∧ z ≤ 15) := hob
    have HLG : Hid (lens8 R = lng8 (R.drop i) out) := hlg
    clear hol hob hlg
    by_cases hlt : i < n
    · have hlti : (i : Int) < (n : Int) := by omega
      have hil : i < R.length := by rw [hn.out]; exact hlt
      have hat := lng8_at hil out
      obtain ⟨b, off, rfl, cs, cc⟩ := ((show SegN w a R from HS.out).old BR).at_ i hil
      rw [HOL.out] at hat
      have HAT : Hid (lens8 R = if bad8 (R.getD i ⟨0, 0⟩) m then none else if 320 < (out ++ List.replicate (R.getD i ⟨0, 0⟩).ct.toNat (val8 (R.getD i ⟨0, 0⟩) out)).length then none else lng8 (R.drop (i + 1)) (out ++ List.replicate (R.getD i ⟨0, 0⟩).ct.toNat (val8 (R.getD i ⟨0, 0⟩) out))) := by
        show _ = _
        rw [HLG.out, hat]
      clear hat HLG
      generalize R.getD i ⟨0, 0⟩ = r at *
      obtain ⟨sy, ct⟩ := r
      simp only at cs cc
      obtain ⟨A, hA⟩ : ∃ A, A = wr.heap.size := ⟨_, rfl⟩
      obtain ⟨wA, hwA⟩ : ∃ wA, wA = wr.alloc (.cells #[.int .i64 sy, .int .i64 ct] 38) := ⟨_, rfl⟩
      have HWA : Hid (wr.alloc (.cells #[.int .i64 sy, .int .i64 ct] 38) = wA) := hwA.symm
      have HA : Hid (wr.heap.size = A) := hA.symm
      have bA : Below wr.heap.size wr wA := by rw [hwA]; exact (Below.refl _ _).alloc (Nat.le_refl _) _
      have hAA : wA.heap[A]? = some (.cells #[.int .i64 sy, .int .i64 ct] 38 (0, 0)) := by rw [hwA, hA]; exact heap_alloc_new wr _
      have hAs : A < wA.heap.size := (Array.getElem?_eq_some_iff.1 hAA).1
      have cA0 : wA.cell? ⟨A, 0, none⟩ = some (.int .i64 sy) := by simp only [World.cell?, hAA]; rfl
      have cA1 : wA.cell? ⟨A, 1, none⟩ = some (.int .i64 ct) := by simp only [World.cell?, hAA]; rfl
      have OA := own_below OO bA
      have BA : Below w.heap.size w wA := BR.trans (bA.mono BR.size)
      have CM := pmay8 m sy ct (by omega) wA (SegZ.old HT.out BA)
      have HAE : Hid (A = wr.heap.size) := hA
      clear hAA hwA hA OO bA
      go_wp2_with fail
      rw [HWA.out]
      refine CM.mono ?_
      rintro e w1 ⟨B, rfl, hB, b1⟩
      have c10 := (b1.cell (p := ⟨A, 0, none⟩) hAs).trans cA0
      have c11 := (b1.cell (p := ⟨A, 1, none⟩) hAs).trans cA1
      have O1 := own_below OA b1
      have B1 : Below w.heap.size w w1 := BA.trans (b1.mono BA.size)
      rw [HAE.out] at c10 c11
      clear b1 OA BA cA0 cA1 CM HWA HA hAs cs cc
      by_cases hBB : B = true
      · obtain ⟨hb1, hb2⟩ := hB.1 hBB
        subst hBB
        have hbd : 0 ≤ sy ∧ sy ≤ 18 ∧ lst8 sy ≤ ct ∧ ct ≤ grt8 sy ∧ ¬ (sy = 16 ∧ m = 0) := by
          unfold bad8 at hb1
          simp only at hb1
          omega
        have hlo1 := lst8_bd sy
        have hgr1 := grt8_bd sy
        obtain ⟨s, rfl⟩ : ∃ s : Nat, sy = (s : Int) := ⟨sy.toNat, by omega⟩
        obtain ⟨c, rfl⟩ : ∃ c : Nat, ct = (c : Int) := ⟨ct.toNat, by omega⟩
        obtain ⟨t0, t1, t2⟩ := TabS.at8 (SegZ.old HT.out B1) s (by omega)
        clear t1 t2
        obtain ⟨V, hV⟩ : ∃ V, V = val8 ⟨s, c⟩ out := ⟨_, rfl⟩
        have HL3 : Hid (lens8 R = lng8 (R.drop (i + 1)) (out ++ List.replicate c V)) := by
          show _ = _
          rw [HAT.out, if_neg hb1, ← hV, if_neg]
          · simp
          · simp only [List.length_append, List.length_replicate, HOL.out, Int.toNat_natCast]
            omega
        have hc138 : c ≤ 138 ∧ 1 ≤ c ∧ m + c ≤ 320 := by omega
        have hVb : 0 ≤ V ∧ V ≤ 15 := by
          rw [hV, val8]
          split
          · rename_i h
            exact HOB.out _ (end8_mem out (by rw [HOL.out]; simp only at h; omega))
          · split
            · omega
            · simp only at *; omega
        have hcase : (s = 16 ∧ sln8 s = -1 ∧ ∃ m1, m = m1 + 1 ∧ ∃ bo oo, oa = some ⟨bo, oo, none⟩ ∧ w1.cell? ⟨bo, oo + m1, none⟩ = some (.int .i64 V)) ∨ (sln8 s = V ∧ (V == -1) = false) := by
          by_cases h : s = 16
          · left
            have hm0 : 0 < m := by omega
            refine ⟨h, by unfold sln8; rw [if_pos (by omega)], m - 1, by omega, ?_⟩
            obtain ⟨bo, oo, ho, co⟩ := (own_segZ O1 (fun z hz => by have := HOB.out z hz; omega)).at_ (m - 1) (by rw [HOL.out]; omega)
            refine ⟨bo, oo, ho, ?_⟩
            rw [hV, val8, if_pos (by simp only; omega), end8_get out (by rw [HOL.out]; exact hm0), HOL.out]
            exact co
          · right
            refine ⟨?_, by rw [beq_eq_false_iff_ne]; omega⟩
            rw [hV, val8, if_neg (by simp only; omega)]
            unfold sln8
            rw [if_neg (by omega)]
        have HOB2 : Hid (∀ z ∈ out ++ List.replicate c V, 0 ≤ z ∧ z ≤ 15) := fun z hz => by
          rcases List.mem_append.1 hz with h | h
          · exact HOB.out z h
          · rw [List.eq_of_mem_replicate h]; exact hVb
        have hs19 : (s : Int) < 19 := by omega
        clear hV hB hb1 hb2 HAT HNO hbd hlo1 hgr1
        generalize sln8 (s : Int) = x0 at *
        rcases hcase with ⟨h16, rfl, m1, rfl, bo, oo, rfl, co⟩ | ⟨rfl, hVn⟩
        · clear h16
          go_wp2_with fail
          go_loopw [4, 34] (fun to tk wq => LnP out V w wq 3 c (m1 + 1) to tk) (fun _ tk _ => c - (intOf tk).toNat)
          case atStart => exact ⟨0, m1 + 1, oc, _, by omega, rfl, rfl, by omega, by rw [List.replicate_zero, List.append_nil]; exact O1, B1⟩
          case round =>
            clear O1 B1 co c10 c11 t0
            obtain ⟨k, m', oc', oa', hkc, rfl, rfl, hm', OX, BX⟩ := hrel
            have HMX : Hid (m' = m1 + 1 + k) := hm'
            have hm4 : m' ≤ 320 := by omega
            have hsz := BX.size
            clear hm'
            by_cases hk : k < c
            · have hki : (k : Int) < (c : Int) := by omega
              go_wp2_with (first | (at_builtin; refine wpList_appI rfl (.tmp 36) (.tmp 38) 22 rfl w.heap.size 3 i0 (.int .i64 0) 8 Tryd.underlying22 hi hz0 hz1 hz2 rfl wr _ OX rfl rfl (by omega) (by omega) hsz ?_; intro ga gc w3 own3 hk3 hat3))
              have B3 : Below w.heap.size w w3 := BX.trans (hk3.below (fun q e => (OX.lt q e).1) hsz)
              have OW3 : w3.ownsRow w.heap.size 3 1 (.slice (some ⟨ga, 0, none⟩) (m' + 1) gc) (m' + 1) ((out ++ List.replicate (k + 1) V).map (Value.int .i64)) := by rw [List.replicate_succ', ← List.append_assoc]; exact own3
              clear hk3 hat3 own3
              go_roundw
              case rel => exact ⟨k + 1, m' + 1, gc, _, hk, by go_num, rfl, by rw [HMX.out]; omega, OW3, B3⟩
              case measure => simp [intOf]; omega
            · have hke : ¬ (k : Int) < (c : Int) := by omega
              obtain rfl : k = c := by omega
              have HOL2 : Hid ((out ++ List.replicate k V).length = m') := by show _ = _; rw [List.length_append, List.length_replicate, HOL.out, HMX.out]
              clear HMX
              go_wp2_with fail
              go_roundw
              case rel => exact ⟨i + 1, m', oc', oa', _, by omega, by omega, by go_num, rfl, HOL2.out, HOB2.out, HL3.out, OX, BX⟩
              case measure => simp [intOf]; omega
        · go_wp2_with fail
          go_loopw [4, 34] (fun to tk wq => LnP out x0 w wq 3 c m to tk) (fun _ tk _ => c - (intOf tk).toNat)
          case atStart => exact ⟨0, m, oc, _, by omega, rfl, rfl, by omega, by rw [List.replicate_zero, List.append_nil]; exact O1, B1⟩
          case round =>
            clear O1 B1 c10 c11 t0
            obtain ⟨k, m', oc', oa', hkc, rfl, rfl, hm', OX, BX⟩ := hrel
            have HMX : Hid (m' = m + k) := hm'
            have hm4 : m' ≤ 320 := by omega
            have hsz := BX.size
            clear hm'
            by_cases hk : k < c
            · have hki : (k : Int) < (c : Int) := by omega
              go_wp2_with (first | (at_builtin; refine wpList_appI rfl (.tmp 36) (.tmp 38) 22 rfl w.heap.size 3 i0 (.int .i64 0) 8 Tryd.underlying22 hi hz0 hz1 hz2 rfl wr _ OX rfl rfl (by omega) (by omega) hsz ?_; intro ga gc w3 own3 hk3 hat3))
              have B3 : Below w.heap.size w w3 := BX.trans (hk3.below (fun q e => (OX.lt q e).1) hsz)
              have OW3 : w3.ownsRow w.heap.size 3 1 (.slice (some ⟨ga, 0, none⟩) (m' + 1) gc) (m' + 1) ((out ++ List.replicate (k + 1) x0).map (Value.int .i64)) := by rw [List.replicate_succ', ← List.append_assoc]; exact own3
              clear hk3 hat3 own3
              go_roundw
              case rel => exact ⟨k + 1, m' + 1, gc, _, hk, by go_num, rfl, by rw [HMX.out]; omega, OW3, B3⟩
              case measure => simp [intOf]; omega
            · have hke : ¬ (k : Int) < (c : Int) := by omega
              obtain rfl : k = c := by omega
              have HOL2 : Hid ((out ++ List.replicate k x0).length = m') := by show _ = _; rw [List.length_append, List.length_replicate, HOL.out, HMX.out]
              clear HMX
              go_wp2_with fail
              go_roundw
              case rel => exact ⟨i + 1, m', oc', oa', _, by omega, by omega, by go_num, rfl, HOL2.out, HOB2.out, HL3.out, OX, BX⟩
              case measure => simp [intOf]; omega
      · have hBF : B = false := by cases B; rfl; exact absurd rfl hBB
        subst hBF
        have hnone : lens8 R = none := by
          rw [HAT.out]
          by_cases hb : bad8 ⟨sy, ct⟩ m
          · rw [if_pos hb]
          · rw [if_neg hb, if_pos]
            simp only [List.length_append, List.length_replicate, HOL.out]
            have h1 : ¬ (m : Int) + ct ≤ 320 := fun h => hBB (hB.2 ⟨hb, h⟩)
            omega
        have HF := HNO.out hnone w1 B1
        clear HNO HAT hnone hB
        go_wp2_with fail
        go_ret2
        exact HF
    · have hge : ¬ (i : Int) < (n : Int) := by omega
      have hE : lens8 R = some out := by
        rw [HLG.out, List.drop_of_length_le (by rw [hn.out]; omega), lng8]
      have HE : Hid (lzs8 R = out ∧ ler8 R = 0) := lzs8_some hE
      clear hE HLG
      go_wp2_with fail
      go_ret2
      rw [HE.out.1, HE.out.2]
      refine ⟨oa, oc, ?_, ?_, BR⟩
      · rw [HOL.out]; rfl
      · rw [HOL.out]; exact OO
end Go.Proofs.YtoeabfcnfofbiaaDoor
