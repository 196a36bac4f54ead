import Derived.Test.YtodioefbfchckaaPl
import Derived.Test.YtodioefbfchckaaPo
import Derived.Test.YtodioefbfchckaaPm
namespace Go.Proofs.Ytodioefbfchckaa
open Go.RowKit Go.Shelf
set_option linter.unusedVariables false

/-! The document's Control. -/
theorem seg3_17 {W : World} {b : Nat} {t : TypeId} {x y z : Int} (h : W.heap[b]? = some (.cells #[.int .u64 x, .int .u64 y, .int .u64 z] t (0, 0))) (hx : 0 ≤ x ∧ x ≤ 18446744073709551615) (hy : 0 ≤ y ∧ y ≤ 18446744073709551615) (hz : 0 ≤ z ∧ z ≤ 18446744073709551615) : Seg64 W (some ⟨b, 0, none⟩) [x, y, z] := by
  refine ⟨fun i hi => ⟨b, 0, rfl, ?_⟩, by decide, getD_bd (by decide) ?_⟩
  · match i, hi with
    | 0, _ => exact three_cell0 h
    | 1, _ => exact three_cell1 h
    | 2, _ => exact three_cell2 h
  · intro u hu
    simp only [List.mem_cons, List.not_mem_nil, or_false] at hu
    rcases hu with rfl | rfl | rfl
    · exact hx
    · exact hy
    · exact hz
/-- A row of bytes behind another. -/
theorem appe17 (V : World) {base base2 : Nat} {v v2 : Value} {n m : Nat} {xs : List Value} {ys : List Int} (hown : V.ownsRow base 5 1 v n xs) (h2 : V.ownsRow base2 5 1 v2 m (ys.map (Value.int .u8))) (hm : 0 < m) (hn : n + m ≤ 140737488355328) (hbase : base ≤ V.heap.size) :
    ∃ g rc w', (Builtin.append_ #[23, 23] 23 #[v, v2]).run Try.prog V = .ok (.slice (some ⟨g, 0, none⟩) (n + m) rc) w' ∧
      w'.ownsRow base 5 1 (.slice (some ⟨g, 0, none⟩) (n + m) rc) (n + m) (xs ++ ys.map (Value.int .u8)) ∧ Kp (fun k => v.ownBlock = some k) V w' := by
  obtain ⟨i0, hi, hz0, hz1, hz2⟩ := info_parts info_u16
  rcases h2.2 with ⟨_, h0⟩ | ⟨g2, cp, cur, hv, _⟩
  · omega
  subst hv
  have hl : ys.length = m := by simpa using h2.1
  obtain ⟨g, rc, w', hr, h1, h3, _, _⟩ := run_append_lies (P := Try.prog) V 23 23 base 5 i0 _ 1 1 Try.underlying23 hi hz0 hz1 hz2 rfl (by omega) v n xs hown ⟨g2, 0, none⟩ m cp (ys.map (Value.int .u8)) (by simp [hl])
    (fun j u hu => h2.cells (g := g2) rfl j u hu) (ints_oneCell _ _) hm (by unfold maxLen; omega) (by omega) hbase V.heap.size rfl
  exact ⟨g, rc, w', hr, h1, Kp.grown (S := fun k => v.ownBlock = some k) h3 (fun i e => e)⟩
theorem rin17_t {x lo hi : Int} (h : lo ≤ x ∧ x ≤ hi) (w : World) : Calls Try.prog 41 #[.int .i64 x, .int .i64 lo, .int .i64 hi] w fun e w' => e = .returned (.bool true) ∧ w' = w := by
  have := rin17 x lo hi w
  rwa [decide_eq_true h] at this
theorem rin17_f {x lo hi : Int} (h : ¬ (lo ≤ x ∧ x ≤ hi)) (w : World) : Calls Try.prog 41 #[.int .i64 x, .int .i64 lo, .int .i64 hi] w fun e w' => e = .returned (.bool false) ∧ w' = w := by
  have := rin17 x lo hi w
  rwa [decide_eq_false h] at this
set_option maxRecDepth 100000 in
set_option maxHeartbeats 8000000 in
theorem rctl17 (a : Option Addr) (n cap : Nat) (S : List St16) (w : World) (hs : SegS w a S) (hn : Hid (S.length = n)) (hl : n ≤ 2932031007402) :
    Calls Try.prog 21 #[.slice a n cap] w (CnQ17 w S) := by
  go_enter Try.func21, Try.ntmps21
  go_wp2_with fail
  go_loopw [4, 9] (fun t4 t9 wr => ∃ i : Nat, i ≤ n ∧ t9 = .int .i64 (i : Int) ∧ wr.ownsRow w.heap.size 5 1 t4 (encA (nm17 (S.take i))).length ((encA (nm17 (S.take i))).map (Value.int .u8)) ∧ (∀ s ∈ S.take i, cok17 s = true) ∧ Below w.heap.size w wr) (fun _ t9 _ => n - (intOf t9).toNat)
  case atStart => exact ⟨0, Nat.zero_le _, rfl, ⟨rfl, .inl ⟨rfl, rfl⟩⟩, by simp, Below.refl _ _⟩
  case round =>
    obtain ⟨i, hin0, rfl, own, hok, BR⟩ := hrel
    by_cases hin : i < n
    · have hii : (i : Int) < (n : Int) := by omega
      have hi0 : (0 : Int) ≤ (i : Int) := by omega
      have hil : i < S.length := by rw [hn.out]; exact hin
      obtain ⟨b, off, rfl, hT⟩ := (hs.old BR).at_ i hil
      have c0 := hT.c0
      have c1 := hT.c1
      have c2 := hT.c2
      have HNO : Hid (¬ cok17 (S.getD i z16) = true → ∀ w', Below w.heap.size w w' → CnQ17 w S (.returned (.tuple #[.slice none 0 0, .int .i64 171])) w') := fun hm w' hb => cnq17_no hil hm hb
      have hget : S.getD i z16 = S[i] := by simp [List.getD, hil]
      have HTK : Hid (encA (nm17 (S.take (i + 1))) = encA (nm17 (S.take i)) ++ encA [(S.getD i z16).1, (S.getD i z16).2.1, zigI (S.getD i z16).2.2]) := by
        show _ = _
        rw [List.take_succ_eq_append_getElem hil, nm17_app, encA_append, hget]; rfl
      have HOK : Hid (cok17 (S.getD i z16) = true → ∀ s ∈ S.take (i + 1), cok17 s = true) := fun hm s hs => by
        rw [List.take_succ_eq_append_getElem hil, ← hget] at hs
        rcases List.mem_append.1 hs with h | h
        · exact hok s h
        · rw [List.mem_singleton.1 h]; exact hm
      have hLl : (encA (nm17 (S.take i))).length ≤ 30 * i := by
        have h1 := (encA_len (nm17 (S.take i))).2
        rw [nm17_len, List.length_take] at h1
        have : min i S.length ≤ i := Nat.min_le_left _ _
        omega
      clear hget hT hok
      generalize S.getD i z16 = s at *
      obtain ⟨A, C, K⟩ := s
      have hiff := cok17_iff (A, C, K)
      simp only at c0 c1 c2 HTK hiff
      have HIF : Hid (cok17 (A, C, K) = true ↔ ((0 ≤ A ∧ A ≤ 65536) ∧ (0 ≤ C ∧ C ≤ 65536) ∧ -16777216 ≤ K ∧ K ≤ 16777216)) := hiff
      have HBX : Hid (Below w.heap.size w (wr.alloc (.cells #[.int .i64 A, .int .i64 C, .int .i64 K] 77))) := BR.trans ((below_box16 _ _).mono BR.size)
      clear hiff
      by_cases hA : 0 ≤ A ∧ A ≤ 65536
      · have ia := fun V => rin17_t hA V
        by_cases hC : 0 ≤ C ∧ C ≤ 65536
        · have ic := fun V => rin17_t hC V
          by_cases hKK : -16777216 ≤ K ∧ K ≤ 16777216
          · have ik := fun V => rin17_t hKK V
            obtain ⟨p, cc, hv⟩ := own_sl17 own
            subst hv
            have hokk : cok17 (A, C, K) = true := HIF.out.2 ⟨hA, hC, hKK⟩
            have HO2 : Hid (∀ s ∈ S.take (i + 1), cok17 s = true) := HOK.out hokk
            obtain ⟨wB, hwB⟩ : ∃ wB, wB = wr.alloc (.cells #[.int .i64 A, .int .i64 C, .int .i64 K] 77) := ⟨_, rfl⟩
            obtain ⟨bs, hbs⟩ : ∃ bs, bs = wr.heap.size := ⟨_, rfl⟩
            have cB : Cb16 wr #[.int .i64 A, .int .i64 C, .int .i64 K] 77 wB := by rw [hwB]; exact cb16 _ _ _
            have BB : Below w.heap.size w wB := BR.trans (cB.bl.mono BR.size)
            have qB : wB.heap[bs]? = some (.cells #[.int .i64 A, .int .i64 C, .int .i64 K] 77 (0, 0)) := by rw [hbs]; exact cB.cl
            have hbz : bs < wB.heap.size := by rw [hbs, cB.sz]; omega
            obtain ⟨E, hE⟩ : ∃ E, E = encA (nm17 (S.take i)) := ⟨_, rfl⟩
            obtain ⟨F, hF⟩ : ∃ F, F = encA [A, C, zigI K] := ⟨_, rfl⟩
            obtain ⟨L, hL⟩ : ∃ L, L = E.length := ⟨_, rfl⟩
            rw [← hE, ← hF] at HTK
            rw [← hE, ← hL] at own hLl
            have zb := zig_bd K (by omega) (by omega)
            have hFl := encA_len [A, C, zigI K]
            rw [← hF] at hFl
            simp only [List.length_cons, List.length_nil] at hFl
            have hne : ¬ (Value.slice p L cc).ownBlock = some bs := fun e => by have := (own.lt bs e).2; omega
            have HW : Hid (∀ V, Below wB.heap.size wB V → V.ownsRow w.heap.size 5 1 (.slice p L cc) L (E.map (Value.int .u8))) := fun V hV => own_kp own (Kp.of_below (S := fun _ => False) (cB.bl.trans (hV.mono cB.bl.size))) (fun _ _ x => x)
            have HSS : Hid (∀ W : World, W.heap[bs]? = some (.cells #[.int .i64 A, .int .i64 C, .int .i64 K] 77 (0, 0)) → W.cell? ⟨bs, 0, none⟩ = some (.int .i64 A) ∧ W.cell? ⟨bs, 1, none⟩ = some (.int .i64 C) ∧ W.cell? ⟨bs, 2, none⟩ = some (.int .i64 K)) := fun W h => ⟨three_cell0 h, three_cell1 h, three_cell2 h⟩
            have HS : Hid (∀ V, Below wB.heap.size wB V → V.heap[bs]? = some (.cells #[.int .i64 A, .int .i64 C, .int .i64 K] 77 (0, 0))) := fun V hV => (hV.block bs hbz).trans qB
            have HS0 := HSS.out wB.drew qB
            have BX : ∀ o, Below wB.heap.size wB (wB.alloc o).drew := fun o => ((Below.refl _ _).alloc (Nat.le_refl _) o).drew
            have HS1 : Hid (∀ o, (wB.alloc o).drew.cell? ⟨bs, 0, none⟩ = some (.int .i64 A) ∧ (wB.alloc o).drew.cell? ⟨bs, 1, none⟩ = some (.int .i64 C) ∧ (wB.alloc o).drew.cell? ⟨bs, 2, none⟩ = some (.int .i64 K)) := fun o => HSS.out _ (HS.out _ (BX o))
            have HSV : Hid (∀ V, Below wB.heap.size wB V → V.cell? ⟨bs, 0, none⟩ = some (.int .i64 A) ∧ V.cell? ⟨bs, 1, none⟩ = some (.int .i64 C) ∧ V.cell? ⟨bs, 2, none⟩ = some (.int .i64 K)) := fun V hV => HSS.out _ (HS.out _ hV)
            have HEN : Hid (Calls Try.prog 51 #[.slice (some ⟨wB.heap.size, 0, none⟩) 3 3] (wB.alloc (.cells #[.int .u64 A, .int .u64 C, .int .u64 (zigI K)] 73)).drew fun e w' => ∃ v, e = .returned v ∧ w'.ownsRow w.heap.size 5 1 v F.length (F.map (Value.int .u8)) ∧ Below wB.heap.size wB w') := by
              have hc := rencode_any (some ⟨wB.heap.size, 0, none⟩) [A, C, zigI K] 3 (wB.alloc (.cells #[.int .u64 A, .int .u64 C, .int .u64 (zigI K)] 73)).drew (seg3_17 (heap_alloc_new wB (.cells #[.int .u64 A, .int .u64 C, .int .u64 (zigI K)] 73 (0, 0))) (by omega) (by omega) zb) (by simp)
              rw [← hF] at hc
              refine Calls.mono hc ?_
              rintro e w' ⟨v, h1, h2, h3⟩
              have hbx := BX (.cells #[.int .u64 A, .int .u64 C, .int .u64 (zigI K)] 73)
              exact ⟨v, h1, own_base h2 (Nat.le_trans BB.size hbx.size), hbx.trans (h3.mono hbx.size)⟩
            have HAP : Hid (∀ V v2, Below wB.heap.size wB V → V.ownsRow w.heap.size 5 1 v2 F.length (F.map (Value.int .u8)) → ∃ g rc w', (Builtin.append_ #[23, 23] 23 #[.slice p L cc, v2]).run Try.prog V = .ok (.slice (some ⟨g, 0, none⟩) (L + F.length) rc) w' ∧ w'.ownsRow w.heap.size 5 1 (.slice (some ⟨g, 0, none⟩) (L + F.length) rc) (L + F.length) ((E ++ F).map (Value.int .u8)) ∧ Below w.heap.size w w' ∧ w'.cell? ⟨bs, 0, none⟩ = some (.int .i64 A) ∧ w'.cell? ⟨bs, 1, none⟩ = some (.int .i64 C) ∧ w'.cell? ⟨bs, 2, none⟩ = some (.int .i64 K)) := fun V v2 hV h2 => by
              obtain ⟨g, rc, w', hr, ow, k1⟩ := appe17 V (HW.out V hV) h2 (by omega) (by omega) (Nat.le_trans BB.size hV.size)
              exact ⟨g, rc, w', hr, by rw [List.map_append]; exact ow, (BB.trans (hV.mono BB.size)).trans (k1.below (fun k x => (own.lt k x).1) (Nat.le_trans BB.size hV.size)), HSS.out _ (k1.heap (HS.out V hV) hne)⟩
            have HFI : Hid (∀ (g rc : Nat) (w' : World), w'.ownsRow w.heap.size 5 1 (.slice (some ⟨g, 0, none⟩) (L + F.length) rc) (L + F.length) ((E ++ F).map (Value.int .u8)) → w'.ownsRow w.heap.size 5 1 (.slice (some ⟨g, 0, none⟩) (L + F.length) rc) (encA (nm17 (S.take (i + 1)))).length ((encA (nm17 (S.take (i + 1)))).map (Value.int .u8))) := fun g rc w' h => by
              rw [HTK.out, List.length_append, ← hL]; exact h
            have HWB : Hid (wr.alloc (.cells #[.int .i64 A, .int .i64 C, .int .i64 K] 77) = wB) := hwB.symm
            have HBS : Hid (wr.heap.size = bs) := hbs.symm
            have hwA : IntKind.u64.wrap A = A := IntWalk.u64_in _ (by omega)
            have hwC : IntKind.u64.wrap C = C := IntWalk.u64_in _ (by omega)
            have HZ : Hid (∀ V, Calls Try.prog 52 #[.int .i64 K] V fun e w' => e = .returned (.int .u64 (zigI K)) ∧ w' = V) := fun V => refzig_any K V (by omega) (by omega)
            rw [← hE, ← hL]
            clear HNO HIF HBX HTK HOK own BR hs hokk hwB hbs cB BB qB hne HSS HS HW BX hE hF hFl zb hbz hLl hL
            generalize F.length = lF at *
            go_wp2_with fail
            refine (ia _).mono ?_
            rintro e w' ⟨rfl, hw'⟩
            subst w'
            go_wp2_with fail
            refine (ic _).mono ?_
            rintro e w' ⟨rfl, hw'⟩
            subst w'
            go_wp2_with fail
            refine (ik _).mono ?_
            rintro e w' ⟨rfl, hw'⟩
            subst w'
            go_wp2_with fail
            rw [HWB.out, HBS.out]
            clear c0 c1 c2 ia ic ik
            refine plain_region16 (fun V => V.cell? ⟨bs, 0, none⟩ = some (.int .i64 A) ∧ V.cell? ⟨bs, 1, none⟩ = some (.int .i64 C) ∧ V.cell? ⟨bs, 2, none⟩ = some (.int .i64 K)) 14 (by kernel_rfl) HS0 (fun hHeld => ?_)
            refine wpAnyK_take (i := 0) (v := .slice p L cc) rfl (by kernel_rfl) (by kernel_rfl) (by kernel_rfl) (by kernel_rfl) (fun _ _ _ h => h) (Or.inl ⟨by rfl, fun w hSw => by go_simp⟩) hHeld ?_
            simp only [List.getElem_toArray, List.getElem_cons_zero, Act.put, List.setIfInBounds_toArray, List.set_cons_zero, List.set_cons_succ]
            refine wpAnyK_take (i := 1) (v := .pointer (some ⟨bs, 0, none⟩)) rfl (by kernel_rfl) (by kernel_rfl) (by kernel_rfl) (by kernel_rfl) (fun _ _ _ h => h) (Or.inl ⟨by rfl, fun w hSw => by go_simp⟩) hHeld ?_
            simp only [List.getElem_toArray, List.getElem_cons_zero, List.getElem_cons_succ, Act.put, List.setIfInBounds_toArray, List.set_cons_zero, List.set_cons_succ]
            refine wpAnyK_take (i := 2) (v := .int .i64 A) rfl (by kernel_rfl) (by kernel_rfl) (by kernel_rfl) (by kernel_rfl) (fun _ _ _ h => h) (Or.inl ⟨by rfl, fun w hSw => by go_simp⟩) hHeld ?_
            simp only [List.getElem_toArray, List.getElem_cons_zero, List.getElem_cons_succ, Act.put, List.setIfInBounds_toArray, List.set_cons_zero, List.set_cons_succ]
            refine wpAnyK_take (i := 3) (v := .int .u64 A) rfl (by kernel_rfl) (by kernel_rfl) (by kernel_rfl) (by kernel_rfl) (fun _ _ _ h => h) (Or.inl ⟨by rfl, fun w hSw => by go_simp⟩) hHeld ?_
            simp only [List.getElem_toArray, List.getElem_cons_zero, List.getElem_cons_succ, Act.put, List.setIfInBounds_toArray, List.set_cons_zero, List.set_cons_succ]
            refine wpAnyK_take (i := 4) (v := .pointer (some ⟨bs, 1, none⟩)) rfl (by kernel_rfl) (by kernel_rfl) (by kernel_rfl) (by kernel_rfl) (fun _ _ _ h => h) (Or.inl ⟨by rfl, fun w hSw => by go_simp⟩) hHeld ?_
            simp only [List.getElem_toArray, List.getElem_cons_zero, List.getElem_cons_succ, Act.put, List.setIfInBounds_toArray, List.set_cons_zero, List.set_cons_succ]
            refine wpAnyK_take (i := 5) (v := .int .i64 C) rfl (by kernel_rfl) (by kernel_rfl) (by kernel_rfl) (by kernel_rfl) (fun _ _ _ h => h) (Or.inl ⟨by rfl, fun w hSw => by go_simp⟩) hHeld ?_
            simp only [List.getElem_toArray, List.getElem_cons_zero, List.getElem_cons_succ, Act.put, List.setIfInBounds_toArray, List.set_cons_zero, List.set_cons_succ]
            refine wpAnyK_take (i := 6) (v := .int .u64 C) rfl (by kernel_rfl) (by kernel_rfl) (by kernel_rfl) (by kernel_rfl) (fun _ _ _ h => h) (Or.inl ⟨by rfl, fun w hSw => by go_simp⟩) hHeld ?_
            simp only [List.getElem_toArray, List.getElem_cons_zero, List.getElem_cons_succ, Act.put, List.setIfInBounds_toArray, List.set_cons_zero, List.set_cons_succ]
            refine wpAnyK_take (i := 7) (v := .pointer (some ⟨bs, 2, none⟩)) rfl (by kernel_rfl) (by kernel_rfl) (by kernel_rfl) (by kernel_rfl) (fun _ _ _ h => h) (Or.inl ⟨by rfl, fun w hSw => by go_simp⟩) hHeld ?_
            simp only [List.getElem_toArray, List.getElem_cons_zero, List.getElem_cons_succ, Act.put, List.setIfInBounds_toArray, List.set_cons_zero, List.set_cons_succ]
            refine wpAnyK_take (i := 8) (v := .int .i64 K) rfl (by kernel_rfl) (by kernel_rfl) (by kernel_rfl) (by kernel_rfl) (fun _ _ _ h => h) (Or.inl ⟨by rfl, fun w hSw => by go_simp⟩) hHeld ?_
            simp only [List.getElem_toArray, List.getElem_cons_zero, List.getElem_cons_succ, Act.put, List.setIfInBounds_toArray, List.set_cons_zero, List.set_cons_succ]
            refine wpAnyK_one (i := 9) (by kernel_rfl) rfl (fun K hK => ?_)
            (try simp only [List.getElem_toArray, List.getElem_cons_zero, List.getElem_cons_succ, Act.put, List.setIfInBounds_toArray, List.set_cons_zero, List.set_cons_succ])
            go_simp
            refine (HZ.out _).mono ?_
            rintro e9 w9 ⟨rfl, rfl⟩
            refine hK.out _ _ (fun _ => HS0) (fun hHeld0 => ?_)
            have hHeld := hHeld0 (by decide)
            clear hHeld0 hK K
            (try simp only [List.getElem_toArray, List.getElem_cons_zero, List.getElem_cons_succ, Act.put, List.setIfInBounds_toArray, List.set_cons_zero, List.set_cons_succ])
            refine wpAnyK_one (i := 10) (by kernel_rfl) rfl (fun K hK => ?_)
            (try simp only [List.getElem_toArray, List.getElem_cons_zero, List.getElem_cons_succ, Act.put, List.setIfInBounds_toArray, List.set_cons_zero, List.set_cons_succ])
            go_simp
            refine hK.out _ _ (fun _ => HS1.out _) (fun hHeld0 => ?_)
            have hHeld := hHeld0 (by decide)
            clear hHeld0 hK K
            (try simp only [List.getElem_toArray, List.getElem_cons_zero, List.getElem_cons_succ, Act.put, List.setIfInBounds_toArray, List.set_cons_zero, List.set_cons_succ])
            refine wpAnyK_one (i := 11) (by kernel_rfl) rfl (fun K hK => ?_)
            (try simp only [List.getElem_toArray, List.getElem_cons_zero, List.getElem_cons_succ, Act.put, List.setIfInBounds_toArray, List.set_cons_zero, List.set_cons_succ])
            go_simp
            refine HEN.out.mono ?_
            rintro e9 w9 ⟨v2, rfl, o2, b2⟩
            obtain ⟨g, rc, w', hr, o3, b3, hS3⟩ := HAP.out w9 v2 b2 o2
            refine hK.out _ _ (fun _ => HSV.out _ b2) (fun hHeld0 => ?_)
            have hHeld := hHeld0 (by decide)
            clear hHeld0 hK K
            (try simp only [List.getElem_toArray, List.getElem_cons_zero, List.getElem_cons_succ, Act.put, List.setIfInBounds_toArray, List.set_cons_zero, List.set_cons_succ])
            refine wpAnyK_one (i := 12) (by kernel_rfl) rfl (fun K0 hK => ?_)
            simp only [List.getElem_toArray, List.getElem_cons_zero, List.getElem_cons_succ]
            rw [if_pos (by rfl)]
            refine operwp_app16 _ _ _ rfl rfl rfl hr ?_
            refine hK.out _ _ (fun _ => hS3) (fun hHeld0 => ?_)
            have hHeld := hHeld0 (by decide)
            clear hHeld0 hK K0
            simp only [Act.put, List.setIfInBounds_toArray, List.set_cons_zero, List.set_cons_succ]
            refine wpAnyK_one (i := 13) (by kernel_rfl) rfl (fun K0 hK => ?_)
            (try simp only [List.getElem_toArray, List.getElem_cons_zero, List.getElem_cons_succ, Act.put, List.setIfInBounds_toArray, List.set_cons_zero, List.set_cons_succ])
            go_simp
            refine hK.out _ _ (fun _ => hS3) (fun hHeld0 => ?_)
            clear hHeld0 hK K0
            (try simp only [List.getElem_toArray, List.getElem_cons_zero, List.getElem_cons_succ, Act.put, List.setIfInBounds_toArray, List.set_cons_zero, List.set_cons_succ])
            refine wpAnyK_done (by kernel_rfl) ?_ _
            have HO := HFI.out _ _ _ o3
            clear o2 o3 hr hS3 HFI HAP HEN
            have HO : Hid _ := HO
            go_wp2_with fail
            go_roundw
            case rel => exact ⟨i + 1, by omega, by simp, HO.out, HO2.out, b3⟩
            case measure => simp [intOf]; omega
          · have ik := fun V => rin17_f hKK V
            have HQ : Hid (CnQ17 w S (.returned (.tuple #[.slice none 0 0, .int .i64 171])) (wr.alloc (.cells #[.int .i64 A, .int .i64 C, .int .i64 K] 77))) := HNO.out (fun h => by have := HIF.out.1 h; omega) _ HBX.out
            clear HNO HIF HBX HTK HOK own BR hs hA hC hKK hLl
            go_wp2_with fail
            refine (ia _).mono ?_
            rintro e w' ⟨rfl, hw'⟩
            subst w'
            go_wp2_with fail
            refine (ic _).mono ?_
            rintro e w' ⟨rfl, hw'⟩
            subst w'
            go_wp2_with fail
            refine (ik _).mono ?_
            rintro e w' ⟨rfl, hw'⟩
            subst w'
            go_wp2_with fail
            go_ret2
            exact HQ.out
        · have ic := fun V => rin17_f hC V
          have HQ : Hid (CnQ17 w S (.returned (.tuple #[.slice none 0 0, .int .i64 171])) (wr.alloc (.cells #[.int .i64 A, .int .i64 C, .int .i64 K] 77))) := HNO.out (fun h => by have := HIF.out.1 h; omega) _ HBX.out
          clear HNO HIF HBX HTK HOK own BR hs hA hC hLl
          go_wp2_with fail
          refine (ia _).mono ?_
          rintro e w' ⟨rfl, hw'⟩
          subst w'
          go_wp2_with fail
          refine (ic _).mono ?_
          rintro e w' ⟨rfl, hw'⟩
          subst w'
          go_wp2_with fail
          go_ret2
          exact HQ.out
      · have ia := fun V => rin17_f hA V
        have HQ : Hid (CnQ17 w S (.returned (.tuple #[.slice none 0 0, .int .i64 171])) (wr.alloc (.cells #[.int .i64 A, .int .i64 C, .int .i64 K] 77))) := HNO.out (fun h => by have := HIF.out.1 h; omega) _ HBX.out
        clear HNO HIF HBX HTK HOK own BR hs hA hLl
        go_wp2_with fail
        refine (ia _).mono ?_
        rintro e w' ⟨rfl, hw'⟩
        subst w'
        go_wp2_with fail
        go_ret2
        exact HQ.out
    · have hk2 : i = n := by omega
      subst hk2
      have hneg : ¬ (i : Int) < (i : Int) := by omega
      have h2 : S.take i = S := by rw [← hn.out, List.take_length]
      rw [h2] at own hok
      have HOK : Hid (S.all cok17 = true) := List.all_eq_true.2 hok
      obtain ⟨p, cc, hv⟩ := own_sl17 own
      subst hv
      obtain ⟨L, hL⟩ : ∃ L, L = (encA (nm17 S)).length := ⟨_, rfl⟩
      have HQ : Hid (CnQ17 w S (.returned (.tuple #[.slice p L cc, .int .i64 0])) wr) := by
        have h := HOK.out
        refine ⟨_, by unfold ce17; rw [if_pos h], ?_, BR⟩
        unfold cn17
        rw [if_pos h, hL]
        exact own
      rw [← hL]
      clear own h2 hok BR hs hL
      go_wp2_with fail
      go_ret2
      exact HQ.out
end Go.Proofs.Ytodioefbfchckaa

namespace Go.Proofs.Ytodioefbfchckaa
open Go.RowKit Go.Shelf
set_option linter.unusedVariables false
attribute [local go_sem] Oper.semAt_some

/-! Cut. -/
set_option maxRecDepth 100000 in
theorem pcut17_size (win : Int) (sa : Option Addr) (n sc : Nat) (da : Option Addr) (m dc : Nat) (xa : Option Addr) (k xc : Nat) (w : World) (hw : ¬ (64 ≤ win ∧ win ≤ 65536)) :
    Calls Try.prog 9 #[ev16 sa n sc da m dc xa k xc, .int .i64 win] w fun e w' => e = .returned (.tuple #[.slice none 0 0, .int .i64 170]) ∧ Below w.heap.size w w' := by
  have hb := two_boxes16 w #[.slice sa n sc, .slice da m dc, .slice xa k xc] 28 #[.int .i64 win] 3
  have C1 := pisw17 win ((w.alloc (.cells #[.slice sa n sc, .slice da m dc, .slice xa k xc] 28)).alloc (.cells #[.int .i64 win] 3))
  rw [decide_eq_false hw] at C1
  have c1 := one_cell16 hb.2.2.2
  have HB : Hid (Below w.heap.size w ((w.alloc (.cells #[.slice sa n sc, .slice da m dc, .slice xa k xc] 28)).alloc (.cells #[.int .i64 win] 3))) := hb.1
  clear hb
  unfold ev16
  go_enter Try.func9, Try.ntmps9
  go_wp2_with (first | (go_at_call 35; refine C1.mono ?_; rintro e1 w1 ⟨rfl, rfl⟩; clear C1))
  go_ret2
  exact ⟨rfl, HB.out⟩
/-- Up to edit.Check's answer. -/
structure Ch17 (w : World) (sa : Option Addr) (n sc : Nat) (da : Option Addr) (m dc : Nat) (xa : Option Addr) (k xc : Nat) (win : Int) (w2 : World) : Prop where
  bl : Below w.heap.size w w2
  qe : w2.heap[w.heap.size]? = some (.cells #[.slice sa n sc, .slice da m dc, .slice xa k xc] 28 (0, 0))
  qw : w2.heap[w.heap.size + 1]? = some (.cells #[.int .i64 win] 3 (0, 0))
theorem Ch17.next {w : World} {sa : Option Addr} {n sc : Nat} {da : Option Addr} {m dc : Nat} {xa : Option Addr} {k xc : Nat} {win : Int} {w2 w3 : World} (h : Ch17 w sa n sc da m dc xa k xc win w2) (hb : Below w2.heap.size w2 w3) : Ch17 w sa n sc da m dc xa k xc win w3 :=
  ⟨h.bl.trans (hb.mono h.bl.size), (hb.block _ (Array.getElem?_eq_some_iff.1 h.qe).1).trans h.qe, (hb.block _ (Array.getElem?_eq_some_iff.1 h.qw).1).trans h.qw⟩
set_option maxRecDepth 100000 in
set_option maxHeartbeats 8000000 in
theorem pcut17_err (win : Int) {sa : Option Addr} {n sc : Nat} {da : Option Addr} {m dc : Nat} {xa : Option Addr} {k xc : Nat} {S : List St16} {D X : List Int} (w : World) (h : Ed16 w sa n S da m D xa k X) (hw : 64 ≤ win ∧ win ≤ 65536) (he : ck16 16777216 ((m + k : Nat) : Int) S m k ≠ 0) :
    Calls Try.prog 9 #[ev16 sa n sc da m dc xa k xc, .int .i64 win] w fun e w' => e = .returned (.tuple #[.slice none 0 0, .int .i64 (ck16 16777216 ((m + k : Nat) : Int) S m k)]) ∧ Below w.heap.size w w' := by
  have hb := two_boxes16 w #[.slice sa n sc, .slice da m dc, .slice xa k xc] 28 #[.int .i64 win] 3
  obtain ⟨w2, hw2⟩ : ∃ w2, w2 = (w.alloc (.cells #[.slice sa n sc, .slice da m dc, .slice xa k xc] 28)).alloc (.cells #[.int .i64 win] 3) := ⟨_, rfl⟩
  have hc : Ch17 w sa n sc da m dc xa k xc win w2 := by rw [hw2]; exact ⟨hb.1, hb.2.2.1, hb.2.2.2⟩
  have C1 := pisw17 win ((w.alloc (.cells #[.slice sa n sc, .slice da m dc, .slice xa k xc] 28)).alloc (.cells #[.int .i64 win] 3))
  rw [decide_eq_true hw] at C1
  have c1 := one_cell16 hb.2.2.2
  have hlm := h.lm
  have hlk := h.lk
  have HC : Hid (Ch17 w sa n sc da m dc xa k xc win w2) := hc
  have HCL : Hid (∀ W, Calls Try.prog 37 #[ev16 sa n sc da m dc xa k xc] W fun e w' => e = .returned (.int .i64 ((m + k : Nat) : Int)) ∧ Below W.heap.size W w') := fun W => plen17 sa n sc da m dc xa k xc (by omega) (by omega) W
  have HCC : Hid (∀ W, Below w.heap.size w W → Calls Try.prog 36 #[ev16 sa n sc da m dc xa k xc, .int .i64 16777216, .int .i64 ((m + k : Nat) : Int)] W fun e w' => e = .returned (.int .i64 (ck16 16777216 ((m + k : Nat) : Int) S m k)) ∧ Below W.heap.size W w') := fun W hW => pchk16 _ _ (h.old hW)
  have HW2 : Hid ((w.alloc (.cells #[.slice sa n sc, .slice da m dc, .slice xa k xc] 28)).alloc (.cells #[.int .i64 win] 3) = w2) := hw2.symm
  obtain ⟨bE, hbE⟩ : ∃ bE, bE = w.heap.size := ⟨_, rfl⟩
  have HBE : Hid (w.heap.size = bE) := hbE.symm
  have HCE : Hid (∀ W, Below w2.heap.size w2 W → W.cell? ⟨bE, 0, none⟩ = some (.slice sa n sc) ∧ W.cell? ⟨bE, 1, none⟩ = some (.slice da m dc) ∧ W.cell? ⟨bE, 2, none⟩ = some (.slice xa k xc)) := fun W hW => by
    have := (hc.next hW).qe
    rw [← hbE] at this
    exact ⟨three_cell0 this, three_cell1 this, three_cell2 this⟩
  generalize ck16 16777216 ((m + k : Nat) : Int) S m k = er at *
  generalize ((m + k : Nat) : Int) = sz at *
  have hern : (er == 0) = false := by simp; exact he
  clear hb hc h hlm hlk hw2 hbE
  unfold ev16 at *
  go_enter Try.func9, Try.ntmps9
  go_wp2_with (first | (go_at_call 35; refine C1.mono ?_; rintro e1 w1 ⟨rfl, rfl⟩; clear C1))
  rw [HW2.out, HBE.out]
  clear c1
  have g0 := HCE.out w2.drew ((Below.refl _ _).drew)
  refine plain_region16 (fun V => V.cell? ⟨bE, 0, none⟩ = some (.slice sa n sc) ∧ V.cell? ⟨bE, 1, none⟩ = some (.slice da m dc) ∧ V.cell? ⟨bE, 2, none⟩ = some (.slice xa k xc)) 4 (by kernel_rfl) g0 (fun hHeld => ?_)
  refine wpAnyK_take (i := 0) (v := .agg #[.slice sa n sc, .slice da m dc, .slice xa k xc]) rfl (by kernel_rfl) (by kernel_rfl) (by kernel_rfl) (by kernel_rfl) (fun _ _ _ h => h) (Or.inl ⟨by rfl, fun w hSw => by go_simp⟩) hHeld ?_
  simp only [List.getElem_toArray, List.getElem_cons_zero, Act.put, List.setIfInBounds_toArray, List.set_cons_zero, List.set_cons_succ]
  refine wpAnyK_take (i := 1) (v := .agg #[.slice sa n sc, .slice da m dc, .slice xa k xc]) rfl (by kernel_rfl) (by kernel_rfl) (by kernel_rfl) (by kernel_rfl) (fun _ _ _ h => h) (Or.inl ⟨by rfl, fun w hSw => by go_simp⟩) hHeld ?_
  simp only [List.getElem_toArray, List.getElem_cons_zero, List.getElem_cons_succ, Act.put, List.setIfInBounds_toArray, List.set_cons_zero, List.set_cons_succ]
  refine wpAnyK_one (i := 2) (by kernel_rfl) rfl (fun K hK => ?_)
  (try simp only [List.getElem_toArray, List.getElem_cons_zero, List.getElem_cons_succ, Act.put, List.setIfInBounds_toArray, List.set_cons_zero, List.set_cons_succ])
  go_simp
  refine (HCL.out _).mono ?_
  rintro e3 w3 ⟨rfl, b3⟩
  have b3' : Below w2.heap.size w2 w3 := ((Below.refl w2.heap.size w2).drew).trans (b3.mono (Nat.le_refl _))
  refine hK.out _ _ (fun _ => HCE.out w3 b3') (fun hHeld0 => ?_)
  have hHeld := hHeld0 (by decide)
  clear hHeld0 hK K
  (try simp only [List.getElem_toArray, List.getElem_cons_zero, List.getElem_cons_succ, Act.put, List.setIfInBounds_toArray, List.set_cons_zero, List.set_cons_succ])
  refine wpAnyK_one (i := 3) (by kernel_rfl) rfl (fun K hK => ?_)
  (try simp only [List.getElem_toArray, List.getElem_cons_zero, List.getElem_cons_succ, Act.put, List.setIfInBounds_toArray, List.set_cons_zero, List.set_cons_succ])
  go_simp
  refine (HCC.out w3 (HC.out.next b3').bl).mono ?_
  rintro e4 w4 ⟨rfl, b4⟩
  have b4' : Below w2.heap.size w2 w4 := b3'.trans (b4.mono b3'.size)
  refine hK.out _ _ (fun _ => HCE.out w4 b4') (fun hHeld0 => ?_)
  have hHeld := hHeld0 (by decide)
  clear hHeld0 hK K
  (try simp only [List.getElem_toArray, List.getElem_cons_zero, List.getElem_cons_succ, Act.put, List.setIfInBounds_toArray, List.set_cons_zero, List.set_cons_succ])
  refine wpAnyK_one (i := 4) (by kernel_rfl) rfl (fun K hK => ?_)
  (try simp only [List.getElem_toArray, List.getElem_cons_zero, List.getElem_cons_succ, Act.put, List.setIfInBounds_toArray, List.set_cons_zero, List.set_cons_succ])
  go_simp
  refine hK.out _ _ (fun h => absurd rfl h) (fun _ => ?_)
  clear hK K
  refine wpAnyK_done (by kernel_rfl) ?_ _
  go_wp2
  go_ret2
  exact ⟨rfl, (HC.out.next b4').bl⟩
end Go.Proofs.Ytodioefbfchckaa
