import Derived.Test.YtmleicaalaggkaaLnLeast
namespace Go.Proofs.Ytmleicaalaggkaa
open Go.RowKit
set_option linter.unusedVariables false

theorem mem_le_sum {l : List Nat} {x : Nat} (h : x ∈ l) : x ≤ l.sum := by
  induction l with
  | nil => simp at h
  | cons y r ih =>
    rw [List.sum_cons]
    rcases List.mem_cons.1 h with rfl | h
    · omega
    · have := ih h; omega
/-- The first k but for two. -/
def restL (L : List Int) (A B k : Nat) : List Int := ((List.range k).filter fun i => decide (i ≠ A) && decide (i ≠ B)).map (L.getD · 0)
theorem rest_snoc (L : List Int) (A B k : Nat) : restL L A B (k + 1) = restL L A B k ++ (if k = A ∨ k = B then [] else [L.getD k 0]) := by
  unfold restL
  rw [List.range_succ, List.filter_append, List.map_append]
  congr 1
  by_cases h1 : k = A
  · simp [h1]
  · by_cases h2 : k = B
    · simp [h2]
    · rw [if_neg (by rintro (e | e); exact h1 e; exact h2 e)]
      simp [h1, h2]
theorem take_out {l : List Nat} (hd : l.Nodup) {a : Nat} (h : a ∈ l) : l.Perm (a :: l.filter fun i => decide (i ≠ a)) := by
  induction l with
  | nil => simp at h
  | cons x r ih =>
    obtain ⟨h1, h2⟩ := List.nodup_cons.1 hd
    by_cases e : x = a
    · subst e
      have : r.filter (fun i => decide (i ≠ x)) = r := by
        rw [List.filter_eq_self]
        intro i hi
        apply decide_eq_true
        rintro rfl
        exact h1 hi
      rw [List.filter_cons, if_neg (by simp), this]
    · have hr : a ∈ r := by
        rcases List.mem_cons.1 h with e2 | e2
        · exact absurd e2.symm e
        · exact e2
      rw [List.filter_cons, if_pos (by simpa using e)]
      exact ((ih h2 hr).cons x).trans (List.Perm.swap a x _)
theorem range_map (L : List Int) : (List.range L.length).map (L.getD · 0) = L := by
  apply List.ext_getElem
  · simp
  · intro i h1 h2
    simp [List.getD, h2]
theorem rest_perm (L : List Int) (A B : Nat) (hA : A < L.length) (hB : B < L.length) (hne : A ≠ B) : (L.getD A 0 :: L.getD B 0 :: restL L A B L.length).Perm L := by
  have h1 := take_out List.nodup_range (List.mem_range.2 hA)
  have h2 := take_out (l := (List.range L.length).filter fun i => decide (i ≠ A)) (List.nodup_range.filter _) (a := B) (List.mem_filter.2 ⟨List.mem_range.2 hB, by simpa using Ne.symm hne⟩)
  rw [List.filter_filter] at h2
  have h3 := ((h1.trans (h2.cons A)).map (L.getD · 0)).symm
  rw [range_map] at h3
  simp only [List.map_cons] at h3
  refine List.Perm.trans ?_ h3
  unfold restL
  have e : ((List.range L.length).filter fun i => decide (i ≠ A) && decide (i ≠ B)) = ((List.range L.length).filter fun i => decide (i ≠ B) && decide (i ≠ A)) := by
    apply List.filter_congr
    intro i _
    rw [Bool.and_comm]
  rw [e]
/-- The two least of the first k. -/
def two (L : List Int) (k : Nat) (a b : Int) : Prop :=
  (k = 0 ∧ a = -1 ∧ b = -1) ∨ (k = 1 ∧ a = 0 ∧ b = -1) ∨ (2 ≤ k ∧ ∃ A B : Nat, a = A ∧ b = B ∧ A < k ∧ B < k ∧ A ≠ B ∧ L.getD A 0 ≤ L.getD B 0 ∧ ∀ c, c < k → c ≠ A → c ≠ B → L.getD B 0 ≤ L.getD c 0)
theorem two_least {L : List Int} {A B : Nat} (hA : A < L.length) (hB : B < L.length) (h1 : L.getD A 0 ≤ L.getD B 0) (h2 : ∀ c, c < L.length → c ≠ A → c ≠ B → L.getD B 0 ≤ L.getD c 0) : (∀ z ∈ L, L.getD A 0 ≤ z) ∧ ∀ z ∈ L.getD B 0 :: restL L A B L.length, L.getD B 0 ≤ z := by
  constructor
  · intro z hz
    obtain ⟨i, hi, rfl⟩ := List.mem_iff_getElem.1 hz
    have e : L[i] = L.getD i 0 := by simp [List.getD, hi]
    rw [e]
    by_cases e1 : i = A
    · rw [e1]; exact Int.le_refl _
    · by_cases e2 : i = B
      · rw [e2]; exact h1
      · exact Int.le_trans h1 (h2 i hi e1 e2)
  · intro z hz
    rcases List.mem_cons.1 hz with rfl | hz
    · exact Int.le_refl _
    · unfold restL at hz
      obtain ⟨i, hi, rfl⟩ := List.mem_map.1 hz
      obtain ⟨hi1, hi2⟩ := List.mem_filter.1 hi
      simp at hi1 hi2
      exact h2 i hi1 hi2.1 hi2.2

theorem two_one {L : List Int} : (L.getD 1 0 < L.getD 0 0 → two L 2 (1 : Nat) (0 : Nat)) ∧ (¬ L.getD 1 0 < L.getD 0 0 → two L 2 (0 : Nat) (1 : Nat)) :=
  ⟨fun h => .inr (.inr ⟨by omega, 1, 0, rfl, rfl, by omega, by omega, by omega, by omega, fun c hc h1 h2 => by omega⟩), fun h => .inr (.inr ⟨by omega, 0, 1, rfl, rfl, by omega, by omega, by omega, by omega, fun c hc h1 h2 => by omega⟩)⟩
theorem two_step {L : List Int} {i A B : Nat} (hi : 2 ≤ i) (hA : A < i) (hB : B < i) (hAB : A ≠ B) (t1 : L.getD A 0 ≤ L.getD B 0) (t2 : ∀ c, c < i → c ≠ A → c ≠ B → L.getD B 0 ≤ L.getD c 0) :
    (L.getD i 0 < L.getD A 0 → two L (i + 1) i A) ∧ (¬ L.getD i 0 < L.getD A 0 → L.getD i 0 < L.getD B 0 → two L (i + 1) A i) ∧ (¬ L.getD i 0 < L.getD A 0 → ¬ L.getD i 0 < L.getD B 0 → two L (i + 1) A B) := by
  refine ⟨fun h => .inr (.inr ⟨by omega, i, A, rfl, rfl, by omega, by omega, by omega, by omega, fun c hc h1 h2 => ?_⟩), fun h h' => .inr (.inr ⟨by omega, A, i, rfl, rfl, by omega, by omega, by omega, by omega, fun c hc h1 h2 => ?_⟩), fun h h' => .inr (.inr ⟨by omega, A, B, rfl, rfl, by omega, by omega, hAB, t1, fun c hc h1 h2 => ?_⟩)⟩
  · by_cases e : c = B
    · rw [e]; exact t1
    · have := t2 c (by omega) h2 e; omega
  · by_cases e : c = B
    · rw [e]; omega
    · have := t2 c (by omega) h1 e; omega
  · by_cases e : c = i
    · rw [e]; omega
    · exact t2 c (by omega) h1 h2

set_option maxHeartbeats 4000000 in
set_option maxRecDepth 100000 in
theorem rleast_any (a : Option Addr) (zs : List Int) (n cap : Nat) (hn : Hid (zs.length = n)) (w : World) (hs : SegZ w a zs) (hl : n ≤ 9223372036854775807) :
    Calls Try.prog 18 #[.slice a n cap] w fun e w' => e = .returned (.tuple #[.int .i64 (leastOf zs), .int .i64 (errOf zs)]) ∧ Below w.heap.size w w' := by
  by_cases he : errOf zs = 0
  · obtain ⟨h288, hbx⟩ := errOf_zero he
    obtain ⟨hf1, hf2, hf3, hf4⟩ := wts_facts he
    have hn288 : n ≤ 288 := by have := hn.out; omega
    have HR : Hid (leastOf zs = leastV zs ∧ errOf zs = 0) := ⟨by simp [leastOf, he], he⟩
    have HC : Hid (∀ W, SegZ W a zs → Calls Try.prog 28 #[.slice a n cap] W fun e w' => e = .returned (.int .i64 0) ∧ Below W.heap.size W w') := fun W hW => by
      have := wrong_any a zs cap W hW (by have := hn.out; omega)
      rw [he, hn.out] at this
      exact this
    clear he h288
    obtain ⟨i0, hi, hz0, hz1, hz2⟩ := info_parts info_int
    go_enter Try.func18, Try.ntmps18
    go_wp2_with fail
    refine (HC.out _ hs).mono ?_
    rintro e w1 ⟨rfl, b1⟩
    go_wp2_with fail
    go_loopw [5, 6] (fun tl ti wr => ∃ (k : Nat) (a1 : Option Addr) (c1 : Nat) (L : List Int), k ≤ n ∧ ti = .int .i64 k ∧ tl = .slice a1 L.length c1 ∧ L.length ≤ k ∧ wr.ownsRow w.heap.size 3 1 (.slice a1 L.length c1) L.length (L.map (Value.int .i64)) ∧ Below w.heap.size w wr ∧ Hid (L = usedZ (zs.take k))) (fun _ ti _ => n - (intOf ti).toNat)
    case atStart => exact ⟨0, none, 0, [], Nat.zero_le _, rfl, rfl, Nat.le_refl _, World.ownsRow_nil _ _ _ _, b1, (by simp [usedZ] : _ = _)⟩
    case round =>
      obtain ⟨k, a1, c1, L, hk, rfl, rfl, hLk, OR, BR, HL⟩ := hrel
      have hs := hs.old BR
      by_cases h1 : k < n
      · have h1i : (k : Int) < (n : Int) := by omega
        obtain ⟨b1, o1, rfl, c2⟩ := hs.at_ k (by have := hn.out; omega)
        have d1 := hbx k
        have HU : Hid (usedZ (zs.take (k + 1)) = usedZ (zs.take k) ++ (if zs.getD k 0 = 0 then [] else [zs.getD k 0])) := used_snoc (by have := hn.out; omega)
        generalize zs.getD k 0 = z at *
        by_cases hz : z = 0
        · subst hz
          go_wp2
          go_roundw
          case rel => exact ⟨k + 1, a1, c1, L, by omega, by go_num, rfl, by omega, OR, BR, (by show _ = _; rw [HU.out, HL.out]; simp)⟩
          case measure => simp [intOf]; omega
        · have hzi : 0 < z := by omega
          have hbs := BR.size
          go_wp2_with (at_builtin; refine wpList_app1 rfl (.tmp 30) (.tmp 35) 22 rfl w.heap.size 3 i0 (.int .i64 0) 8 Try.underlying22 hi hz0 hz1 hz2 rfl _ (.int .i64 z) rfl OR rfl rfl (by omega) (by omega) hbs ?_; intro gg cap2 w2 hown2 hg2 hf2)
          have B2 := below_own OR hg2 hbs
          have e1 : (L ++ [z]).length = L.length + 1 := by simp
          have OR2 : w2.ownsRow w.heap.size 3 1 (.slice (some ⟨gg, 0, none⟩) (L ++ [z]).length cap2) (L ++ [z]).length ((L ++ [z]).map (Value.int .i64)) := by rw [e1, List.map_append]; exact hown2
          go_roundw
          case rel => exact ⟨k + 1, some ⟨gg, 0, none⟩, cap2, L ++ [z], by omega, by go_num, by rw [e1], by omega, OR2, BR.trans B2, (by show _ = _; rw [HU.out, HL.out, if_neg hz])⟩
          case measure => simp [intOf]; omega
      · obtain rfl : k = n := by omega
        have HL2 : Hid (L = usedZ zs) := by
          show _ = _
          rw [HL.out, List.take_of_length_le (by have := hn.out; omega)]
        clear h1 HL
        have hLb : ∀ z ∈ L, 0 < z ∧ z ≤ 1099511627776 := by rw [HL2.out]; exact used_bd hbx
        by_cases hl1 : L.length = 1
        · obtain ⟨b1, o1, rfl, c2⟩ := (own_segZ OR (fun z hz => by have := hLb z hz; omega)).at_ 0 (by omega)
          have HV : Hid (leastV zs = L.getD 0 0) := by
            have e := HL2.out
            show _ = _
            unfold leastV
            rw [← e, if_pos hl1]
          have c3 : wr.cell? ⟨b1, o1, none⟩ = some (.int .i64 (L.getD 0 0)) := by simpa using c2
          rw [hl1]
          clear c2 hl1 OR hLb
          generalize L.getD 0 0 = z at *
          go_wp2
          go_ret2
          exact ⟨by rw [HR.out.1, HR.out.2, HV.out] <;> rfl, BR⟩
        · have hl1i : ¬ (L.length : Int) = 1 := by omega
          obtain ⟨T, hT⟩ : ∃ T, T = huf L.length (wts zs) := ⟨_, rfl⟩
          obtain ⟨S, hS'⟩ : ∃ S, S = (wts zs).sum := ⟨_, rfl⟩
          have hTb : T ≤ 337769972052787200 := by
            have := huf_le L.length (wts zs)
            rw [← hT] at this
            exact Nat.le_trans this (Nat.mul_le_mul (show L.length ≤ 300 by omega) hf4)
          rw [← hS'] at hf4
          have HV : Hid (leastV zs = (T : Int)) := by
            have e := HL2.out
            show _ = _
            unfold leastV
            rw [hT, ← e, if_neg hl1]
          have HV0 : Hid (L.Perm (toI (wts zs)) ∧ (wts zs).Pairwise (· ≤ ·) ∧ (∀ x ∈ wts zs, 0 < x) ∧ (wts zs).length = L.length ∧ (wts zs).sum = S ∧ 0 + huf L.length (wts zs) = T) := by
            have h1 := hf1
            rw [← HL2.out] at h1
            exact ⟨h1, hf2, hf3, by have := h1.length_eq; simp [toI] at this; omega, hS'.symm, by omega⟩
          obtain ⟨N, hN⟩ : ∃ N, N = L.length := ⟨_, rfl⟩
          have hN288 : N ≤ 288 := by omega
          have HNL : Hid (L.length = N) := hN.symm
          rw [← hN] at OR hl1i ⊢
          have hNb : ((N : Int) == 1) = false := by simpa using hl1i
          clear hT hS' hf1 hf2 hf3 HL2 hl1 hLk hN hLb
          go_wp2_with fail
          go_loopw [5, 7] (fun tl tt wr => ∃ (K tot : Nat) (a1 : Option Addr) (c1 : Nat) (L : List Int) (V : List Nat), K ≤ N ∧ tl = .slice a1 K c1 ∧ tt = .int .i64 (tot : Int) ∧ Hid (L.length = K) ∧ wr.ownsRow w.heap.size 3 1 (.slice a1 K c1) K (L.map (Value.int .i64)) ∧ Below w.heap.size w wr ∧ Hid (L.Perm (toI V) ∧ V.Pairwise (· ≤ ·) ∧ (∀ x ∈ V, 0 < x) ∧ V.length = K ∧ V.sum = S ∧ tot + huf K V = T)) (fun _ tt _ => T - (intOf tt).toNat)
          case atStart => exact ⟨N, 0, a1, c1, L, wts zs, Nat.le_refl _, rfl, rfl, HNL, OR, BR, (by have := HV0.out; rw [HNL.out] at this; exact this : _ ∧ _)⟩
          case round =>
            clear OR BR hs
            obtain ⟨K, tot, a2, c2, M, V, hKN, rfl, rfl, LM, OM, BM, HM⟩ := hrel
            have HMb : Hid (∀ z ∈ M, 0 ≤ z ∧ z ≤ 1125899906842624) := by
              intro z hz
              obtain ⟨m1, _, _, _, m5, _⟩ := HM.out
              obtain ⟨q, hq, rfl⟩ := toI_mem (m1.mem_iff.1 hz)
              have := mem_le_sum hq
              omega
            have SM : SegZ wr a2 M := by
              have := OM
              rw [← LM.out] at this
              exact own_segZ this (fun z hz => by have := HMb.out z hz; omega)
            by_cases hK : 2 ≤ K
            · have hKi : (1 : Int) < (K : Int) := by omega
              obtain ⟨w0, hw0⟩ : ∃ w0, w0 = wr := ⟨_, rfl⟩
              have HW0 : Hid (w0 = wr) := hw0
              clear hw0
              go_wp2_with fail
              go_loopw [8, 9, 10] (fun ta tb ti w2 => ∃ (i : Nat) (A B : Int), i ≤ K ∧ ti = .int .i64 (i : Int) ∧ ta = .int .i64 A ∧ tb = .int .i64 B ∧ Hid (two M i A B) ∧ Below w0.heap.size w0 w2) (fun _ _ ti _ => K - (intOf ti).toNat)
              case atStart => exact ⟨0, -1, -1, Nat.zero_le _, rfl, rfl, rfl, (.inl ⟨rfl, rfl, rfl⟩ : _ ∨ _), by rw [HW0.out]; exact Below.refl _ _⟩
              case round =>
                obtain ⟨i, A, B, hi, rfl, rfl, rfl, HT2, B2⟩ := hrel
                have S2 := SM.old (HW0.out ▸ B2)
                by_cases hiK : i < K
                · have hiKi : (i : Int) < (K : Int) := by omega
                  obtain ⟨b1, o1, rfl, ci⟩ := S2.at_ i (by have := LM.out; omega)
                  have di := S2.bd i
                  rcases HT2.out with ⟨rfl, rfl, rfl⟩ | ⟨rfl, rfl, rfl⟩ | ⟨hi2, A, B, rfl, rfl, hA, hB, hAB, t1, t2⟩
                  · clear HT2
                    go_wp2_with fail
                    go_quiet (fail)
                    have B3 : Below w0.heap.size w0 (wr.drewN nq) := ⟨B2.os, B2.tape, B2.output, B2.size, B2.block⟩
                    go_wp2
                    go_roundw
                    case rel => exact ⟨1, 0, -1, by omega, by go_num, rfl, rfl, (.inr (.inl ⟨rfl, rfl, rfl⟩) : _ ∨ _), B3⟩
                    case measure => simp [intOf]; omega
                  · obtain ⟨b2, o2, e2, c0⟩ := S2.at_ 0 (by have := LM.out; omega)
                    cases e2
                    have HN : Hid ((M.getD 1 0 < M.getD 0 0 → two M 2 (1 : Nat) (0 : Nat)) ∧ (¬ M.getD 1 0 < M.getD 0 0 → two M 2 (0 : Nat) (1 : Nat))) := two_one
                    have d0 := S2.bd 0
                    clear HT2
                    generalize M.getD 1 0 = zi at *
                    generalize M.getD 0 0 = za at *
                    have hK0 : (0 : Int) < (K : Int) := by omega
                    have c0x : wr.cell? ⟨b1, o1, none⟩ = some (.int .i64 za) := by simpa using c0
                    clear c0
                    by_cases q1 : zi < za
                    · go_wp2_with fail
                      go_quiet (fail)
                      have B3 : Below w0.heap.size w0 (wr.drewN nq) := ⟨B2.os, B2.tape, B2.output, B2.size, B2.block⟩
                      go_wp2
                      go_roundw
                      case rel => exact ⟨2, 1, 0, by omega, by go_num, rfl, rfl, HN.out.1 q1, B3⟩
                      case measure => simp [intOf]; omega
                    · go_wp2_with fail
                      go_quiet (fail)
                      have B3 : Below w0.heap.size w0 (wr.drewN nq) := ⟨B2.os, B2.tape, B2.output, B2.size, B2.block⟩
                      generalize wr.drewN nq = w3 at *
                      go_wp2_with fail
                      go_quiet (fail)
                      have B4 : Below w0.heap.size w0 (w3.drewN nq) := ⟨B3.os, B3.tape, B3.output, B3.size, B3.block⟩
                      go_wp2
                      go_roundw
                      case rel => exact ⟨2, 0, 1, by omega, by go_num, rfl, rfl, HN.out.2 q1, B4⟩
                      case measure => simp [intOf]; omega
                  · obtain ⟨b2, o2, e2, cA⟩ := S2.at_ A (by have := LM.out; omega)
                    cases e2
                    obtain ⟨b3, o3, e3, cB⟩ := S2.at_ B (by have := LM.out; omega)
                    cases e3
                    have hA0 : decide ((A : Int) < 0) = false := decide_eq_false (by omega)
                    have hB0 : decide ((B : Int) < 0) = false := decide_eq_false (by omega)
                    have hA1 : (0 : Int) ≤ (A : Int) := by omega
                    have hB1 : (0 : Int) ≤ (B : Int) := by omega
                    have hAK : (A : Int) < (K : Int) := by omega
                    have hBK : (B : Int) < (K : Int) := by omega
                    have HN : Hid ((M.getD i 0 < M.getD A 0 → two M (i + 1) i A) ∧ (¬ M.getD i 0 < M.getD A 0 → M.getD i 0 < M.getD B 0 → two M (i + 1) A i) ∧ (¬ M.getD i 0 < M.getD A 0 → ¬ M.getD i 0 < M.getD B 0 → two M (i + 1) A B)) := two_step hi2 hA hB hAB t1 t2
                    have HR1 : Hid (∀ q, SegZ (wr.drewN q) (some ⟨b1, o1, none⟩) M) := fun q => S2.drewN q
                    clear HT2 t1 t2
                    generalize M.getD i 0 = zi at *
                    generalize M.getD A 0 = za at *
                    generalize M.getD B 0 = zb at *
                    by_cases q1 : zi < za
                    · go_wp2_with fail
                      go_quiet (fail)
                      have B3 : Below w0.heap.size w0 (wr.drewN nq) := ⟨B2.os, B2.tape, B2.output, B2.size, B2.block⟩
                      go_wp2
                      go_roundw
                      case rel => exact ⟨i + 1, i, A, by omega, by go_num, rfl, rfl, HN.out.1 q1, B3⟩
                      case measure => simp [intOf]; omega
                    · go_wp2_with fail
                      go_quiet (fail)
                      have B3 : Below w0.heap.size w0 (wr.drewN nq) := ⟨B2.os, B2.tape, B2.output, B2.size, B2.block⟩
                      have ci3 : (wr.drewN nq).cell? ⟨b1, o1 + i, none⟩ = some (.int .i64 zi) := ci
                      have cB3 : (wr.drewN nq).cell? ⟨b1, o1 + B, none⟩ = some (.int .i64 zb) := cB
                      generalize wr.drewN nq = w3 at *
                      by_cases q2 : zi < zb
                      · go_wp2_with fail
                        go_quiet (fail)
                        have B4 : Below w0.heap.size w0 (w3.drewN nq) := ⟨B3.os, B3.tape, B3.output, B3.size, B3.block⟩
                        go_wp2
                        go_roundw
                        case rel => exact ⟨i + 1, A, i, by omega, by go_num, rfl, rfl, HN.out.2.1 q1 q2, B4⟩
                        case measure => simp [intOf]; omega
                      · go_wp2_with fail
                        go_quiet (fail)
                        have B4 : Below w0.heap.size w0 (w3.drewN nq) := ⟨B3.os, B3.tape, B3.output, B3.size, B3.block⟩
                        go_wp2
                        go_roundw
                        case rel => exact ⟨i + 1, A, B, by omega, by go_num, rfl, rfl, HN.out.2.2 q1 q2, B4⟩
                        case measure => simp [intOf]; omega
                · obtain rfl : i = K := by omega
                  rcases HT2.out with ⟨rfl, rfl, rfl⟩ | ⟨rfl, rfl, rfl⟩ | ⟨hi2, A, B, rfl, rfl, hA, hB, hAB, t1, t2⟩
                  · omega
                  · omega
                  · obtain ⟨b1, o1, rfl, cA⟩ := S2.at_ A (by have := LM.out; omega)
                    obtain ⟨b2, o2, e2, cB⟩ := S2.at_ B (by have := LM.out; omega)
                    cases e2
                    obtain ⟨x, y, r, rfl⟩ : ∃ x y r, V = x :: y :: r := by
                      have := HM.out.2.2.2.1
                      match V, this with
                      | [], h => simp at h; omega
                      | [x], h => simp at h; omega
                      | x :: y :: r, _ => exact ⟨x, y, r, rfl⟩
                    obtain ⟨l1, l2⟩ := two_least (L := M) (A := A) (B := B) (by have := LM.out; omega) (by have := LM.out; omega) t1 (by have := LM.out; rw [this]; exact t2)
                    have rp := rest_perm M A B (by have := LM.out; omega) (by have := LM.out; omega) hAB
                    rw [LM.out] at l2 rp
                    obtain ⟨ex, q1⟩ := pop_min HM.out.1 HM.out.2.1 rp l1
                    obtain ⟨ey, q2⟩ := pop_min q1 (List.pairwise_cons.1 HM.out.2.1).2 (List.Perm.refl _) l2
                    rw [ex] at cA
                    rw [ey] at cB
                    obtain ⟨k2, hk2⟩ : ∃ k2, i = k2 + 2 := ⟨i - 2, by omega⟩
                    have HQ2 : Hid ((restL M A B i).Perm (toI r)) := q2
                    have hxy : x + y ≤ S ∧ 0 < x ∧ tot + x + y + huf (k2 + 1) (ins (x + y) r) = T := by
                      obtain ⟨_, _, v2, _, v4, v5⟩ := HM.out
                      have := v2 x (by simp)
                      simp only [List.sum_cons] at v4
                      rw [hk2] at v5
                      simp only [huf] at v5
                      exact ⟨by omega, this, by omega⟩
                    have HV2 : Hid ((ins (x + y) r).Pairwise (· ≤ ·) ∧ (∀ z ∈ ins (x + y) r, 0 < z) ∧ (ins (x + y) r).length = k2 + 1 ∧ (ins (x + y) r).sum = S ∧ (tot + x + y) + huf (k2 + 1) (ins (x + y) r) = T) := by
                      obtain ⟨_, v1, v2, v3, v4, v5⟩ := HM.out
                      have p1 := List.pairwise_cons.1 v1
                      have p2 := List.pairwise_cons.1 p1.2
                      refine ⟨ins_sorted _ _ p2.2, ?_, by rw [ins_len]; simp at v3; omega, by rw [(ins_perm (x + y) r).sum_nat, List.sum_cons]; simp only [List.sum_cons] at v4; omega, hxy.2.2⟩
                      intro z hz
                      rcases List.mem_cons.1 ((ins_perm (x + y) r).mem_iff.1 hz) with rfl | hz
                      · omega
                      · exact v2 z (by simp [hz])
                    have HI : Hid ((toI (ins (x + y) r)).Perm (((x + y : Nat) : Int) :: toI r)) := (ins_perm (x + y) r).map _
                    obtain ⟨s, hs⟩ : ∃ s, s = x + y := ⟨_, rfl⟩
                    have es : (x : Int) + (y : Int) = (s : Int) := by omega
                    have HS : Hid (s = x + y) := hs
                    obtain ⟨hxyS, hx0, hxyT⟩ := hxy
                    have hsS : s ≤ S := by omega
                    have hsT : tot + s ≤ T := by omega
                    have hs0 : 0 < s := by omega
                    have hb4 : (tot : Int) + (s : Int) ≤ 9223372036854775807 := by omega
                    have hA1 : (0 : Int) ≤ (A : Int) := by omega
                    have hB1 : (0 : Int) ≤ (B : Int) := by omega
                    have hAK : (A : Int) < (i : Int) := by omega
                    have hBK : (B : Int) < (i : Int) := by omega
                    have HMS : Hid (∀ z ∈ M, -9223372036854775808 ≤ z ∧ z ≤ 9223372036854775807) := fun z hz => by have := HMb.out z hz; omega
                    have HRL : Hid (∀ j, (restL M A B j).length ≤ j) := fun j => by
                      unfold restL
                      rw [List.length_map]
                      have := List.length_filter_le (fun i => decide (i ≠ A) && decide (i ≠ B)) (List.range j)
                      simpa using this
                    clear hs hxyS hx0 hxyT t1 t2 l1 l2 rp q1 q2 ex ey HT2
                    have HK2 : Hid (i = k2 + 2) := hk2
                    have hiK2 : ¬ (i : Int) < (i : Int) := by omega
                    clear hk2
                    go_wp2_with fail
                    go_quiet (fail)
                    have B3 : Below w0.heap.size w0 (wr.drewN nq) := ⟨B2.os, B2.tape, B2.output, B2.size, B2.block⟩
                    have BM3 : Below w.heap.size w (wr.drewN nq) := BM.trans ((HW0.out ▸ B3).mono BM.size)
                    have S3 : SegZ (wr.drewN nq) (some ⟨b1, o1, none⟩) M := S2.drewN nq
                    clear B2 S2 SM cA cB
                    generalize wr.drewN nq = w3 at *
                    clear B3 BM HW0 OM
                    go_wp2_with fail
                    go_loopw [12, 13] (fun tr ti w4 => ∃ (j : Nat) (a4 : Option Addr) (c4 : Nat) (R : List Int), j ≤ i ∧ ti = .int .i64 (j : Int) ∧ tr = .slice a4 R.length c4 ∧ R.length ≤ j ∧ w4.ownsRow w3.heap.size 3 1 (.slice a4 R.length c4) R.length (R.map (Value.int .i64)) ∧ Below w3.heap.size w3 w4 ∧ Hid (R = restL M A B j)) (fun _ ti _ => i - (intOf ti).toNat)
                    case atStart => exact ⟨0, none, 0, [], Nat.zero_le _, rfl, rfl, Nat.le_refl _, World.ownsRow_nil _ _ _ _, Below.refl _ _, (rfl : _ = _)⟩
                    case round =>
                      obtain ⟨j, a4, c4, R, hj, rfl, rfl, hRj, OR, BR, HRR⟩ := hrel
                      have S4 := S3.old BR
                      by_cases hji : j < i
                      · have hjii : (j : Int) < (i : Int) := by omega
                        have HRS : Hid _ := rest_snoc M A B j
                        by_cases hjA : j = A
                        · subst hjA
                          have HR2 : Hid (R = restL M j B (j + 1)) := by show _ = _; rw [HRS.out, HRR.out]; simp
                          go_wp2
                          go_roundw
                          case rel => exact ⟨j + 1, a4, c4, R, by omega, by go_num, rfl, by omega, OR, BR, HR2.out⟩
                          case measure => simp [intOf]; omega
                        · by_cases hjB : j = B
                          · subst hjB
                            have hjAi : ¬ (j : Int) = (A : Int) := by omega
                            have HR2 : Hid (R = restL M A j (j + 1)) := by show _ = _; rw [HRS.out, HRR.out]; simp
                            go_wp2
                            go_roundw
                            case rel => exact ⟨j + 1, a4, c4, R, by omega, by go_num, rfl, by omega, OR, BR, HR2.out⟩
                            case measure => simp [intOf]; omega
                          · have hjAi : ¬ (j : Int) = (A : Int) := by omega
                            have hjBi : ¬ (j : Int) = (B : Int) := by omega
                            have hjA2 : ((j : Int) != (A : Int)) = true := by simpa using hjAi
                            have hjB2 : ((j : Int) != (B : Int)) = true := by simpa using hjBi
                            obtain ⟨b5, o5, e5, cj⟩ := S4.at_ j (by have := LM.out; omega)
                            cases e5
                            have HR2 : Hid (restL M A B (j + 1) = R ++ [M.getD j 0]) := by
                              show _ = _
                              rw [HRS.out, HRR.out, if_neg (by rintro (e | e); exact hjA e; exact hjB e)]
                            have dj := S4.bd j
                            generalize M.getD j 0 = zj at *
                            have hbs := BR.size
                            go_wp2_with (at_builtin; refine wpList_app1 rfl (.tmp 107) (.tmp 112) 22 rfl w3.heap.size 3 i0 (.int .i64 0) 8 Try.underlying22 (by assumption) hz0 hz1 hz2 rfl _ (.int .i64 zj) rfl OR rfl rfl (by omega) (by omega) hbs ?_; intro gg cap2 w5 hown2 hg2 hf2)
                            have B5 := below_own OR hg2 hbs
                            have e1 : (R ++ [zj]).length = R.length + 1 := by simp
                            have OR2 : w5.ownsRow w3.heap.size 3 1 (.slice (some ⟨gg, 0, none⟩) (R ++ [zj]).length cap2) (R ++ [zj]).length ((R ++ [zj]).map (Value.int .i64)) := by rw [e1, List.map_append]; exact hown2
                            go_roundw
                            case rel => exact ⟨j + 1, some ⟨gg, 0, none⟩, cap2, R ++ [zj], by omega, by go_num, by rw [e1], by omega, OR2, BR.trans B5, (HR2.out.symm : _ = _)⟩
                            case measure => simp [intOf]; omega
                      · obtain rfl : j = i := by omega
                        have HPM : Hid ((R ++ [(s : Int)]).Perm (toI (ins (x + y) r))) := by
                          have e1 := HS.out
                          have h1 := HI.out
                          have h2 := HQ2.out
                          rw [← HRR.out] at h2
                          rw [← e1] at h1 ⊢
                          exact (List.perm_append_comm).trans ((h2.cons _).trans h1.symm)
                        have HRK : Hid (R.length + 1 = k2 + 1) := by
                          have := HPM.out.length_eq
                          rw [toI, List.length_map, HV2.out.2.2.1] at this
                          have h9 : R.length + 1 = k2 + 1 := by simpa using this
                          exact h9
                        have hbs := BR.size
                        have hR288 : R.length ≤ 288 := by omega
                        clear hi hiK hiK2 hji hj hRj S4
                        go_wp2_with (at_builtin; refine wpList_app1 rfl (.tmp 114) (.tmp 116) 22 rfl w3.heap.size 3 i0 (.int .i64 0) 8 Try.underlying22 (by assumption) hz0 hz1 hz2 rfl _ (.int .i64 (s : Int)) rfl OR rfl rfl (by omega) (by omega) hbs ?_; intro gg cap2 w5 hown2 hg2 hf2)
                        have B5 := below_own OR hg2 hbs
                        have OR2 := own_base hown2 BM3.size
                        have BF : Below w.heap.size w w5 := BM3.trans ((BR.trans B5).mono BM3.size)
                        clear OR hown2 hg2 hf2 hR288
                        go_roundw
                        case rel => exact ⟨R.length + 1, tot + s, some ⟨gg, 0, none⟩, cap2, R ++ [(s : Int)], ins (x + y) r, by have := HRK.out; have := HK2.out; omega, rfl, by go_num, (by show _ = _; simp), by rw [List.map_append]; exact OR2, BF, (by have h := HV2.out; have e := HS.out; have h6 := HRK.out; rw [h6]; exact ⟨HPM.out, h.1, h.2.1, h.2.2.1, h.2.2.2.1, by have := h.2.2.2.2; omega⟩ : _ ∧ _)⟩
                        case measure => simp [intOf]; omega
            · have hKi : ¬ (1 : Int) < (K : Int) := by omega
              go_wp2
              go_ret2
              refine ⟨?_, BM⟩
              have h0 : huf K V = 0 := by
                have h3 := HM.out.2.2.2.1
                match V, h3 with
                | [], h => cases K <;> rfl
                | [x], h => cases K <;> rfl
                | x :: y :: r, h => simp at h; omega
              have h5 := HM.out.2.2.2.2.2
              have : tot = T := by omega
              rw [HR.out.1, HR.out.2, HV.out, this]
              rfl
  · have HE : Hid (leastOf zs = 0) := by show _ = _; simp [leastOf, he]
    have HC := wrong_any a zs cap w hs (by have := hn.out; omega)
    rw [hn.out] at HC
    generalize errOf zs = E at *
    go_enter Try.func18, Try.ntmps18
    go_wp2_with fail
    refine HC.mono ?_
    rintro e w' ⟨rfl, b1⟩
    go_wp2
    go_ret2
    exact ⟨by rw [HE.out] <;> rfl, b1⟩
end Go.Proofs.Ytmleicaalaggkaa
