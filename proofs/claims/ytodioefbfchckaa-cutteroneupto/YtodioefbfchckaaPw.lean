import Derived.Test.YtodioefbfchckaaPm
import Derived.Test.YtodioefbfchckaaPv
import Derived.Test.YtodioefbfchckaaPr
namespace Go.Proofs.Ytodioefbfchckaa
open Go.RowKit Go.Shelf
set_option linter.unusedVariables false

/-! CutterOne: bytes that are steps are the only ones of these; steps come back; how long a control is. -/
theorem nx17_enc {j : Nat} {b : List Int} (hz : ∀ z ∈ b, 0 ≤ z ∧ z ≤ 255) (h : (nx17 j b).1 = 0) : encI (nx17 j b).2.1 ++ b.drop (nx17 j b).2.2 = b := by
  obtain ⟨e1, e2, e3, e4, e5, e6, e7, e8⟩ := nx17_fact (fun z h => (hz z h).1) h
  obtain ⟨m, m1, m2, m3, m4, m5, m6⟩ := decI_ok b (decL 0 0 b).1 (decL 0 0 b).2.1 hz (Prod.ext rfl (Prod.ext rfl e1))
  have hm : m = (nx17 j b).2.2 := by omega
  rw [e3, ← m6, hm, List.take_append_drop]
theorem th17_three {b : List Int} (hz : ∀ z ∈ b, 0 ≤ z ∧ z ≤ 255) (h : (th17 [] b 3).1 = 0) :
    ∃ x y z r, th17 [] b 3 = (0, [x, y, z], r) ∧ encI x ++ (encI y ++ (encI z ++ r)) = b ∧ (0 ≤ x ∧ x ≤ 65536) ∧ (0 ≤ y ∧ y ≤ 65536) ∧ (0 ≤ z ∧ z ≤ 33554432) ∧ (∀ u ∈ r, 0 ≤ u ∧ u ≤ 255) ∧ r.length < b.length := by
  by_cases h0 : (nx17 0 b).1 = 0
  · have E0 := nx17_enc hz h0
    obtain ⟨_, _, _, _, a5, a6, a7, a8⟩ := nx17_fact (fun z h => (hz z h).1) h0
    have H0 : th17 [] b 3 = th17 ([] ++ [(nx17 0 b).2.1]) (b.drop (nx17 0 b).2.2) 2 := th17_ok (k := 2) h0
    rw [H0] at h ⊢
    have hz1 : ∀ z ∈ b.drop (nx17 0 b).2.2, 0 ≤ z ∧ z ≤ 255 := fun z h => hz z (List.mem_of_mem_drop h)
    have l1 : (b.drop (nx17 0 b).2.2).length < b.length := by rw [List.length_drop]; omega
    generalize b.drop (nx17 0 b).2.2 = b1 at *
    generalize (nx17 0 b).2.1 = x at *
    by_cases h1 : (nx17 1 b1).1 = 0
    · have E1 := nx17_enc hz1 h1
      obtain ⟨_, _, _, _, c5, c6, c7, c8⟩ := nx17_fact (fun z h => (hz1 z h).1) h1
      have H1 : th17 ([] ++ [x]) b1 2 = th17 ([] ++ [x] ++ [(nx17 1 b1).2.1]) (b1.drop (nx17 1 b1).2.2) 1 := th17_ok (k := 1) h1
      rw [H1] at h ⊢
      have hz2 : ∀ z ∈ b1.drop (nx17 1 b1).2.2, 0 ≤ z ∧ z ≤ 255 := fun z h => hz1 z (List.mem_of_mem_drop h)
      have l2 : (b1.drop (nx17 1 b1).2.2).length < b1.length := by rw [List.length_drop]; omega
      generalize b1.drop (nx17 1 b1).2.2 = b2 at *
      generalize (nx17 1 b1).2.1 = y at *
      by_cases h2 : (nx17 2 b2).1 = 0
      · have E2 := nx17_enc hz2 h2
        obtain ⟨_, _, _, _, d5, d6, d7, d8⟩ := nx17_fact (fun z h => (hz2 z h).1) h2
        have H2 : th17 ([] ++ [x] ++ [y]) b2 1 = th17 ([] ++ [x] ++ [y] ++ [(nx17 2 b2).2.1]) (b2.drop (nx17 2 b2).2.2) 0 := th17_ok (k := 0) h2
        rw [H2]
        have hz3 : ∀ z ∈ b2.drop (nx17 2 b2).2.2, 0 ≤ z ∧ z ≤ 255 := fun z h => hz2 z (List.mem_of_mem_drop h)
        have l3 : (b2.drop (nx17 2 b2).2.2).length < b2.length := by rw [List.length_drop]; omega
        generalize b2.drop (nx17 2 b2).2.2 = b3 at *
        generalize (nx17 2 b2).2.1 = z at *
        exact ⟨x, y, z, b3, rfl, by rw [E2, E1, E0], ⟨a7, a8⟩, ⟨c7, c8⟩, ⟨d7, d8⟩, hz3, by omega⟩
      · rw [th17_no (k := 0) h2] at h; exact absurd h h2
    · rw [th17_no (k := 1) h1] at h; exact absurd h h1
  · rw [th17_no (k := 2) h0] at h; exact absurd h h0
theorem sp17_three (x y z : Int) : sp17 [x, y, z] = (x, y, zagI z) := rfl
theorem nm17_cons (s : St16) (T : List St16) : nm17 (s :: T) = s.1 :: s.2.1 :: zigI s.2.2 :: nm17 T := by simp [nm17]
theorem un17_enc : ∀ (f : Nat) (b : List Int) (acc : List St16), b.length ≤ f → (∀ z ∈ b, 0 ≤ z ∧ z ≤ 255) → (un17 f b acc).1 = 0 → ∃ T, (un17 f b acc).2 = acc ++ T ∧ encA (nm17 T) = b ∧ ∀ s ∈ T, cok17 s = true
  | 0, b, acc, hl, _, _ => by
    have : b = [] := List.length_eq_zero_iff.1 (by omega)
    subst this
    exact ⟨[], by simp [un17], rfl, by simp⟩
  | f + 1, b, acc, hl, hz, h => by
    by_cases hb : b = []
    · subst hb
      exact ⟨[], by rw [un17_nil]; simp, rfl, by simp⟩
    · by_cases ht : (th17 [] b 3).1 = 0
      · obtain ⟨x, y, z, r, e, eb, hx, hy, hzz, hr, hrl⟩ := th17_three hz ht
        rw [un17_ok hb ht, e] at h ⊢
        simp only at h ⊢
        obtain ⟨T, t1, t2, t3⟩ := un17_enc f r (acc ++ [sp17 [x, y, z]]) (by omega) hr h
        refine ⟨sp17 [x, y, z] :: T, by rw [t1]; simp, ?_, ?_⟩
        · rw [nm17_cons, sp17_three]
          show encI x ++ (encI y ++ (encI (zigI (zagI z)) ++ encA (nm17 T))) = b
          rw [zig_zag z hzz.1, t2, eb]
        · intro s hs
          rcases List.mem_cons.1 hs with rfl | hs
          · rw [cok17_iff, sp17_three]
            refine ⟨hx, hy, ?_⟩
            show -16777216 ≤ zagI z ∧ zagI z ≤ 16777216
            obtain ⟨z1, z2⟩ := hzz
            unfold zagI
            split <;> omega
          · exact t3 s hs
      · rw [un17_no hb ht] at h
        exact absurd h ht
theorem un17_err : ∀ (f : Nat) (b : List Int) (acc : List St16), (un17 f b acc).1 ≠ 0 → (un17 f b acc).2 = []
  | 0, b, acc, h => by simp [un17] at h
  | f + 1, b, acc, h => by
    by_cases hb : b = []
    · subst hb; rw [un17_nil] at h; simp at h
    · by_cases ht : (th17 [] b 3).1 = 0
      · rw [un17_ok hb ht] at h ⊢
        exact un17_err f _ _ h
      · rw [un17_no hb ht]
/-- And back. -/
theorem nx17_back {j : Nat} {v : Int} (r : List Int) (h0 : 0 ≤ v) (h1 : v ≤ lim17 j) : nx17 j (encI v ++ r) = (0, v, (encI v).length) := by
  have hj : lim17 j ≤ 33554432 := by unfold lim17; split <;> omega
  have e := dec_encI v r h0 (by omega)
  rw [nx17_ok (by rw [e]) (by rw [e]; show ¬ lim17 j < v; omega), e]
  simp
theorem th17_back {x y z : Int} (r : List Int) (hx : 0 ≤ x ∧ x ≤ 65536) (hy : 0 ≤ y ∧ y ≤ 65536) (hz : 0 ≤ z ∧ z ≤ 33554432) : th17 [] (encI x ++ (encI y ++ (encI z ++ r))) 3 = (0, [x, y, z], r) := by
  have n0 := nx17_back (j := 0) (encI y ++ (encI z ++ r)) hx.1 hx.2
  have n1 := nx17_back (j := 1) (encI z ++ r) hy.1 hy.2
  have n2 := nx17_back (j := 2) r hz.1 hz.2
  have H0 : th17 [] (encI x ++ (encI y ++ (encI z ++ r))) 3 = _ := th17_ok (k := 2) (by show (nx17 0 _).1 = 0; rw [n0])
  rw [H0]
  show th17 ([] ++ [(nx17 0 _).2.1]) ((encI x ++ (encI y ++ (encI z ++ r))).drop (nx17 0 (encI x ++ (encI y ++ (encI z ++ r)))).2.2) 2 = _
  rw [n0]
  simp only [List.drop_left]
  have H1 : th17 ([] ++ [x]) (encI y ++ (encI z ++ r)) 2 = _ := th17_ok (k := 1) (by show (nx17 1 _).1 = 0; rw [n1])
  rw [H1]
  show th17 ([] ++ [x] ++ [(nx17 1 _).2.1]) ((encI y ++ (encI z ++ r)).drop (nx17 1 (encI y ++ (encI z ++ r))).2.2) 1 = _
  rw [n1]
  simp only [List.drop_left]
  have H2 : th17 ([] ++ [x] ++ [y]) (encI z ++ r) 1 = _ := th17_ok (k := 0) (by show (nx17 2 _).1 = 0; rw [n2])
  rw [H2]
  show th17 ([] ++ [x] ++ [y] ++ [(nx17 2 _).2.1]) ((encI z ++ r).drop (nx17 2 (encI z ++ r)).2.2) 0 = _
  rw [n2]
  simp only [List.drop_left]
  rfl
theorem zig17_bd {k : Int} (h : -16777216 ≤ k ∧ k ≤ 16777216) : 0 ≤ zigI k ∧ zigI k ≤ 33554432 := by unfold zigI; split <;> omega
theorem un17_back : ∀ (T : List St16) (f : Nat) (acc : List St16), (∀ s ∈ T, cok17 s = true) → (encA (nm17 T)).length ≤ f → un17 f (encA (nm17 T)) acc = (0, acc ++ T)
  | [], f, acc, _, _ => by
    have : encA (nm17 []) = [] := rfl
    rw [this, un17_nil]; simp
  | s :: T, f, acc, hok, hl => by
    have hs := (cok17_iff s).1 (hok s (by simp))
    have e : encA (nm17 (s :: T)) = encI s.1 ++ (encI s.2.1 ++ (encI (zigI s.2.2) ++ encA (nm17 T))) := by rw [nm17_cons]; rfl
    rw [e] at hl ⊢
    have l1 := encI_len s.1
    have hb : encI s.1 ++ (encI s.2.1 ++ (encI (zigI s.2.2) ++ encA (nm17 T))) ≠ [] := fun h => by
      have := congrArg List.length h
      rw [List.length_append] at this
      have e0 : ([] : List Int).length = 0 := rfl
      omega
    have tb := th17_back (encA (nm17 T)) hs.1 hs.2.1 (zig17_bd hs.2.2)
    simp only [List.length_append] at hl
    obtain ⟨g, rfl⟩ : ∃ g, f = g + 1 := ⟨f - 1, by omega⟩
    rw [un17_ok hb (by rw [tb]), tb]
    simp only
    rw [un17_back T g _ (fun s h => hok s (by simp [h])) (by omega), sp17_three, zag_zig]
    simp
/-- How long a control is. -/
theorem encL_le : ∀ (n f : Nat) (v : Int), v < 128 ^ (n + 1) → (encL f v).length ≤ n + 1
  | n, 0, v, h => by simp [encL]
  | 0, f + 1, v, h => by
    unfold encL
    rw [if_neg (by simp at h; omega)]
    simp
  | n + 1, f + 1, v, h => by
    unfold encL
    split
    · have h2 : v / 128 < 128 ^ (n + 1) := by
        rw [Int.pow_succ] at h
        omega
      have := encL_le n f (v / 128) h2
      simp; omega
    · simp
theorem stp17_len {s : St16} (h : cok17 s = true) (h1 : ¬ (s.1 = 0 ∧ s.2.1 = 0)) : (encA [s.1, s.2.1, zigI s.2.2]).length ≤ 6 * (s.1.toNat + s.2.1.toNat) := by
  have hs := (cok17_iff s).1 h
  obtain ⟨A, C, K⟩ := s
  simp only at hs h1 ⊢
  obtain ⟨a, c, k⟩ := hs
  have e : (encA [A, C, zigI K]).length = (encI A).length + (encI C).length + (encI (zigI K)).length := by simp [encA]; omega
  have lk : (encI (zigI K)).length ≤ 4 := encL_le 3 9 _ (by have := (zig17_bd k).2; show zigI K < 128 ^ 4; rw [show (128 : Int) ^ 4 = 268435456 from rfl]; omega)
  have la : (encI A).length ≤ 3 := encL_le 2 9 _ (by show A < 128 ^ 3; rw [show (128 : Int) ^ 3 = 2097152 from rfl]; omega)
  have lc : (encI C).length ≤ 3 := encL_le 2 9 _ (by show C < 128 ^ 3; rw [show (128 : Int) ^ 3 = 2097152 from rfl]; omega)
  rw [e]
  by_cases x : A < 128
  · have la1 : (encI A).length ≤ 1 := encL_le 0 9 _ (by show A < 128 ^ 1; rw [show (128 : Int) ^ 1 = 128 from rfl]; omega)
    by_cases y : C < 128
    · have lc1 : (encI C).length ≤ 1 := encL_le 0 9 _ (by show C < 128 ^ 1; rw [show (128 : Int) ^ 1 = 128 from rfl]; omega)
      omega
    · omega
  · omega
theorem w17_cok {pos : Int} {S : List St16} {m k : Nat} {old size : Int} (h : W17 pos S m k old size) : ∀ s ∈ S, cok17 s = true := by
  intro s hs
  obtain ⟨i, hi, rfl⟩ := List.getElem_of_mem hs
  have hg := h.2.2.1 i hi
  have hc := cg17_all (m := m) (k := k) ⟨h.2.1.2.2.1, h.2.1.2.2.2⟩ i (fun j hj => h.2.2.1 j (by omega))
  have hp := hc.p
  have e : S.getD i z16 = S[i] := by simp [List.getD, hi]
  unfold G17 at hg
  rw [e] at hg
  obtain ⟨g1, g2, g3, g4, g5, g6, g7, g8, g9⟩ := hg
  obtain ⟨⟨s1, s2, s3⟩, ⟨o1, o2, o3, o4⟩, _⟩ := h
  rw [cok17_iff]
  omega
theorem w17_ctl {pos : Int} {S : List St16} {m k : Nat} {old size : Int} (h : W17 pos S m k old size) : (encA (nm17 S)).length ≤ 6 * (m + k) := by
  have key : ∀ i, i ≤ S.length → (encA (nm17 (S.take i))).length ≤ 6 * (sa16 S i + sc16 S i) := by
    intro i
    induction i with
    | zero => intro _; simp [nm17, encA]
    | succ i ih =>
      intro hi
      have hi2 : i < S.length := by omega
      have l1 := ih (by omega)
      have hg := h.2.2.1 i hi2
      have hok := w17_cok h S[i] (List.getElem_mem hi2)
      have e : S.getD i z16 = S[i] := by simp [List.getD, hi2]
      have l2 := stp17_len hok (by rw [← e]; exact hg.2.2.1)
      rw [List.take_succ_eq_append_getElem hi2, nm17_app, encA_append, List.length_append]
      have e3 : nm17 [S[i]] = [S[i].1, S[i].2.1, zigI S[i].2.2] := by simp [nm17]
      rw [e3]
      simp only [sa16, sc16, ad16, cp16, e]
      omega
  have := key S.length (Nat.le_refl _)
  rw [List.take_length, h.2.2.2.1, h.2.2.2.2] at this
  exact this
/-- The first number. -/
theorem first17 {s : St16} {T : List St16} (h : cok17 s = true) : decL 0 0 (encA (nm17 (s :: T))) = (s.1, ((encI s.1).length : Int), 0) := by
  have hs := (cok17_iff s).1 h
  rw [nm17_cons]
  exact dec_encI s.1 _ hs.1.1 (by omega)
end Go.Proofs.Ytodioefbfchckaa
