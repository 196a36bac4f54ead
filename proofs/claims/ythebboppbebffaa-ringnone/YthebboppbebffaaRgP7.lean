
import Derived.Test.YthebboppbebffaaRgP6
import Derived.Test.YthebboppbebffaaRgRepM
namespace Go.Proofs.Ythebboppbebffaa
open Go.RowKit
set_option linter.unusedVariables false
set_option linter.unusedSimpArgs false
variable {w w' : World} {b g S : Nat} {F Q : Nat → Prop} {L K : List Int}

theorem cpyA_take (L : List Int) (d : Nat) : ∀ n, (cpyA L d n).take L.length = L
  | 0 => by rw [cpyA]; exact List.take_length
  | n + 1 => by rw [cpyA, List.take_append_of_le_length (by rw [cpyA_len]; omega), cpyA_take L d n]
theorem cpyA_app (L : List Int) (d n : Nat) : cpyA L d n = L ++ cpyO L d n := by
  have := List.take_append_drop L.length (cpyA L d n)
  rw [cpyA_take] at this
  exact this.symm
theorem getD_mem6 {A : List Int} {i : Nat} (h : i < A.length) : A.getD i 0 ∈ A := by
  simp [List.getD, h]
theorem cpyO_bd (L : List Int) (d n : Nat) (hd : 1 ≤ d) (hl : d ≤ L.length) (hb : ∀ z ∈ L, 0 ≤ z ∧ z ≤ 255) : ∀ z ∈ cpyO L d n, 0 ≤ z ∧ z ≤ 255 := by
  intro z hz
  obtain ⟨i, hi, rfl⟩ := List.mem_iff_getElem.1 hz
  have h1 : i < n := by rw [cpyO_len] at hi; exact hi
  have h2 := cpyO_rep L d n i hd hl h1
  have h3 : i % d < (L.drop (L.length - d)).length := by rw [List.length_drop]; have := Nat.mod_lt i hd; omega
  have h4 : (cpyO L d n)[i] = (cpyO L d n).getD i 0 := by simp [List.getD, hi]
  rw [h4, h2]
  exact hb _ (List.mem_of_mem_drop (getD_mem6 h3))
/-- As far as t the copy stands in the list. -/
structure CpI (D N : Nat) (C : List Int) (t : Nat) (R : List Int) : Prop where
  len : R.length = N
  le : t ≤ N
  st : t = N ∨ (t % D = 0 ∧ D ≤ t)
  at_ : ∀ i, i < t → R.getD i 0 = C.getD i 0
  bd : ∀ z ∈ R, 0 ≤ z ∧ z ≤ 255
theorem CpI.start {D N : Nat} {L Z : List Int} (hD : 1 ≤ D) (hl : D ≤ L.length) (hb : ∀ z ∈ L, 0 ≤ z ∧ z ≤ 255) (hZ : Z.length = N) (hZb : ∀ z ∈ Z, 0 ≤ z ∧ z ≤ 255) :
    CpI D N (cpyO L D N) (min N D) ((L.drop (L.length - D)).take (min N D) ++ Z.drop (min N D)) := by
  have l1 : ((L.drop (L.length - D)).take (min N D)).length = min N D := by rw [List.length_take, List.length_drop]; omega
  refine ⟨by rw [List.length_append, l1, List.length_drop]; omega, by omega, ?_, ?_, ?_⟩
  · by_cases h : N ≤ D
    · exact .inl (by omega)
    · refine .inr ⟨?_, by omega⟩
      rw [Nat.min_eq_right (by omega), Nat.mod_self]
  · intro i hi
    rw [getD_app6, if_pos (by omega), getD_take6 _ _ _ hi, cpyO_rep L D N i hD hl (by omega), Nat.mod_eq_of_lt (by omega)]
  · intro z hz
    rcases List.mem_append.1 hz with hz | hz
    · exact hb z (List.mem_of_mem_drop (List.mem_of_mem_take hz))
    · exact hZb z (List.mem_of_mem_drop hz)
theorem CpI.step {D N t c : Nat} {L R : List Int} (hD : 1 ≤ D) (hl : D ≤ L.length) (h : CpI D N (cpyO L D N) t R) (ht : t < N) (hc : c = min D (N - t)) :
    CpI D N (cpyO L D N) (t + c) (splice R t (R.take c)) := by
  obtain ⟨h1, h2⟩ : t % D = 0 ∧ D ≤ t := by
    rcases h.st with e | e
    · omega
    · exact e
  have hlen := h.len
  have l1 : (R.take c).length = c := by rw [List.length_take]; omega
  have f1 : t + (R.take c).length ≤ R.length := by omega
  refine ⟨by rw [length_splice _ _ _ f1, hlen], by omega, ?_, ?_, ?_⟩
  · by_cases e : D ≤ N - t
    · refine .inr ⟨?_, by omega⟩
      rw [show t + c = t + D by omega, Nat.add_mod_right]; exact h1
    · exact .inl (by omega)
  · intro i hi
    rw [splice_getD _ _ _ f1, l1]
    by_cases e : t ≤ i
    · rw [if_pos (by omega), getD_take6 _ _ _ (by omega), h.at_ _ (by omega), cpyO_rep L D N _ hD hl (by omega), cpyO_rep L D N i hD hl (by omega)]
      congr 1
      conv => rhs; rw [show i = t + (i - t) by omega, Nat.add_mod, h1, Nat.zero_add, Nat.mod_mod]
    · rw [if_neg (by omega)]
      exact h.at_ i (by omega)
  · intro z hz
    rcases splice_mem hz with hz | hz
    · exact h.bd z hz
    · exact h.bd z (List.mem_of_mem_take hz)
theorem CpI.done {D N t : Nat} {L R : List Int} (h : CpI D N (cpyO L D N) t R) (ht : t = N) : R = cpyO L D N := by
  subst ht
  refine ext_getD6 (by rw [h.len, cpyO_len]) (fun i hi => h.at_ i ?_)
  rw [h.len] at hi
  exact hi
set_option maxRecDepth 100000 in
theorem pcopy_no_k (d n : Int) (h : RPk w b g S L K) (hno : ¬ copyOk S L d n) : Calls Try.prog 18 #[.pointer (some ⟨b, 0, none⟩), .int .i64 d, .int .i64 n] w fun e w' => e = .returned (.tuple #[.slice none 0 0, .int .i64 (if n < 0 ∨ 258 < n then 1 else 61)]) ∧ w' = w := by
  have CM := pmade h
  have CF := pfar d h
  clear h
  by_cases h1 : n < 0
  · rw [if_pos (.inl h1)]
    clear hno
    go_enter Try.func18, Try.ntmps18
    go_wp2_with fail
    refine CM.mono ?_
    rintro e w1 ⟨rfl, rfl⟩
    go_wp2_with fail
    go_ret2
    exact ⟨rfl, rfl⟩
  · by_cases h2 : 258 < n
    · rw [if_pos (.inr h2)]
      clear hno
      go_enter Try.func18, Try.ntmps18
      go_wp2_with fail
      refine CM.mono ?_
      rintro e w1 ⟨rfl, rfl⟩
      go_wp2_with fail
      go_ret2
      exact ⟨rfl, rfl⟩
    · have HE : atE S L d = 61 := by
        unfold atE
        rw [if_neg (fun e => hno ⟨by omega, by omega, e.1, e.2⟩)]
      rw [HE] at CF
      rw [if_neg (by omega)]
      clear HE hno
      go_enter Try.func18, Try.ntmps18
      go_wp2_with fail
      refine CM.mono ?_
      rintro e w1 ⟨rfl, rfl⟩
      go_wp2_with fail
      refine CF.mono ?_
      rintro e w1 ⟨rfl, rfl⟩
      go_wp2_with fail
      go_ret2
      exact ⟨rfl, rfl⟩
/-- What Copy has done. -/
def CopyQ (w : World) (b g S D N : Nat) (L : List Int) (e : Ending) (w' : World) : Prop := e = .returned (.tuple #[.slice (some ⟨w.heap.size, 0, none⟩) N N, .int .i64 0]) ∧ w'.ownsRow w.heap.size 5 1 (.slice (some ⟨w.heap.size, 0, none⟩) N N) N ((cpyO L D N).map (Value.int .u8)) ∧ (∃ K', RPk w' b g S (cpyA L D N) K') ∧ Kp (FP b g) w w'
set_option maxRecDepth 100000 in
set_option maxHeartbeats 4000000 in
theorem pcopy_ok_k (D N : Nat) (h : RPk w b g S L K) (hl : L.length ≤ 140737488354000) (hok : copyOk S L D N) : Calls Try.prog 18 #[.pointer (some ⟨b, 0, none⟩), .int .i64 (D : Int), .int .i64 (N : Int)] w (CopyQ w b g S D N L) := by
  obtain ⟨o1, o2, o3, o4⟩ := hok
  have CM := pmade h
  have CF := pfar (D : Int) h
  have HE : atE S L (D : Int) = 0 := by unfold atE; rw [if_pos ⟨o3, o4⟩]
  rw [HE] at CF
  have e1 : heldN S L ≤ L.length := by unfold heldN; omega
  have e2 : heldN S L ≤ S := by unfold heldN; omega
  have h2 := h.s2
  have hDL : D ≤ L.length := by omega
  have hD1 : 1 ≤ D := by omega
  have hN : N ≤ 258 := by omega
  have hmk := run_make6 N (by omega) w
  obtain ⟨wA, hwA⟩ : ∃ wA, wA = w.alloc (.cells ((List.replicate N (0 : Int)).map (Value.int .u8)).toArray 5) := ⟨_, rfl⟩
  rw [← hwA] at hmk
  have bA : Below w.heap.size w wA := by rw [hwA]; exact (Below.refl _ _).alloc (Nat.le_refl _) _
  have hgA : wA.heap[w.heap.size]? = some (.cells ((List.replicate N (0 : Int)).map (Value.int .u8)).toArray 5 (0, 0)) := by rw [hwA]; exact heap_new6 _ _ _
  have hA := h.old bA
  have hbo : b ≠ w.heap.size := by have := h.b_lt; omega
  have hgo : g ≠ w.heap.size := by have := h.g_lt; omega
  have CL := pfill w.heap.size N D (List.replicate N 0) hA hgA (show _ = _ by simp) hbo hgo (by omega) (by omega) (by omega)
  have I0 := CpI.start (N := N) (Z := List.replicate N 0) hD1 hDL h.bd (by simp) (noughts_bd6 N)
  obtain ⟨og, hog⟩ : ∃ og, og = w.heap.size := ⟨_, rfl⟩
  have HO : Hid (og = w.heap.size) := hog
  rw [← hog] at CL hmk hgA hbo hgo
  have hDj : Dj (FP b g) (fun x => x = og) := by
    rintro x (rfl | rfl) e
    · exact hbo e
    · exact hgo e
  have HPUT : Hid (∀ W R, Kp (fun x => x = og) wA W → W.heap[og]? = some (.cells (R.map (Value.int .u8)).toArray 5 (0, 0)) → R = cpyO L D N → Calls Try.prog 20 #[.pointer (some ⟨b, 0, none⟩), .slice (some ⟨og, 0, none⟩) N N] W fun e w' => e = .returned (.int .i64 0) ∧ CopyQ w b g S D N L (.returned (.tuple #[.slice (some ⟨og, 0, none⟩) N N, .int .i64 0])) w') := fun W R hk hg hR => by
    subst hR
    have sg := seg_heap6 hg (cpyO_bd L D N hD1 hDL h.bd)
    refine (pput_k (some ⟨og, 0, none⟩) (cpyO L D N) N N (show _ = _ from cpyO_len L D N) (hA.kp hk hDj) sg (Nat.le_refl _) (by simp) ?_ (by omega)).mono ?_
    · intro x off e _
      cases e
      exact ⟨fun e => hbo e.symm, fun e => hgo e.symm⟩
    · rintro e w' ⟨rfl, K', h5, h6⟩
      have hg' := h6.heap hg (fun e => by rcases e with e | e; exact hbo e.symm; exact hgo e.symm)
      refine ⟨rfl, by rw [hog], own_heap6 (by rw [← hog]; exact hg') (cpyO_len L D N) (Nat.le_refl _) (by omega), ⟨K', by rw [cpyA_app]; exact h5⟩, ?_⟩
      have k1 : Kp (FP b g) w W := (Kp.of_below bA).trans hk (fun i hi e => by omega)
      exact k1.trans h6 (fun _ _ e => e)
  have HSTEP : Hid (∀ t c R, CpI D N (cpyO L D N) t R → t < N → c = min D (N - t) → CpI D N (cpyO L D N) (t + c) (splice R t (R.take c))) := fun t c R hI ht hc => hI.step hD1 hDL ht hc
  have HDONE : Hid (∀ t R, CpI D N (cpyO L D N) t R → t = N → R = cpyO L D N) := fun t R hI ht => hI.done ht
  have HI0 : Hid _ := I0
  have hN0 : ¬ (N : Int) < 0 := by omega
  have hN1 : ¬ (258 : Int) < (N : Int) := by omega
  have hD0 : (0 : Int) ≤ (D : Int) := by omega
  clear HE hwA h hA I0 o1 o2 o3 o4 e1 e2 hl hDj hog
  generalize (L.drop (L.length - D)).take (min N D) ++ (List.replicate N (0 : Int)).drop (min N D) = R0 at *
  generalize min N D = k0 at *
  generalize cpyO L D N = C at *
  go_enter Try.func18, Try.ntmps18
  go_wp2_with fail
  refine CM.mono ?_
  rintro e w1 ⟨rfl, rfl⟩
  go_wp2_with fail
  refine CF.mono ?_
  rintro e w1 ⟨rfl, rfl⟩
  go_wp2_with fail
  refine CL.mono ?_
  rintro e wF ⟨rfl, hgF, kF⟩
  go_wp2_with fail
  go_loopw [10] (fun td wr => ∃ (t : Nat) (R : List Int), td = .int .i64 (t : Int) ∧ CpI D N C t R ∧ wr.heap[og]? = some (.cells (R.map (Value.int .u8)).toArray 5 (0, 0)) ∧ Kp (fun x => x = og) wA wr) (fun td _ => N - (intOf td).toNat)
  case atStart => exact ⟨k0, R0, rfl, HI0.out, hgF, kF⟩
  case round =>
    obtain ⟨t, R, rfl, hI, hgr, hkr⟩ := hrel
    by_cases hlt : t < N
    · have hlti : (t : Int) < (N : Int) := by omega
      have hDt : D ≤ t := by
        rcases hI.st with e | e
        · omega
        · exact e.2
      obtain ⟨c, hc⟩ : ∃ c, c = min D (N - t) := ⟨_, rfl⟩
      have hI2 := HSTEP.out t c R hI hlt hc
      obtain ⟨q, hq⟩ : ∃ q, q = R.take c := ⟨_, rfl⟩
      have hRl := hI.len
      have HQ : Hid (q.length = c) := by show _ = _; rw [hq, List.length_take]; omega
      have sq : Seg wr (some ⟨og, 0, none⟩) q := by rw [hq]; exact SegK.take (seg_heap6 hgr hI.bd) _
      have HFIT : Hid (t + c ≤ R.length) := by show _ ≤ _; rw [hRl]; omega
      have HM : Hid (c = Nat.min D (N - t)) := hc
      rw [← hq] at hI2
      have HI2 : Hid _ := hI2
      have ht0 : (0 : Int) ≤ (t : Int) := by omega
      have htN : (t : Int) ≤ (N : Int) := by omega
      have hDN : (D : Int) ≤ (N : Int) := by omega
      have hNt : ¬ (N : Int) = (t : Int) := by omega
      have hNtn : ¬ N = t := by omega
      obtain ⟨t', ht'⟩ : ∃ t', t' = t + c := ⟨_, rfl⟩
      have hwt : IntKind.i64.wrap ((t : Int) + (c : Int)) = (t' : Int) := by rw [IntWalk.i64_in _ (by omega)]; omega
      rw [← ht'] at HI2
      have HT : Hid (t < t' ∧ t' ≤ N) := by show _ ∧ _; omega
      clear hI hI2 hq hc hRl ht'
      go_wp2_with fail
      go_region_held3 (fun _ => True) (trivial)
        (first
          | (refine step_copy6 rfl (.tmp 38) (.tmp 41) 34 34 rfl 5 Try.underlying34 size_u8r rfl rfl og t R 5 (by exact hgr) q c HQ.out HM.out (by first | exact fun _ => ⟨rfl, sq.drew⟩ | exact fun _ => ⟨if_neg hNtn, sq.drew⟩) HFIT.out ?_; intro w2 hg2 k2))
      all_goals
        go_wp2_with fail
        go_roundw
        case rel => exact ⟨t', splice R t q, rfl, HI2.out, hg2.out, hkr.trans (⟨k2.os, k2.tape, k2.output, k2.size, k2.block⟩ : Kp (fun x => x = og) wr w2) (fun _ _ e => e)⟩
        case measure => have := HT.out; simp [intOf]; omega
    · have HR : Hid (R = C) := HDONE.out t R hI (by have := hI.le; omega)
      have hge : ¬ (t : Int) < (N : Int) := by omega
      clear hI
      go_wp2_with fail
      refine (HPUT.out wr R hkr hgr HR.out).mono ?_
      rintro e w9 ⟨rfl, hQ⟩
      go_wp2_with fail
      go_ret2
      exact hQ
end Go.Proofs.Ythebboppbebffaa
