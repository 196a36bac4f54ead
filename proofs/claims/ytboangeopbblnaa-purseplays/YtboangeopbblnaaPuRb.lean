
import Derived.Test.YtboangeopbblnaaPuRa
import Derived.Laws.OwnMore
namespace Go.Proofs.Ytboangeopbblnaa
open Go.RowKit Go.Maps Go.WideMaps Go.MuLone Go.Shelf
set_option linter.unusedVariables false
set_option linter.unusedSimpArgs false
set_option maxRecDepth 100000

/-! The document's Hold. -/
theorem fl23_set {L : List Ho23} {i : Nat} {y : Ho23} (e : L[i]? = some y) (n : Int) : fl23 (L.set i ⟨y.nm, y.mo, n⟩) = (fl23 L).set (i * 3 + 2) (.int .i64 n) := by
  induction L generalizing i with
  | nil => simp at e
  | cons x l ih =>
    cases i with
    | zero => simp at e; subst e; rfl
    | succ i =>
      simp only [List.getElem?_cons_succ] at e
      simp only [List.set_cons_succ, fl23, ih e]
      have hl : (hc23 x).length = 3 := rfl
      rw [List.set_append_right _ _ (by rw [hl]; omega), hl, show (i + 1) * 3 + 2 - 3 = i * 3 + 2 by omega]
/-- The document's purse, raw: its block and its row. -/
structure Rw23 (w : World) (x g : Nat) (ra : Option Addr) (rc : Nat) (S : Pu23) : Prop where
  a : w.heap[x]? = some (.cells #[.slice ra S.L.length rc, .int .i64 S.pk] 28 (0, 0))
  b : w.ownsRow 0 67 3 (.slice ra S.L.length rc) S.L.length (fl23 S.L)
  c : ra = none → S.L.length = 0 ∧ rc = 0
  d : ∀ k, (Value.slice ra S.L.length rc).ownBlock = some k → k = g
  lt : x < w.heap.size ∧ g < w.heap.size
theorem Rw23.rr {w : World} {x g : Nat} {ra : Option Addr} {rc : Nat} {S : Pu23} (h : Rw23 w x g ra rc S) (ok : Ok23 S) : Rr23 w x g S := ⟨⟨ra, rc, h.a, h.b, h.c, h.d⟩, ok, h.lt⟩
theorem Rr23.rw_ {w : World} {x g : Nat} {S : Pu23} (h : Rr23 w x g S) : ∃ ra rc, Rw23 w x g ra rc S := by
  obtain ⟨ra, rc, a, b, c, d⟩ := h.ex
  exact ⟨ra, rc, a, b, c, d, h.lt⟩
theorem Rw23.below {w w' : World} {x g : Nat} {ra : Option Addr} {rc : Nat} {S : Pu23} (h : Rw23 w x g ra rc S) (hk : Below w.heap.size w w') : Rw23 w' x g ra rc S := by
  refine ⟨(hk.block x h.lt.1).trans h.a, ⟨h.b.1, ?_⟩, h.c, h.d, Nat.lt_of_lt_of_le h.lt.1 hk.size, Nat.lt_of_lt_of_le h.lt.2 hk.size⟩
  rcases h.b.2 with b | ⟨g', cp, cur, e1, e2, e3, e4⟩
  · exact .inl b
  · exact .inr ⟨g', cp, cur, e1, e2, (hk.block g' (Array.getElem?_eq_some_iff.1 e3).1).trans e3, e4⟩
/-- One holder's number is written over. -/
theorem Rw23.put {w : World} {x g g' : Nat} {rc : Nat} {S : Pu23} (h : Rw23 w x g (some ⟨g', 0, none⟩) rc S) {i : Nat} {y : Ho23} (e : S.L[i]? = some y) (n : Int) :
    Rw23 (w.setCell ⟨g', i * 3 + 2, none⟩ (.int .i64 n)) x g (some ⟨g', 0, none⟩) rc ⟨S.L.set i ⟨y.nm, y.mo, n⟩, S.pk⟩ ∧ Kp (fun k => k = x ∨ k = g) w (w.setCell ⟨g', i * 3 + 2, none⟩ (.int .i64 n)) ∧ w.frozen? ⟨g', i * 3 + 2, none⟩ = false := by
  have hg : g' = g := h.d g' rfl
  have hne : g' ≠ x := fun e0 => by
    rcases h.b.2 with ⟨b, _⟩ | ⟨g2, cp, cur, e1, e2, e3, e4⟩
    · simp at b
    · simp only [Value.slice.injEq, Option.some.injEq, Addr.mk.injEq, and_true, true_and] at e1
      obtain ⟨rfl, -⟩ := e1
      rw [e0, h.a] at e3
      injection e3 with e3
      injection e3 with _ e3 _
      exact absurd e3 (by decide)
  have hk : Kp (fun k => k = g') w (w.setCell ⟨g', i * 3 + 2, none⟩ (.int .i64 n)) := Kp.set (S := fun k => k = g') rfl _
  have hs := (h.b.stored (i * 3 + 2) (.int .i64 n)).1
  have hl : (S.L.set i ⟨y.nm, y.mo, n⟩).length = S.L.length := List.length_set
  refine ⟨⟨?_, ?_, ?_, ?_, Nat.lt_of_lt_of_le h.lt.1 hk.size, Nat.lt_of_lt_of_le h.lt.2 hk.size⟩, hk.mono (fun k _ e => .inr (by rw [e, hg])), h.b.frozenAt _⟩
  · show _ = some (Obj.cells #[.slice _ (S.L.set i ⟨y.nm, y.mo, n⟩).length rc, .int .i64 S.pk] _ _)
    rw [hl]; exact hk.heap h.a (fun e => hne e.symm)
  · show World.ownsRow _ 0 _ 3 (.slice _ (S.L.set i ⟨y.nm, y.mo, n⟩).length rc) (S.L.set i ⟨y.nm, y.mo, n⟩).length (fl23 (S.L.set i ⟨y.nm, y.mo, n⟩))
    rw [hl, fl23_set e]; exact hs
  · intro e0; cases e0
  · intro k hk2; simp only [Value.ownBlock, Option.some.injEq] at hk2; rw [← hk2]; exact hg
/-- The most is written over. -/
theorem Rw23.peak {w : World} {x g : Nat} {ra : Option Addr} {rc : Nat} {S : Pu23} (h : Rw23 w x g ra rc S) (v : Int) :
    Rw23 (w.setCell ⟨x, 1, none⟩ (.int .i64 v)) x g ra rc ⟨S.L, v⟩ ∧ Kp (fun k => k = x ∨ k = g) w (w.setCell ⟨x, 1, none⟩ (.int .i64 v)) ∧ w.frozen? ⟨x, 1, none⟩ = false := by
  have hk : Kp (fun k => k = x) w (w.setCell ⟨x, 1, none⟩ (.int .i64 v)) := Kp.set (S := fun k => k = x) rfl _
  refine ⟨⟨?_, ?_, h.c, h.d, Nat.lt_of_lt_of_le h.lt.1 hk.size, Nat.lt_of_lt_of_le h.lt.2 hk.size⟩, hk.mono (fun k _ e => .inl e), by simp [World.frozen?, h.a]⟩
  · simp [World.setCell, h.a, Array.getElem?_modify]
  · refine ⟨h.b.1, ?_⟩
    rcases h.b.2 with b | ⟨g2, cp, cur, e1, e2, e3, e4⟩
    · exact .inl b
    · refine .inr ⟨g2, cp, cur, e1, e2, hk.heap e3 (fun e0 => ?_), e4⟩
      rw [e0, h.a] at e3
      injection e3 with e3
      injection e3 with _ e3 _
      exact absurd e3 (by decide)
set_option maxRecDepth 100000 in
set_option maxHeartbeats 8000000 in
theorem rhld23 {w : World} {x g : Nat} {S : Pu23} (h : Rr23 w x g S) (s : ByteArray) (n : Int) :
    Calls Try.prog 25 #[.pointer (some ⟨x, 0, none⟩), .string s, .int .i64 n] w fun e w' => e = .returned (.int .i64 (hE23 S s n)) ∧ Rr23 w' x g (hS23 S s n) ∧ Kp (fun k => k = x ∨ k = g) w w' := by
  have HF := rfnd23 h s
  obtain ⟨ra, rc, hw⟩ := h.rw_
  have HW : Hid (Rw23 w x g ra rc S ∧ Ok23 S) := ⟨hw, h.ok⟩
  clear hw h
  go_enter Try.func25, Try.ntmps25
  go_wp2_with fail
  refine HF.mono ?_
  rintro e w1 ⟨v, rfl, hv, hb1⟩
  have H1 : Hid (Rw23 w1 x g ra rc S ∧ Kp (fun k => k = x ∨ k = g) w w1) := ⟨HW.out.1.below hb1, Kp.of_below hb1⟩
  clear hb1 HF
  rcases hv with ⟨hn, rfl⟩ | ⟨i, y, rfl, hy, hs⟩
  · have HE : Hid (hE23 S s n = 230 ∧ hS23 S s n = S) := ⟨hE23_none hn, hS23_no (by rw [hE23_none hn]; decide)⟩
    clear hn
    go_wp2_with fail
    go_ret
    rw [HE.out.1, HE.out.2]
    exact ⟨rfl, H1.out.1.rr HW.out.2, H1.out.2⟩
  · have hf : fd23 S.L s = some y := by rw [← hs]; exact fd23_mem HW.out.2.so.ne (List.mem_of_getElem? hy)
    have hiN : i < S.L.length := (List.getElem?_eq_some_iff.1 hy).1
    obtain ⟨N, hN⟩ : ∃ N, N = S.L.length := ⟨_, rfl⟩
    have hc := rc_of23 H1.out.1.a H1.out.1.b
    rw [← hN] at hc hiN
    have hii : (i : Int) < (N : Int) := by omega
    have hi0 : ¬ (i : Int) < 0 := by omega
    have c0 := hc.c0
    obtain ⟨g', hra, hgl, e0, e1, e2⟩ := hc.at_ i y hy
    subst hra
    have HY : Hid (S.L[i]? = some y ∧ y.nm = s ∧ fd23 S.L s = some y ∧ N = S.L.length) := ⟨hy, hs, hf, hN⟩
    clear hc hy hs hf hN hgl
    by_cases hn0 : n < 0
    · have HE : Hid (hE23 S s n = 1 ∧ hS23 S s n = S) := by have := hE23_arg (n := n) HY.out.2.2.1 (.inl hn0); exact ⟨this, hS23_no (by rw [this]; decide)⟩
      go_wp2_with fail
      go_ret
      rw [HE.out.1, HE.out.2]
      exact ⟨rfl, H1.out.1.rr HW.out.2, H1.out.2⟩
    · by_cases hn1 : y.mo < n
      · have HE : Hid (hE23 S s n = 1 ∧ hS23 S s n = S) := by have := hE23_arg (n := n) HY.out.2.2.1 (.inr hn1); exact ⟨this, hS23_no (by rw [this]; decide)⟩
        go_wp2_with fail
        go_ret
        rw [HE.out.1, HE.out.2]
        exact ⟨rfl, H1.out.1.rr HW.out.2, H1.out.2⟩
      · have hez := hE23_ok HY.out.2.2.1 (by omega : ¬ (n < 0 ∨ y.mo < n))
        have hSz := hS23_ok hez
        have hset : up23 S.L s n = S.L.set i ⟨y.nm, y.mo, n⟩ := by rw [← HY.out.2.1]; exact up23_set HW.out.2.so.ne HY.out.1 n
        rw [hset] at hSz
        have hokS := HW.out.2.hold s n
        rw [hSz] at hokS
        have HE : Hid (hE23 S s n = 0 ∧ hS23 S s n = ⟨S.L.set i ⟨y.nm, y.mo, n⟩, max S.pk (hs23 (S.L.set i ⟨y.nm, y.mo, n⟩))⟩ ∧ Ok23 ⟨S.L.set i ⟨y.nm, y.mo, n⟩, max S.pk (hs23 (S.L.set i ⟨y.nm, y.mo, n⟩))⟩) := ⟨hez, hSz, hokS⟩
        clear hez hSz hset hokS
        obtain ⟨p1, p2, p3⟩ := H1.out.1.put HY.out.1 n
        obtain ⟨w2, hw2⟩ : ∃ w2, w2 = w1.setCell ⟨g', i * 3 + 2, none⟩ (.int .i64 n) := ⟨_, rfl⟩
        rw [← hw2] at p1 p2
        have HW2 : Hid (w1.setCell ⟨g', i * 3 + 2, none⟩ (.int .i64 n) = w2) := hw2.symm
        obtain ⟨v0, hv0⟩ : ∃ v0, v0 = w2.drew := ⟨_, rfl⟩
        have HV0 : Hid (w2.drew = v0) := hv0.symm
        obtain ⟨L, hL⟩ : ∃ L, L = S.L.set i ⟨y.nm, y.mo, n⟩ := ⟨_, rfl⟩
        obtain ⟨P, hP⟩ : ∃ P, P = S.pk := ⟨_, rfl⟩
        rw [← hL, ← hP] at p1 HE
        have p1' : Rw23 v0 x g (some ⟨g', 0, none⟩) rc ⟨L, P⟩ := by rw [hv0]; exact p1.below ((Below.refl _ _).drew)
        have p2' : Kp (fun k => k = x ∨ k = g) w v0 := by rw [hv0]; exact (H1.out.2.trans p2 (fun _ _ h => h)).drew
        have HQ : Hid (Rw23 v0 x g (some ⟨g', 0, none⟩) rc ⟨L, P⟩ ∧ Kp (fun k => k = x ∨ k = g) w v0) := ⟨p1', p2'⟩
        obtain ⟨U, hU⟩ : ∃ U, U = hs23 L := ⟨_, rfl⟩
        rw [← hU] at HE
        have HHd : Hid (∀ V, Rw23 V x g (some ⟨g', 0, none⟩) rc ⟨L, P⟩ → Calls Try.prog 13 #[.pointer (some ⟨x, 0, none⟩)] V fun e w' => e = .returned (.int .i64 U) ∧ Below V.heap.size V w') := fun V hV => by
          rw [hU]
          exact rhed23x (rc_of23 hV.a hV.b) HE.out.2.2.bd HE.out.2.2.ln
        clear p1 p2 p1' p2' hw2 hv0 hL hP hU
        go_upto_region 7 with fail
        rw [HW2.out]
        refine plain_region16 (fun V => V.cell? ⟨x, 1, none⟩ = some (.int .i64 P)) 7 (by kernel_rfl) (by rw [HV0.out]; exact (two_c23 HQ.out.1.a).2) (fun hHeld => ?_)
        rw [HV0.out] at hHeld ⊢
        clear c0 e0 e1 e2 p3
        refine wpAnyK_take (i := 0) (v := .pointer (some ⟨x, 0, none⟩)) rfl (by kernel_rfl) (by kernel_rfl) (by kernel_rfl) (by kernel_rfl) (fun _ _ _ h => h) (Or.inl ⟨by rfl, fun w hSw => by go_simp⟩) hHeld ?_
        simp only [List.getElem_toArray, List.getElem_cons_zero, Act.put, List.setIfInBounds_toArray, List.set_cons_zero, List.set_cons_succ]
        refine wpAnyK_take (i := 2) (v := .pointer (some ⟨x, 0, none⟩)) rfl (by kernel_rfl) (by kernel_rfl) (by kernel_rfl) (by kernel_rfl) (fun _ _ _ h => h) (Or.inl ⟨by rfl, fun w hSw => by go_simp⟩) hHeld ?_
        simp only [List.getElem_toArray, List.getElem_cons_zero, List.getElem_cons_succ, Act.put, List.setIfInBounds_toArray, List.set_cons_zero, List.set_cons_succ]
        refine wpAnyK_take (i := 3) (v := .pointer (some ⟨x, 0, none⟩)) rfl (by kernel_rfl) (by kernel_rfl) (by kernel_rfl) (by kernel_rfl) (fun _ _ _ h => h) (Or.inl ⟨by rfl, fun w hSw => by go_simp⟩) hHeld ?_
        simp only [List.getElem_toArray, List.getElem_cons_zero, List.getElem_cons_succ, Act.put, List.setIfInBounds_toArray, List.set_cons_zero, List.set_cons_succ]
        refine wpAnyK_take (i := 4) (v := .pointer (some ⟨x, 1, none⟩)) rfl (by kernel_rfl) (by kernel_rfl) (by kernel_rfl) (by kernel_rfl) (fun _ _ _ h => h) (Or.inl ⟨by rfl, fun w hSw => by go_simp⟩) hHeld ?_
        simp only [List.getElem_toArray, List.getElem_cons_zero, List.getElem_cons_succ, Act.put, List.setIfInBounds_toArray, List.set_cons_zero, List.set_cons_succ]
        refine wpAnyK_take (i := 5) (v := .int .i64 P) rfl (by kernel_rfl) (by kernel_rfl) (by kernel_rfl) (by kernel_rfl) (fun _ _ _ h => h) (Or.inl ⟨by rfl, fun w hSw => by go_simp⟩) hHeld ?_
        simp only [List.getElem_toArray, List.getElem_cons_zero, List.getElem_cons_succ, Act.put, List.setIfInBounds_toArray, List.set_cons_zero, List.set_cons_succ]
        refine wpAnyK_one (i := 1) (by kernel_rfl) rfl (fun K hK => ?_)
        (try simp only [List.getElem_toArray, List.getElem_cons_zero, List.getElem_cons_succ, Act.put, List.setIfInBounds_toArray, List.set_cons_zero, List.set_cons_succ])
        go_simp
        refine (HHd.out v0 HQ.out.1).mono ?_
        rintro e v1 ⟨rfl, hb⟩
        have Q1 : Hid (Rw23 v1 x g (some ⟨g', 0, none⟩) rc ⟨L, P⟩ ∧ Kp (fun k => k = x ∨ k = g) w v1) := ⟨HQ.out.1.below hb, HQ.out.2.trans (Kp.of_below (S := fun k => k = x ∨ k = g) hb) (fun _ _ h => h)⟩
        clear hb hHeld
        refine hK.out _ _ (fun _ => (two_c23 Q1.out.1.a).2) (fun hHeld0 => ?_)
        have hHeld := hHeld0 (by decide)
        clear hHeld0 hK K
        (try simp only [List.getElem_toArray, List.getElem_cons_zero, List.getElem_cons_succ, Act.put, List.setIfInBounds_toArray, List.set_cons_zero, List.set_cons_succ])
        clear hHeld
        refine wpAnyK_one (i := 6) (by kernel_rfl) rfl (fun K hK => ?_)
        (try simp only [List.getElem_toArray, List.getElem_cons_zero, List.getElem_cons_succ, Act.put, List.setIfInBounds_toArray, List.set_cons_zero, List.set_cons_succ])
        go_simp
        refine hK.out _ _ (fun _ => (two_c23 Q1.out.1.a).2) (fun _ => ?_)
        clear hK K
        refine wpAnyK_done (by kernel_rfl) ?_ _
        by_cases hc : P < U
        · have hmx : max P U = U := by omega
          rw [hmx] at HE
          clear hmx
          go_wp2_with fail
          refine (HHd.out v1 Q1.out.1).mono ?_
          rintro e v2 ⟨rfl, hb⟩
          have Q2 : Hid (Rw23 v2 x g (some ⟨g', 0, none⟩) rc ⟨L, P⟩ ∧ Kp (fun k => k = x ∨ k = g) w v2) := ⟨Q1.out.1.below hb, Q1.out.2.trans (Kp.of_below (S := fun k => k = x ∨ k = g) hb) (fun _ _ h => h)⟩
          have Q3 : Hid (Rw23 (v2.setCell ⟨x, 1, none⟩ (.int .i64 U)) x g (some ⟨g', 0, none⟩) rc ⟨L, U⟩ ∧ Kp (fun k => k = x ∨ k = g) v2 (v2.setCell ⟨x, 1, none⟩ (.int .i64 U)) ∧ v2.frozen? ⟨x, 1, none⟩ = false) := Q2.out.1.peak U
          have d1 := (two_c23 Q2.out.1.a).2
          have f1 := Q3.out.2.2
          clear hb
          go_wp2_with fail
          go_ret
          rw [HE.out.1, HE.out.2.1]
          exact ⟨rfl, Q3.out.1.rr HE.out.2.2, Q2.out.2.trans Q3.out.2.1 (fun _ _ h => h)⟩
        · have hmx : max P U = P := by omega
          rw [hmx] at HE
          clear hmx
          go_wp2_with fail
          go_ret
          rw [HE.out.1, HE.out.2.1]
          exact ⟨rfl, Q1.out.1.rr HE.out.2.2, Q1.out.2⟩
end Go.Proofs.Ytboangeopbblnaa
