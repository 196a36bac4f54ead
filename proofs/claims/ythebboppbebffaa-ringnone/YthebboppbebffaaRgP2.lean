
import Derived.Test.YthebboppbebffaaRgP1
namespace Go.Proofs.Ythebboppbebffaa
open Go.RowKit
set_option linter.unusedVariables false
variable {w w' : World} {b g S : Nat} {F Q : Nat → Prop} {L K : List Int}
theorem RPk.drew (h : RPk w b g S L K) : RPk w.drew b g S L K := ⟨h.hp, h.hk, h.rd, h.ne, h.bd, h.s1, h.s2⟩
theorem RPk.cell (h : RPk w b g S L K) (i : Nat) (hi : i < S) : w.cell? ⟨g, i, none⟩ = some (.int .u8 (K.getD i 0)) := by
  have := h.rd.len
  have hi' : i < K.length := by omega
  simp [World.cell?, h.hk, List.getD, hi']
theorem RPk.place_at (h : RPk w b g S L K) (d : Nat) (h1 : 1 ≤ d) (h2 : d ≤ heldN S L) : K.getD ((L.length - d) % S) 0 = L.getD (L.length - d) 0 := by
  have e1 : heldN S L ≤ L.length := by unfold heldN; omega
  have e2 : heldN S L ≤ S := by unfold heldN; omega
  exact h.rd.at_ _ (by omega) (by omega)
set_option maxRecDepth 100000 in
set_option maxHeartbeats 1000000 in
theorem pat_k (d : Int) (h : RPk w b g S L K) (hl : L.length ≤ 140737488355328) : Calls Try.prog 17 #[.pointer (some ⟨b, 0, none⟩), .int .i64 d] w fun e w' => e = .returned (.tuple #[.int .u8 (atV S L d), .int .i64 (atE S L d)]) ∧ Below w.heap.size w w' := by
  have CM := pmade h
  have CF := pfar d h
  by_cases hd : 1 ≤ d ∧ d ≤ (heldN S L : Int)
  · obtain ⟨D, rfl⟩ := Int.eq_ofNat_of_zero_le (show 0 ≤ d by omega)
    have HE : Hid (atE S L (D : Int) = 0 ∧ atV S L (D : Int) = K.getD ((L.length - D) % S) 0) := by
      refine ⟨by unfold atE; rw [if_pos hd], ?_⟩
      unfold atV
      rw [if_pos hd, h.place_at D (by omega) (by omega)]
      rfl
    have e1 : heldN S L ≤ L.length := by unfold heldN; omega
    have HP : Hid (∀ W, RPk W b g S L K → Calls Try.prog 33 #[.pointer (some ⟨b, 0, none⟩), .int .i64 (D : Int)] W fun e w' => e = .returned (.int .i64 (((L.length - D) % S : Nat) : Int)) ∧ Below W.heap.size W w') := fun W hW => pplace L.length D hW.c0 hW.c1 h.s1 h.s2 (by omega) hl
    have c0 := h.c0
    have hb := h.b_lt
    have hg := h.g_lt
    have hr : (L.length - D) % S < S := Nat.mod_lt _ h.s1
    obtain ⟨r, hr'⟩ : ∃ r, r = (L.length - D) % S := ⟨_, rfl⟩
    rw [← hr'] at hr HE HP
    have cr := h.cell r hr
    generalize K.getD r 0 = v at *
    have HD : Hid (RPk w.drew b g S L K) := h.drew
    have hri : (r : Int) < (S : Int) := by omega
    rw [HE.out.1] at CF
    have HT : Hid (atV S L (D : Int) = v) := HE.out.2
    have HT2 : Hid (atE S L (D : Int) = 0) := HE.out.1
    clear h HE e1 hl hr' hd
    generalize atV S L (D : Int) = aV at *
    generalize atE S L (D : Int) = aE at *
    go_enter Try.func17, Try.ntmps17
    go_wp2_with fail
    refine CM.mono ?_
    rintro e w1 ⟨rfl, rfl⟩
    go_wp2_with fail
    refine CF.mono ?_
    rintro e w1 ⟨rfl, rfl⟩
    go_wp2_with fail
    go_region_held3 (fun w' => w'.cell? ⟨b, 0, none⟩ = some (.slice (some ⟨g, 0, none⟩) S S) ∧ w'.cell? ⟨g, r, none⟩ = some (.int .u8 v))
      (first | go_keep | exact ⟨(bP.cell (p := ⟨b, 0, none⟩) hb).trans c0, (bP.cell (p := ⟨g, r, none⟩) hg).trans cr⟩)
      (first | (go_at_call 33; refine (HP.out _ (by exact HD.out)).mono ?_; rintro e wP ⟨rfl, bP⟩))
    all_goals
      go_wp2_with fail
      go_ret2
      exact ⟨by rw [HT.out, HT2.out]; rfl, (Below.refl _ _).drew.trans (show Below w1.heap.size w1.drew wP from bP)⟩
  · have HE : Hid (atE S L d = 61 ∧ atV S L d = 0) := by
      refine ⟨by unfold atE; rw [if_neg hd], by unfold atV; rw [if_neg hd]⟩
    rw [HE.out.1, HE.out.2]
    rw [HE.out.1] at CF
    clear h hd HE
    go_enter Try.func17, Try.ntmps17
    go_wp2_with fail
    refine CM.mono ?_
    rintro e w1 ⟨rfl, rfl⟩
    go_wp2_with fail
    refine CF.mono ?_
    rintro e w1 ⟨rfl, rfl⟩
    go_wp2_with fail
    go_ret2
    exact ⟨rfl, Below.refl _ _⟩

/-! 'copy(dst, src)', dst in a row of bytes that is known whole. -/
theorem splice_map {α β : Type} (f : α → β) (L : List α) (off : Nat) (cs : List α) : splice (L.map f) off (cs.map f) = (splice L off cs).map f := by
  simp [splice, List.map_take, List.map_drop]
theorem splice_getD (X : List Int) (off : Nat) (cs : List Int) (h : off + cs.length ≤ X.length) (i : Nat) :
    (splice X off cs).getD i 0 = if off ≤ i ∧ i < off + cs.length then cs.getD (i - off) 0 else X.getD i 0 := by
  unfold splice
  have hm : min off X.length = off := by omega
  by_cases h1 : i < off
  · rw [if_neg (by omega)]
    have h4 : i < X.length := by omega
    simp [List.getD, List.getElem?_append, hm, h1, h4]
  · by_cases h2 : i < off + cs.length
    · rw [if_pos (by omega)]
      have h3 : i - off < cs.length := by omega
      simp [List.getD, List.getElem?_append, hm, h1, h3]
    · rw [if_neg (by omega)]
      have h3 : ¬ i - off < cs.length := by omega
      simp [List.getD, List.getElem?_append, hm, h1, h3, List.getElem?_drop]
      congr 2
      omega
theorem splice_mem {X cs : List Int} {off : Nat} {z : Int} (h : z ∈ splice X off cs) : z ∈ X ∨ z ∈ cs := by
  unfold splice at h
  rcases List.mem_append.1 h with h | h
  · exact .inl (List.mem_of_mem_take h)
  · rcases List.mem_append.1 h with h | h
    · exact .inr h
    · exact .inl (List.mem_of_mem_drop h)
theorem Kp.setRow {Q : Nat → Prop} {g : Nat} (hg : Q g) (w : World) (cs : Array Value) : Kp Q w (w.setRow g cs) :=
  ⟨rfl, rfl, rfl, by simp [World.setRow], fun k hk hn => setRow_other w g k cs (fun e => hn (e ▸ hg))⟩
theorem run_copy6 {P : Program} {w : World} (dT sT ty elem : TypeId) (hu : P.underlying dT = some (.slice elem)) (hsz : (P.info? elem).map (·.size) = some 1)
    (dp sp : Option Addr) (dLen dCap sLen sCap : Nat) (g off : Nat) (X : List Int) (t : TypeId) (hg : w.heap[g]? = some (.cells (X.map (Value.int .u8)).toArray t (0, 0))) (cs : List Int) (hn : cs.length = Nat.min sLen dLen)
    (hpos : 0 < cs.length → dp = some ⟨g, off, none⟩ ∧ Seg w sp cs) (hfit : off + cs.length ≤ X.length) :
    ∃ w', (Builtin.copy_ #[dT, sT] ty #[.slice dp dLen dCap, .slice sp sLen sCap]).run P w = .ok (.int .i64 (cs.length : Int)) w' ∧ w'.heap[g]? = some (.cells ((splice X off cs).map (Value.int .u8)).toArray t (0, 0)) ∧ Kp (fun k => k = g) w w' := by
  by_cases h0 : cs.length = 0
  · obtain rfl : cs = [] := List.eq_nil_of_length_eq_zero h0
    refine ⟨w, ?_, ?_, Kp.refl _ _⟩
    · exact run_copy_none (P := P) w dT sT ty elem dp sp dLen dCap sLen sCap hu hsz (by simpa using hn.symm)
    · simpa [splice] using hg
  · obtain ⟨rfl, hs⟩ := hpos (by omega)
    obtain ⟨sg, soff, rfl, _⟩ := hs.at_ 0 (by omega)
    have hrun := run_copy_row P w dT sT ty elem g off dLen dCap ⟨sg, soff, none⟩ sLen sCap _ t (cs.map (Value.int .u8)) hu hsz hg (by simpa using hn) (seg_cells hs) (by simpa using hfit) (ints_oneCell _ _)
    refine ⟨_, by simpa [goInt] using hrun, ?_, Kp.setRow (Q := fun k => k = g) rfl _ _⟩
    rw [setRow_heap w g _ _ t _ hg, ← splice_map]
    simp [splice]
theorem step_copy6 {P : Program} {ops : Array Oper} {o : Oper} {a : Act} {w : World} {K : Act → World → Prop} {Q : Exit → Act → World → Prop} {E : Prop} (hgd : o.guard = none) (d s : Operand) (dT sT : TypeId)
    (ho : o.op = .call { callee := .builtin .copy, args := #[d, s], argTypes := #[dT, sT] }) (elem : TypeId) (hu : P.underlying dT = some (.slice elem)) (hsz : (P.info? elem).map (·.size) = some 1)
    {dp sp : Option Addr} {dLen dCap sLen sCap : Nat} (hd : a.eval d = .slice dp dLen dCap) (hs : a.eval s = .slice sp sLen sCap)
    (g off : Nat) (X : List Int) (t : TypeId) (hg : w.heap[g]? = some (.cells (X.map (Value.int .u8)).toArray t (0, 0))) (cs : List Int) (m : Nat) (hm : cs.length = m) (hn : m = Nat.min sLen dLen)
    (hpos : 0 < cs.length → dp = some ⟨g, off, none⟩ ∧ Seg w sp cs) (hfit : off + m ≤ X.length)
    (h : ∀ w', Hid (w'.heap[g]? = some (.cells ((splice X off cs).map (Value.int .u8)).toArray t (0, 0))) → Kp (fun k => k = g) w w' → K (a.put o.dst (.int .i64 (m : Int))) w') :
    if Region.wanted o (yielded ops a.tmps) = true then Oper.wp P o a w K Q else E := by
  have hw : Region.wanted o (yielded ops a.tmps) = true := by simp [Region.wanted, hgd]
  rw [if_pos hw]
  subst hm
  obtain ⟨w', hrun, h1, h2⟩ := run_copy6 (P := P) (w := w) dT sT o.type elem hu hsz dp sp dLen dCap sLen sCap g off X t hg cs hn hpos hfit
  unfold Oper.wp
  simp [execOp, ho, resolve, invoke, builtin, hd, hs, hrun, Result.andThen]
  exact h w' h1 h2
end Go.Proofs.Ythebboppbebffaa
