import Derived.Test.YtmojfdccobebfaaGreatDoorPu
import Derived.Laws.MakeOwn
namespace Go.Proofs.YtmojfdccobebfaaGreatDoor
open Go.RowKit
set_option linter.unusedVariables false

/-! What the calls of package lz answer, in one form for the program and the document. -/
def xpd7 (win : Int) (l : List Tok7) : List Int := if (check7 win l).2 = 0 then exp7 [] l else []
def ExpQ (w : World) (R : List Int) (er : Int) (e : Ending) (w' : World) : Prop := ∃ oa oc, e = .returned (.tuple #[.slice oa R.length oc, .int .i64 er]) ∧ w'.ownsRow w.heap.size 5 1 (.slice oa R.length oc) R.length (R.map (Value.int .u8)) ∧ Below w.heap.size w w'
def best7 (D : List Int) (p win chain : Int) : Int × Int × Int :=
  if opt7 win chain ≠ 0 then (0, 0, 72) else if p < 0 ∨ (D.length : Int) ≤ p then (0, 0, 1) else (((bst7 D p.toNat win.toNat chain.toNat).1 : Int), ((bst7 D p.toNat win.toNat chain.toNat).2 : Int), 0)
def parse7 (D : List Int) (win chain : Int) (lazy : Bool) : List Tok7 := if opt7 win chain = 0 then par7 D win.toNat chain.toNat lazy else []
def ParQ (w : World) (ty : TypeId) (T : List Tok7) (er : Int) (e : Ending) (w' : World) : Prop := ∃ oa oc, e = .returned (.tuple #[.slice oa T.length oc, .int .i64 er]) ∧ w'.ownsRow w.heap.size ty 3 (.slice oa T.length oc) T.length (flatT T) ∧ Below w.heap.size w w'
theorem parg7_fit (D : List Int) (W C : Nat) (lz : Bool) (hD : ∀ z ∈ D, 0 ≤ z ∧ z ≤ 255) (hl : D.length ≤ 1152921504606846976) : ∀ f p, ∀ t ∈ parg7 D W C lz f p, t.Fit
  | 0, p, t, h => by simp [parg7] at h
  | f + 1, p, t, h => by
    rw [parg7] at h
    by_cases hp : p < D.length
    · rw [if_pos hp] at h
      by_cases h0 : pick7 D W C lz p = 0
      · rw [if_pos h0] at h
        rcases List.mem_cons.1 h with rfl | h
        · have := getD_bd7 hD p
          exact ⟨this, by simp, by simp⟩
        · exact parg7_fit D W C lz hD hl f _ t h
      · rw [if_neg h0] at h
        rcases List.mem_cons.1 h with rfl | h
        · rcases pick7_mt D W C lz p with e | e
          · exact absurd e h0
          · have h1 := e.n258
            have h2 := e.dp
            refine ⟨by simp, ?_, ?_⟩ <;> simp only <;> omega
        · exact parg7_fit D W C lz hD hl f _ t h
    · rw [if_neg hp] at h
      simp at h
theorem parse7_fit {D : List Int} {win chain : Int} {lazy : Bool} (hD : ∀ z ∈ D, 0 ≤ z ∧ z ≤ 255) (hl : D.length ≤ 1152921504606846976) : ∀ t ∈ parse7 D win chain lazy, t.Fit := by
  unfold parse7
  split
  · exact parg7_fit D _ _ _ hD hl _ _
  · simp
theorem parse7_len {D : List Int} {win chain : Int} {lazy : Bool} : (parse7 D win chain lazy).length ≤ D.length := by
  unfold parse7
  split
  · rename_i h
    have h1 := opt7_ok h
    have := (Tz7.all (by omega) _ _ (par7_tz D win.toNat chain.toNat lazy)).2.2.2
    simpa using this
  · simp
end Go.Proofs.YtmojfdccobebfaaGreatDoor

namespace Go.Proofs.YtmojfdccobebfaaGreatDoor
open Go.RowKit
set_option linter.unusedVariables false

/-! The landed lz: length, Check, Size, Expand, Options. -/
theorem boxK {w wA : World} {t : Tok7} (hA : wA = w.alloc (.cells #[.int .u8 t.lit, .int .i64 t.len, .int .i64 t.dist] 149)) : TkAt wA w.heap.size 0 t := by
  have h : wA.heap[w.heap.size]? = some (.cells #[.int .u8 t.lit, .int .i64 t.len, .int .i64 t.dist] 149 (0, 0)) := by rw [hA]; exact heap_alloc_new w _
  refine ⟨?_, ?_, ?_⟩ <;> simp [World.cell?, h]
set_option maxRecDepth 100000 in
set_option maxHeartbeats 2000000 in
theorem plen7 (t : Tok7) (w : World) : Calls Tryz.prog 124 #[t.val] w fun e w' => e = .returned (.int .i64 (wid7 t : Int)) ∧ Below w.heap.size w w' := by
  obtain ⟨z, n, d⟩ := t
  unfold Tok7.val
  simp only
  by_cases h0 : n = 0
  · subst h0
    by_cases h1 : d = 0
    · have HM : Hid (wid7 ⟨z, 0, d⟩ = 1) := by show _ = _; simp [wid7, may7, h1]
      rw [HM.out]
      subst h1
      go_enter Tryz.func124, Tryz.ntmps124
      go_wp2_with fail
      go_ret
      exact ⟨rfl, below_box _ _⟩
    · have HM : Hid (wid7 ⟨z, 0, d⟩ = 0) := by show _ = _; simp [wid7, may7, h1]
      rw [HM.out]
      go_enter Tryz.func124, Tryz.ntmps124
      go_wp2_with fail
      go_ret
      exact ⟨rfl, below_box _ _⟩
  · have hm : may7 ⟨z, n, d⟩ ↔ (3 ≤ n ∧ n ≤ 258 ∧ 1 ≤ d ∧ d ≤ 32768 ∧ z = 0) := by unfold may7; simp only; rw [if_neg h0]
    have hno : ¬ may7 ⟨z, n, d⟩ → wid7 ⟨z, n, d⟩ = 0 := fun h => by unfold wid7; rw [if_neg h]
    have hF : may7 ⟨z, n, d⟩ → (wid7 ⟨z, n, d⟩ : Int) = n := fun h1 => by
      unfold wid7
      simp only
      rw [if_pos h1, if_neg h0]
      have := hm.1 h1
      omega
    by_cases h1 : 3 ≤ n
    · by_cases h2 : n ≤ 258
      · by_cases h3 : 1 ≤ d
        · by_cases h4 : d ≤ 32768
          · by_cases h5 : z = 0
            · have HM : Hid ((wid7 ⟨z, n, d⟩ : Int) = n) := hF (hm.2 ⟨h1, h2, h3, h4, h5⟩)
              rw [HM.out]
              subst h5
              clear hm hno hF HM
              go_enter Tryz.func124, Tryz.ntmps124
              go_wp2_with fail
              go_ret
              exact ⟨rfl, below_box _ _⟩
            · have HM : Hid (wid7 ⟨z, n, d⟩ = 0) := hno (by simp [hm, h5])
              rw [HM.out]
              clear hm hno hF HM
              have hz9 : (z != 0) = true := by simp [h5]
              go_enter Tryz.func124, Tryz.ntmps124
              go_wp2_with fail
              go_ret
              exact ⟨rfl, below_box _ _⟩
          · have HM : Hid (wid7 ⟨z, n, d⟩ = 0) := hno (by simp [hm, h4])
            rw [HM.out]
            clear hm hno hF HM
            go_enter Tryz.func124, Tryz.ntmps124
            go_wp2_with fail
            go_ret
            exact ⟨rfl, below_box _ _⟩
        · have HM : Hid (wid7 ⟨z, n, d⟩ = 0) := hno (by simp [hm, h3])
          rw [HM.out]
          clear hm hno hF HM
          go_enter Tryz.func124, Tryz.ntmps124
          go_wp2_with fail
          go_ret
          exact ⟨rfl, below_box _ _⟩
      · have HM : Hid (wid7 ⟨z, n, d⟩ = 0) := hno (by simp [hm, h2])
        rw [HM.out]
        clear hm hno hF HM
        go_enter Tryz.func124, Tryz.ntmps124
        go_wp2_with fail
        go_ret
        exact ⟨rfl, below_box _ _⟩
    · have HM : Hid (wid7 ⟨z, n, d⟩ = 0) := hno (by simp [hm, h1])
      rw [HM.out]
      clear hm hno hF HM
      go_enter Tryz.func124, Tryz.ntmps124
      go_wp2_with fail
      go_ret
      exact ⟨rfl, below_box _ _⟩
theorem wid7_zero {t : Tok7} (h : wid7 t = 0) : ¬ may7 t := by
  intro hm
  unfold wid7 at h
  rw [if_pos hm] at h
  split at h
  · omega
  · rename_i h0
    unfold may7 at hm
    rw [if_neg h0] at hm
    omega
theorem wid7_pos {t : Tok7} (h : wid7 t ≠ 0) : may7 t := by
  unfold wid7 at h
  by_cases hm : may7 t
  · exact hm
  · rw [if_neg hm] at h; exact absurd rfl h
theorem far7_iff {win : Int} {tot : Nat} {t : Tok7} (h : may7 t) (hw : 1 ≤ win) : far7 win tot t ↔ (win < t.dist ∨ (tot : Int) < t.dist) := by
  unfold far7
  unfold may7 at h
  by_cases h0 : t.len = 0
  · rw [if_pos h0] at h; omega
  · rw [if_neg h0] at h; omega
end Go.Proofs.YtmojfdccobebfaaGreatDoor

namespace Go.Proofs.YtmojfdccobebfaaGreatDoor
open Go.RowKit
set_option linter.unusedVariables false

set_option maxRecDepth 100000 in
set_option maxHeartbeats 1000000 in
theorem popt7 (win chain : Int) (lazy : Bool) (w : World) : Calls Tryz.prog 73 #[look7 win chain lazy] w fun e w' => e = .returned (.int .i64 (opt7 win chain)) ∧ Below w.heap.size w w' := by
  unfold look7
  by_cases h1 : win < 1
  · have HE : opt7 win chain = 72 := by unfold opt7; rw [if_pos (.inl h1)]
    rw [HE]
    go_enter Tryz.func73, Tryz.ntmps73
    go_wp2_with fail
    go_ret
    exact ⟨rfl, below_box _ _⟩
  · by_cases h2 : 32768 < win
    · have HE : opt7 win chain = 72 := by unfold opt7; rw [if_pos (.inr (.inl h2))]
      rw [HE]
      go_enter Tryz.func73, Tryz.ntmps73
      go_wp2_with fail
      go_ret
      exact ⟨rfl, below_box _ _⟩
    · by_cases h3 : chain < 0
      · have HE : opt7 win chain = 72 := by unfold opt7; rw [if_pos (.inr (.inr (.inl h3)))]
        rw [HE]
        go_enter Tryz.func73, Tryz.ntmps73
        go_wp2_with fail
        go_ret
        exact ⟨rfl, below_box _ _⟩
      · by_cases h4 : 4096 < chain
        · have HE : opt7 win chain = 72 := by unfold opt7; rw [if_pos (.inr (.inr (.inr h4)))]
          rw [HE]
          go_enter Tryz.func73, Tryz.ntmps73
          go_wp2_with fail
          go_ret
          exact ⟨rfl, below_box _ _⟩
        · have HE : opt7 win chain = 0 := by unfold opt7; rw [if_neg (by omega)]
          rw [HE]
          go_enter Tryz.func73, Tryz.ntmps73
          go_wp2_with fail
          go_ret
          exact ⟨rfl, below_box _ _⟩
set_option maxRecDepth 100000 in
set_option maxHeartbeats 1000000 in
theorem psiz7 (l : List Tok7) (a : Option Addr) (n cap : Nat) (hn : Hid (l.length = n)) (w : World) (hs : SegT w a l) (hcap : n ≤ cap) (hnil : a = none → cap = 0) (hl : n ≤ 1073741824) :
    Calls Tryz.prog 118 #[.slice a n cap] w fun e w' => e = .returned (.int .i64 (siz7 l : Int)) ∧ Below w.heap.size w w' := by
  go_enter Tryz.func118, Tryz.ntmps118
  go_wp2_with fail
  go_loopw [3, 8] (fun tt ti wr => ∃ i tot : Nat, i ≤ n ∧ ti = .int .i64 (i : Int) ∧ tt = .int .i64 (tot : Int) ∧ tot ≤ 258 * i ∧ Hid (siz7 l = tot + siz7 (l.drop i)) ∧ Below w.heap.size w wr) (fun _ ti _ => n - (intOf ti).toNat)
  case atStart => exact ⟨0, 0, by omega, rfl, rfl, by omega, (show _ = _ by simp), Below.refl _ _⟩
  case round =>
    obtain ⟨i, tot, hi, rfl, rfl, htot, HC, BR⟩ := hrel
    by_cases hin : i < n
    · have hii : (i : Int) < (n : Int) := by omega
      have hil : i < l.length := by rw [hn.out]; exact hin
      have hD : l.drop i = l.getD i tk0 :: l.drop (i + 1) := dropT hil
      obtain ⟨b, off, rfl, hT⟩ := (hs.old BR).at_ i hil
      rw [hD, siz7] at HC
      have hw := wid7_le (l.getD i tk0)
      have CW := plen7 (l.getD i tk0)
      generalize l.getD i tk0 = t at *
      obtain ⟨wA, hwA⟩ : ∃ wA, wA = wr.alloc (.cells #[.int .u8 t.lit, .int .i64 t.len, .int .i64 t.dist] 149) := ⟨_, rfl⟩
      have bA : Below wr.heap.size wr wA := by rw [hwA]; exact below_box _ _
      have HWA : Hid (wA = wr.alloc (.cells #[.int .u8 t.lit, .int .i64 t.len, .int .i64 t.dist] 149)) := hwA
      have BA : Below w.heap.size w wA := BR.trans (bA.mono BR.size)
      have hc0 := hT.c0
      have hc1 := hT.c1
      have hc2 := hT.c2
      have CWA : Hid (∀ W, Calls Tryz.prog 124 #[t.val] W fun e w' => e = .returned (.int .i64 (wid7 t : Int)) ∧ Below W.heap.size W w') := CW
      obtain ⟨t2, ht2⟩ : ∃ t2, t2 = tot + wid7 t := ⟨_, rfl⟩
      have hwt : IntKind.i64.wrap ((tot : Int) + (wid7 t : Int)) = (t2 : Int) := by rw [IntWalk.i64_in _ (by omega)]; omega
      have HC2 : Hid (siz7 l = t2 + siz7 (l.drop (i + 1))) := by have := HC.out; show _ = _; omega
      have ht3 : t2 ≤ 258 * (i + 1) := by omega
      clear hwA hD CW hT ht2 HC
      obtain ⟨z, ln, ds⟩ := t
      unfold Tok7.val at CWA
      simp only at hc0 hc1 hc2 CWA HWA
      generalize wid7 ⟨z, ln, ds⟩ = W at *
      go_wp2_with fail
      rw [← HWA.out]
      refine (CWA.out wA).mono ?_
      rintro e w2 ⟨rfl, b2⟩
      have B2 := BA.trans (b2.mono BA.size)
      go_wp2_with fail
      go_roundw
      case rel => exact ⟨i + 1, t2, by omega, by go_num, rfl, ht3, HC2, B2⟩
      case measure => simp [intOf]; omega
    · have hge : ¬ (i : Int) < (n : Int) := by omega
      have HE : Hid (siz7 l = tot) := by
        show _ = _
        rw [HC.out, List.drop_of_length_le (by rw [hn.out]; omega)]
        rfl
      clear HC
      go_wp2_with fail
      go_ret
      exact ⟨by rw [HE.out]; rfl, BR⟩
end Go.Proofs.YtmojfdccobebfaaGreatDoor
