
import Derived.Test.YtaipfcfmhdigfaaLzR6
namespace Go.Proofs.Ytaipfcfmhdigfaa
open Go.RowKit
set_option linter.unusedVariables false

/-! What the calls of package lz answer, in one form for the program and the document. -/
def xpd7 (win : Int) (l : List Tok7) : List Int := if (check7 win l).2 = 0 then exp7 [] l else []
def ExpQ (w : World) (R : List Int) (er : Int) (e : Ending) (w' : World) : Prop := ∃ oa oc, e = .returned (.tuple #[.slice oa R.length oc, .int .i64 er]) ∧ w'.ownsRow w.heap.size 5 1 (.slice oa R.length oc) R.length (R.map (Value.int .u8)) ∧ Below w.heap.size w w'
theorem rxpd7 (win : Int) (l : List Tok7) (a : Option Addr) (n cap : Nat) (hn : Hid (l.length = n)) (w : World) (hs : SegT w a l) (hl : n ≤ 1073741824) :
    Calls Try.prog 14 #[.int .i64 win, .slice a n cap] w (ExpQ w (xpd7 win l) (check7 win l).2) := by
  refine (rexp7 win l a n cap hn w hs hl).mono ?_
  rintro e w' (⟨h, rfl, hb⟩ | ⟨h, oa, oc, rfl, ho, hb⟩)
  · unfold ExpQ xpd7
    rw [if_neg h]
    exact ⟨none, 0, rfl, World.ownsRow_nil _ _ _ _, hb⟩
  · unfold ExpQ xpd7
    rw [if_pos h, h]
    exact ⟨oa, oc, rfl, ho, hb⟩
def best7 (D : List Int) (p win chain : Int) : Int × Int × Int :=
  if opt7 win chain ≠ 0 then (0, 0, 72) else if p < 0 ∨ (D.length : Int) ≤ p then (0, 0, 1) else (((bst7 D p.toNat win.toNat chain.toNat).1 : Int), ((bst7 D p.toNat win.toNat chain.toNat).2 : Int), 0)
theorem rbest7 (D : List Int) (a : Option Addr) (n cap : Nat) (p win chain : Int) (lazy : Bool) (hn : Hid (D.length = n)) (w : World) (hs : Seg w a D) (hl : n ≤ 1152921504606846976) :
    Calls Try.prog 29 #[.slice a n cap, .int .i64 p, look7 win chain lazy] w fun e w' => e = .returned (.tuple #[.int .i64 (best7 D p win chain).1, .int .i64 (best7 D p win chain).2.1, .int .i64 (best7 D p win chain).2.2]) ∧ Below w.heap.size w w' := by
  unfold best7
  by_cases ho : opt7 win chain = 0
  · rw [if_neg (by simpa using ho), hn.out]
    by_cases hp : p < 0 ∨ (n : Int) ≤ p
    · rw [if_pos hp]
      exact rbest7_arg D a n cap p win chain lazy w ho hp
    · rw [if_neg hp]
      obtain ⟨h1, h2, h3, h4⟩ := opt7_ok ho
      obtain ⟨P, rfl⟩ := Int.eq_ofNat_of_zero_le (show 0 ≤ p by omega)
      obtain ⟨W, rfl⟩ := Int.eq_ofNat_of_zero_le (show 0 ≤ win by omega)
      obtain ⟨C, rfl⟩ := Int.eq_ofNat_of_zero_le h3
      exact rbest7_ok D a n cap P W C lazy hn w hs (by omega) hl (by omega) (by omega) (by omega)
  · rw [if_pos ho]
    exact rbest7_no D a n cap p win chain lazy w ho
def parse7 (D : List Int) (win chain : Int) (lazy : Bool) : List Tok7 := if opt7 win chain = 0 then par7 D win.toNat chain.toNat lazy else []
def ParQ (w : World) (ty : TypeId) (T : List Tok7) (er : Int) (e : Ending) (w' : World) : Prop := ∃ oa oc, e = .returned (.tuple #[.slice oa T.length oc, .int .i64 er]) ∧ w'.ownsRow w.heap.size ty 3 (.slice oa T.length oc) T.length (flatT T) ∧ Below w.heap.size w w'
theorem rpar7 (D : List Int) (a : Option Addr) (n cap : Nat) (win chain : Int) (lazy : Bool) (hn : Hid (D.length = n)) (w : World) (hs : Seg w a D) (hl : n ≤ 4398046511104) :
    Calls Try.prog 23 #[.slice a n cap, look7 win chain lazy] w (ParQ w 73 (parse7 D win chain lazy) (opt7 win chain)) := by
  unfold parse7
  by_cases ho : opt7 win chain = 0
  · rw [if_pos ho, ho]
    obtain ⟨h1, h2, h3, h4⟩ := opt7_ok ho
    obtain ⟨W, rfl⟩ := Int.eq_ofNat_of_zero_le (show 0 ≤ win by omega)
    obtain ⟨C, rfl⟩ := Int.eq_ofNat_of_zero_le h3
    exact rparse7_ok D a n cap W C lazy hn w hs hl (by omega) (by omega) (by omega)
  · rw [if_neg ho, opt7_no ho]
    refine (rparse7_no a n cap win chain lazy w ho).mono ?_
    rintro e w' ⟨rfl, hb⟩
    exact ⟨none, 0, rfl, World.ownsRow_nil _ _ _ _, hb⟩
theorem parg7_fit (D : List Int) (W C : Nat) (lz : Bool) (hD : ∀ z ∈ D, 0 ≤ z ∧ z ≤ 255) (hl : D.length ≤ 1152921504606846976) : ∀ f p, ∀ t ∈ parg7 D W C lz f p, t.Fit
  | 0, p, t, h => by simp [parg7] at h
  | f + 1, p, t, h => by
    rw [parg7] at h
    by_cases hp : p < D.length
    · rw [if_pos hp] at h
      by_cases h0 : pick7 D W C lz p = 0
      · rw [if_pos h0] at h
        rcases List.mem_cons.1 h with rfl | h
        · have := getD_bd7 hD p
          exact ⟨this, by simp, by simp⟩
        · exact parg7_fit D W C lz hD hl f _ t h
      · rw [if_neg h0] at h
        rcases List.mem_cons.1 h with rfl | h
        · rcases pick7_mt D W C lz p with e | e
          · exact absurd e h0
          · have h1 := e.n258
            have h2 := e.dp
            refine ⟨by simp, ?_, ?_⟩ <;> simp only <;> omega
        · exact parg7_fit D W C lz hD hl f _ t h
    · rw [if_neg hp] at h
      simp at h
theorem parse7_fit {D : List Int} {win chain : Int} {lazy : Bool} (hD : ∀ z ∈ D, 0 ≤ z ∧ z ≤ 255) (hl : D.length ≤ 1152921504606846976) : ∀ t ∈ parse7 D win chain lazy, t.Fit := by
  unfold parse7
  split
  · exact parg7_fit D _ _ _ hD hl _ _
  · simp
theorem parse7_len {D : List Int} {win chain : Int} {lazy : Bool} : (parse7 D win chain lazy).length ≤ D.length := by
  unfold parse7
  split
  · rename_i h
    have h1 := opt7_ok h
    have := (Tz7.all (by omega) _ _ (par7_tz D win.toNat chain.toNat lazy)).2.2.2
    simpa using this
  · simp
end Go.Proofs.Ytaipfcfmhdigfaa
