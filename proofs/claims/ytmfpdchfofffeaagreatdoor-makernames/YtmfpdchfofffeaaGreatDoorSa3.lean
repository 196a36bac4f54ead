import Derived.Test.YtmfpdchfofffeaaGreatDoorSa2
namespace Go.Proofs.YtmfpdchfofffeaaGreatDoor
open Go.RowKit
set_option linter.unusedVariables false
def nz12 (l : List Nat) : List Int := l.map (fun j : Nat => (j : Int))
theorem nz12_len (l : List Nat) : (nz12 l).length = l.length := by simp [nz12]
theorem nz12_get (l : List Nat) (i d : Nat) (h : i < l.length) : (nz12 l).getD i 0 = ((l.getD i d : Nat) : Int) := by simp [nz12, List.getD, h]
def tu12 (f : Nat → Bool) (k : Nat) : List Nat := (List.range k).filter (tb12 f)
theorem tu12_succ (f : Nat → Bool) (k : Nat) : tu12 f (k + 1) = if tb12 f k = true then tu12 f k ++ [k] else tu12 f k := by
  unfold tu12
  rw [List.range_succ, List.filter_append]
  by_cases h : tb12 f k = true
  · simp [h]
  · simp [h]
theorem tu12_le (f : Nat → Bool) (k : Nat) : (tu12 f k).length ≤ k := by
  have := List.length_filter_le (tb12 f) (List.range k)
  simpa [tu12] using this
/-- A row of numbers that a call has made and answers. -/
def AnsZ12 (w : World) (A : List Int) (e : Ending) (w' : World) : Prop := ∃ ra rc, e = .returned (.slice ra A.length rc) ∧ w'.ownsRow w.heap.size 3 1 (.slice ra A.length rc) A.length (A.map (Value.int .i64)) ∧ Below w.heap.size w w'
set_option maxRecDepth 100000 in
set_option maxHeartbeats 1000000 in
theorem ptns12 (a : Option Addr) (L : List Bool) (n cap : Nat) (w : World) (hs : SegB w a L) (hn : Hid (L.length = n)) (hb : n ≤ 17592186044416) :
    Calls Tryz.prog 197 #[.slice a n cap] w (AnsZ12 w (nz12 (tu12 (gb12 L) n))) := by
  obtain ⟨i0, hi, hz0, hz1, hz2⟩ := info_parts info_i12
  go_enter Tryz.func197, Tryz.ntmps197
  go_wp2
  go_loopw [3, 7] (fun to ti wr => ∃ (k m rc : Nat) (ra : Option Addr), k ≤ n ∧ ti = .int .i64 k ∧ to = .slice ra m rc ∧ Hid ((tu12 (gb12 L) k).length = m) ∧ wr.ownsRow w.heap.size 3 1 (.slice ra m rc) m ((nz12 (tu12 (gb12 L) k)).map (Value.int .i64)) ∧ Below w.heap.size w wr) (fun _ ti _ => n - (intOf ti).toNat)
  case atStart => exact ⟨0, 0, 0, none, Nat.zero_le _, rfl, rfl, (by simp [tu12] : _ = _), World.ownsRow_nil _ _ _ _, Below.refl _ _⟩
  case round =>
    obtain ⟨k, m, rc, ra, hk, rfl, rfl, HM, hown, hb2⟩ := hrel
    have hsz : w.heap.size ≤ wr.heap.size := hb2.size
    have hmk : m ≤ k := by rw [← HM.out]; exact tu12_le _ _
    by_cases h1 : k < n
    · have h1i : (k : Int) < (n : Int) := by omega
      have HC := pist12 a L n cap k wr (hs.old hb2) hn h1 (by omega)
      have HS : Hid (tu12 (gb12 L) (k + 1) = if tb12 (gb12 L) k = true then tu12 (gb12 L) k ++ [k] else tu12 (gb12 L) k) := tu12_succ _ k
      generalize tb12 (gb12 L) k = t at *
      generalize tu12 (gb12 L) k = T at *
      cases t
      · go_wp2_with (first | (go_at_call 226; refine HC.mono ?_; rintro e1 w1 ⟨rfl, B1⟩))
        go_roundw
        case rel => exact ⟨k + 1, m, rc, ra, by omega, by go_num, rfl, (by rw [HS.out]; exact HM.out : _ = _), by rw [HS.out]; exact own_below hown B1, hb2.trans (B1.mono hsz)⟩
        case measure => simp [intOf]; omega
      · have hown2 : ∀ w1, Below wr.heap.size wr w1 → w1.ownsRow w.heap.size 3 1 (.slice ra m rc) m ((nz12 T).map (Value.int .i64)) := fun w1 B1 => own_below hown B1
        go_wp2_with (first
          | (go_at_call 226; refine HC.mono ?_; rintro e1 w1 ⟨rfl, B1⟩; have OX := hown2 w1 B1; have hsz1 : w.heap.size ≤ w1.heap.size := Nat.le_trans hsz B1.size)
          | (at_builtin; refine wpList_ap12 rfl (.tmp 13) (.tmp 15) 95 rfl w.heap.size 3 i0 (.int .i64 0) 8 Tryz.underlying95 hi hz0 hz1 hz2 rfl w1 _ OX rfl rfl (by omega) (by omega) hsz1 ?_; intro ga gc w3 own3 hk3 hat3))
        have B3 : Below w.heap.size w w3 := (hb2.trans (B1.mono hsz)).trans (hk3.below (fun q e => (OX.lt q e).1) hsz1)
        go_roundw
        case rel => exact ⟨k + 1, m + 1, gc, some ⟨ga, 0, none⟩, by omega, by go_num, rfl, (by rw [HS.out]; simp [HM.out] : _ = _), by rw [HS.out]; simpa [nz12] using own3, B3⟩
        case measure => simp [intOf]; omega
    · have h1i : ¬ (k : Int) < (n : Int) := by omega
      obtain rfl : k = n := by omega
      go_wp2
      go_ret
      refine ⟨ra, rc, ?_, ?_, hb2⟩
      · (try rw [nz12_len]); rw [HM.out]; rfl
      · (try rw [nz12_len]); rw [HM.out]; exact hown
end Go.Proofs.YtmfpdchfofffeaaGreatDoor
