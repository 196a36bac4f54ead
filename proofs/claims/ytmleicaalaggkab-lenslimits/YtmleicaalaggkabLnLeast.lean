import Derived.Test.YtmleicaalaggkabLnJoin
import Derived.Test.YtmleicaalaggkabLnRef
namespace Go.Proofs.Ytmleicaalaggkab
open Go.RowKit
set_option linter.unusedVariables false

/-- The counts in use. -/
def usedZ (zs : List Int) : List Int := zs.filter (fun z => decide (z ≠ 0))
def srt : List Nat → List Nat
  | [] => []
  | x :: r => ins x (srt r)
theorem srt_perm : ∀ l : List Nat, (srt l).Perm l
  | [] => List.Perm.refl _
  | x :: r => (ins_perm x (srt r)).trans ((srt_perm r).cons x)
theorem srt_sorted : ∀ l : List Nat, (srt l).Pairwise (· ≤ ·)
  | [] => List.Pairwise.nil
  | x :: r => ins_sorted x _ (srt_sorted r)
def wts (zs : List Int) : List Nat := srt ((usedZ zs).map Int.toNat)
/-- What Huffman's way comes to. -/
def leastV (zs : List Int) : Int := if (usedZ zs).length = 1 then (usedZ zs).getD 0 0 else ((huf (usedZ zs).length (wts zs) : Nat) : Int)
def leastOf (zs : List Int) : Int := if errOf zs = 0 then leastV zs else 0
theorem used_len (zs : List Int) : (usedZ zs).length ≤ zs.length := List.length_filter_le _ _
theorem used_bd {zs : List Int} (h : ∀ i, 0 ≤ zs.getD i 0 ∧ zs.getD i 0 ≤ 1099511627776) : ∀ z ∈ usedZ zs, 0 < z ∧ z ≤ 1099511627776 := by
  intro z hz
  obtain ⟨h1, h2⟩ := List.mem_filter.1 hz
  obtain ⟨i, hi, rfl⟩ := List.mem_iff_getElem.1 h1
  have := h i
  simp only [List.getD, List.getElem?_eq_getElem hi, Option.getD_some] at this
  simp at h2
  omega
theorem toI_toNat {l : List Int} (h : ∀ z ∈ l, 0 < z ∧ z ≤ 1099511627776) : toI (l.map Int.toNat) = l := by
  unfold toI
  rw [List.map_map]
  conv => rhs; rw [← List.map_id l]
  apply List.map_congr_left
  intro z hz
  have := h z hz
  simp
  omega
theorem sum_le_mul (l : List Nat) (M : Nat) (h : ∀ x ∈ l, x ≤ M) : l.sum ≤ l.length * M := by
  induction l with
  | nil => simp
  | cons x r ih =>
    have h1 := ih (fun y hy => h y (by simp [hy]))
    have h2 := h x (by simp)
    simp only [List.sum_cons, List.length_cons, Nat.succ_mul]
    omega
/-- What is wanted of the weights. -/
theorem wts_facts {zs : List Int} (he : errOf zs = 0) : (usedZ zs).Perm (toI (wts zs)) ∧ (wts zs).Pairwise (· ≤ ·) ∧ (∀ x ∈ wts zs, 0 < x) ∧ (wts zs).sum ≤ 1125899906842624 := by
  obtain ⟨h288, hb⟩ := errOf_zero he
  have hu := used_bd hb
  have hp : (wts zs).Perm ((usedZ zs).map Int.toNat) := srt_perm _
  refine ⟨?_, srt_sorted _, ?_, ?_⟩
  · have h1 : (toI (wts zs)).Perm (toI ((usedZ zs).map Int.toNat)) := hp.map _
    rw [toI_toNat hu] at h1
    exact h1.symm
  · intro x hx
    obtain ⟨z, hz, rfl⟩ := List.mem_map.1 (hp.mem_iff.1 hx)
    have := hu z hz
    omega
  · rw [hp.sum_nat]
    have h1 := sum_le_mul ((usedZ zs).map Int.toNat) 1099511627776 (by
      intro x hx
      obtain ⟨z, hz, rfl⟩ := List.mem_map.1 hx
      have := hu z hz
      omega)
    have h2 := used_len zs
    rw [List.length_map] at h1
    have : (usedZ zs).length * 1099511627776 ≤ 288 * 1099511627776 := Nat.mul_le_mul_right _ (by omega)
    omega
theorem used_snoc {zs : List Int} {k : Nat} (hk : k < zs.length) : usedZ (zs.take (k + 1)) = usedZ (zs.take k) ++ (if zs.getD k 0 = 0 then [] else [zs.getD k 0]) := by
  rw [take_snocZ hk]
  unfold usedZ
  rw [List.filter_append]
  congr 1
  by_cases h : zs.getD k 0 = 0
  · rw [if_pos h, h]; rfl
  · rw [if_neg h, List.filter_cons, if_pos (decide_eq_true h), List.filter_nil]

set_option maxHeartbeats 2000000 in
theorem least_fn (a : Option Addr) (zs : List Int) (n cap : Nat) (hn : Hid (zs.length = n)) (w : World) (hs : SegZ w a zs) (hl : n ≤ 9223372036854775807) :
    Calls Try.prog 8 #[.slice a n cap] w fun e w' => e = .returned (.tuple #[.int .i64 (leastOf zs), .int .i64 (errOf zs)]) ∧ Below w.heap.size w w' := by
  by_cases he : errOf zs = 0
  · obtain ⟨h288, hbx⟩ := errOf_zero he
    obtain ⟨hf1, hf2, hf3, hf4⟩ := wts_facts he
    have hn288 : n ≤ 288 := by have := hn.out; omega
    have HR : Hid (leastOf zs = leastV zs ∧ errOf zs = 0) := ⟨by simp [leastOf, he], he⟩
    have HC : Hid (∀ W, SegZ W a zs → Calls Try.prog 12 #[.slice a n cap] W fun e w' => e = .returned (.int .i64 0) ∧ w' = W) := fun W hW => by
      have := refusal_any a zs cap W hW (by have := hn.out; omega)
      rw [he, hn.out] at this
      exact this
    clear he h288
    obtain ⟨i0, hi, hz0, hz1, hz2⟩ := info_parts info_int
    go_enter Try.func8, Try.ntmps8
    go_wp2_with fail
    refine (HC.out _ hs).mono ?_
    rintro e w' ⟨rfl, hw'⟩
    subst w'
    obtain ⟨p, hp⟩ : ∃ p, p = w.heap.size := ⟨_, rfl⟩
    have P0 : Pile (w.alloc (.cells #[.slice none 0 0] 44)) p none 0 [] := by
      refine ⟨?_, World.ownsRow_nil _ _ _ _, by simp⟩
      rw [hp]
      exact heap_alloc_new w _
    have B0 : Below p w (w.alloc (.cells #[.slice none 0 0] 44)) := (Below.refl _ _).alloc (by omega) _
    go_wp2_with fail
    rw [← hp]
    have HPP : Hid (p = w.heap.size) := hp
    clear hp
    generalize w.alloc (.cells #[.slice none 0 0] 44) = w1 at *
    go_loopw [15] (fun ti wr => ∃ (k : Nat) (a1 : Option Addr) (c1 : Nat) (L : List Int), k ≤ n ∧ ti = .int .i64 k ∧ L.length ≤ k ∧ Pile wr p a1 c1 L ∧ Below p w wr ∧ Hid (L = usedZ (zs.take k))) (fun ti _ => n - (intOf ti).toNat)
    case atStart => exact ⟨0, none, 0, [], Nat.zero_le _, rfl, Nat.le_refl _, P0, B0, (by simp [usedZ] : _ = _)⟩
    case round =>
      obtain ⟨k, a1, c1, L, hk, rfl, hLk, PR, BR, HL⟩ := hrel
      have hs := hs.old (HPP.out ▸ BR)
      have cc : wr.cell? ⟨p, 0, none⟩ = some (.slice a1 L.length c1) := by simp [World.cell?, PR.cell]
      have cf : wr.frozen? ⟨p, 0, none⟩ = false := by simp [World.frozen?, PR.cell]
      by_cases h1 : k < n
      · have h1i : (k : Int) < (n : Int) := by omega
        obtain ⟨b1, o1, rfl, c2⟩ := hs.at_ k (by have := hn.out; omega)
        have d1 := hbx k
        have HU : Hid (usedZ (zs.take (k + 1)) = usedZ (zs.take k) ++ (if zs.getD k 0 = 0 then [] else [zs.getD k 0])) := used_snoc (by have := hn.out; omega)
        generalize zs.getD k 0 = z at *
        by_cases hz : z = 0
        · subst hz
          go_wp2
          go_roundw
          case rel => exact ⟨k + 1, a1, c1, L, by omega, by go_num, by omega, PR, BR, (by show _ = _; rw [HU.out, HL.out]; simp)⟩
          case measure => simp [intOf]; omega
        · have hzi : ¬ z = 0 := hz
          have hown1 := PR.own
          have hltp : p < wr.heap.size := (Array.getElem?_eq_some_iff.1 PR.cell).1
          have hne : (Value.slice a1 L.length c1).ownBlock ≠ some p := by
            intro e
            have := (hown1.lt p e).1
            omega
          have ca : ∀ o, (wr.alloc o).cell? ⟨p, 0, none⟩ = some (.slice a1 L.length c1) := fun o => (((Below.refl wr.heap.size wr).alloc (Nat.le_refl _) o).cell (p := ⟨p, 0, none⟩) hltp).trans cc
          go_wp2_with (at_builtin; refine wpList_app1 rfl (.tmp 21) (.tmp 23) 44 rfl (p + 1) 3 i0 (.int .i64 0) 8 Try.underlying44 hi hz0 hz1 hz2 rfl wr (.int .i64 z) rfl hown1 rfl rfl (by omega) (by omega) (by omega) ?_; intro gg cap2 w2 hown2 hg2 hf2; have cx := (hg2.cell cc (Ne.symm hne)); have cg : w2.frozen? ⟨p, 0, none⟩ = false := (by have e := hg2.block p hltp (Ne.symm hne); simp [World.frozen?, e, PR.cell]))
          obtain ⟨PP, BP⟩ := pile_pushed (x := z) rfl PR (by omega) (Below.refl _ _) hg2 hne hown2
          go_roundw
          case rel => exact ⟨k + 1, some ⟨gg, 0, none⟩, cap2, L ++ [z], by omega, by go_num, by simp; omega, PP, BR.trans BP, (by show _ = _; rw [HU.out, HL.out, if_neg hz])⟩
          case measure => simp [intOf]; omega
      · obtain rfl : k = n := by omega
        have HL2 : Hid (L = usedZ zs) := by
          show _ = _
          rw [HL.out, List.take_of_length_le (by have := hn.out; omega)]
        clear h1 HL
        have BW : Below w.heap.size w wr := HPP.out ▸ BR
        by_cases hl1 : L.length = 1
        · have hl1i : (L.length : Int) = 1 := by omega
          obtain ⟨b1, o1, rfl, c2⟩ := PR.seg.at_ 0 (by omega)
          have HV : Hid (leastV zs = L.getD 0 0) := by
            have e := HL2.out
            show _ = _
            unfold leastV
            rw [← e, if_pos hl1]
          rw [hl1] at cc
          have c3 : wr.cell? ⟨b1, o1, none⟩ = some (.int .i64 (L.getD 0 0)) := by simpa using c2
          clear c2 hl1 hl1i PR
          generalize L.getD 0 0 = z at *
          go_wp2
          go_ret2
          exact ⟨by rw [HR.out.1, HR.out.2, HV.out] <;> rfl, BW⟩
        · have hl1i : ¬ (L.length : Int) = 1 := by omega
          have HV : Hid (leastV zs = ((huf L.length (wts zs) : Nat) : Int)) := by
            have e := HL2.out
            show _ = _
            unfold leastV
            rw [← e, if_neg hl1]
          have CJ : Hid (Calls Try.prog 18 #[.iface 46 (.pointer (some ⟨p, 0, none⟩))] wr fun e w' => e = .returned (.int .i64 (huf L.length (wts zs) : Nat)) ∧ Below p wr w') := by
            by_cases h0 : L.length = 0
            · have e0 : L = [] := List.eq_nil_of_length_eq_zero h0
              subst e0
              refine (joined_nil p c1 a1 wr PR).mono ?_
              rintro e w' ⟨rfl, rfl⟩
              exact ⟨rfl, Below.refl _ _⟩
            · obtain ⟨g, cp, hv, hg⟩ := own_shape PR.own (by omega)
              simp only [Value.slice.injEq] at hv
              obtain ⟨rfl, _, rfl⟩ := hv
              exact joined_any p g c1 L.length L (wts zs) rfl (by omega) wr PR (by rw [HL2.out]; exact hf1) hf2 hf3 hf4
          generalize huf L.length (wts zs) = T at *
          go_wp2_with fail
          refine CJ.out.mono ?_
          rintro e w2 ⟨rfl, b2⟩
          go_wp2
          go_ret2
          exact ⟨by rw [HR.out.1, HR.out.2, HV.out] <;> rfl, BW.trans (HPP.out ▸ b2)⟩
  · have HE : Hid (leastOf zs = 0) := by show _ = _; simp [leastOf, he]
    have HC := refusal_any a zs cap w hs (by have := hn.out; omega)
    rw [hn.out] at HC
    generalize errOf zs = E at *
    go_enter Try.func8, Try.ntmps8
    go_wp2_with fail
    refine HC.mono ?_
    rintro e w' ⟨rfl, hw'⟩
    subst w'
    go_wp2
    go_ret2
    exact ⟨by rw [HE.out] <;> rfl, Below.refl _ _⟩
end Go.Proofs.Ytmleicaalaggkab
