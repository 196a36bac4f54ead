
import Derived.Test.YtkggfeipcmfghaaSu5a
import Derived.Test.YtkggfeipcmfghaaSaL1
import Derived.Lib.SlBytesConst
namespace Go.Proofs.Ytkggfeipcmfghaa
open Go.RowKit
set_option linter.unusedVariables false

/-! The law's helpers: same, lives. -/
set_option maxRecDepth 100000 in
set_option maxHeartbeats 1000000 in
theorem same13 (a b : Option Addr) (xs ys : List Int) (n m ca cb : Nat) (w : World) (hx : SegZ w a xs) (hy : SegZ w b ys) (hn : Hid (xs.length = n)) (hm : Hid (ys.length = m)) (hl : n ≤ 9223372036854775807) (hl2 : m ≤ 9223372036854775807) :
    Calls Try.prog 40 #[.slice a n ca, .slice b m cb] w fun e w' => e = .returned (.bool (xs == ys)) ∧ Below w.heap.size w w' := by
  by_cases hlen : n = m
  · subst hlen
    go_enter Try.func40, Try.ntmps40
    go_wp2
    go_loopw [13] (fun ti wr => ∃ k : Nat, k ≤ n ∧ ti = .int .i64 k ∧ Hid (xs.take k = ys.take k) ∧ Below w.heap.size w wr) (fun ti _ => n - (intOf ti).toNat)
    case atStart => exact ⟨0, Nat.zero_le _, rfl, (by simp : _ = _), Below.refl _ _⟩
    case round =>
      obtain ⟨k, hk, rfl, HE, hb⟩ := hrel
      have hx := hx.old hb
      have hy := hy.old hb
      by_cases h1 : k < n
      · have h1i : (k : Int) < (n : Int) := by omega
        have k1 : k < xs.length := by rw [hn.out]; exact h1
        have k2 : k < ys.length := by rw [hm.out]; exact h1
        obtain ⟨b1, o1, rfl, c1⟩ := hx.at_ k k1
        obtain ⟨b2, o2, rfl, c2⟩ := hy.at_ k k2
        have b1 := hx.bd k
        have b2 := hy.bd k
        have HT : Hid (xs.take (k + 1) = xs.take k ++ [xs.getD k 0] ∧ ys.take (k + 1) = ys.take k ++ [ys.getD k 0]) := ⟨take_snocZ k1, take_snocZ k2⟩
        have HN : Hid (xs.getD k 0 ≠ ys.getD k 0 → xs ≠ ys) := by
          intro hne e; rw [e] at hne; exact hne rfl
        clear k1 k2
        generalize xs.getD k 0 = z1 at *
        generalize ys.getD k 0 = z2 at *
        by_cases hz : z1 = z2
        · subst hz
          go_wp2
          go_region
          go_wp2
          go_roundw
          case rel => exact ⟨k + 1, by omega, by go_num, (by rw [HT.out.1, HT.out.2, HE.out] : _ = _), hb.drew⟩
          case measure => simp [intOf]; omega
        · go_wp2
          go_region
          go_wp2
          go_ret
          exact ⟨by have := HN.out hz; simp [this], hb.drew⟩
      · have h1i : ¬ (k : Int) < (n : Int) := by omega
        obtain rfl : k = n := by omega
        have HXY : Hid (xs = ys) := take_all12 (by rw [hn.out, hm.out]) (.inl hn.out.symm) HE.out
        go_wp2
        go_ret
        refine ⟨?_, hb⟩
        have := HXY.out
        subst this
        simp
  · have hlen2 : ¬ (n : Int) = (m : Int) := by omega
    have HNE : Hid (xs ≠ ys) := by
      intro e
      rw [e] at hn
      exact hlen (hn.out.symm.trans hm.out)
    go_enter Try.func40, Try.ntmps40
    go_wp2
    go_ret
    refine ⟨?_, Below.refl _ _⟩
    have : (xs == ys) = false := by simp [HNE.out]
    rw [this]
    rfl
theorem seg_lit13 (w : World) (zs : List Int) (t : TypeId) (fr : Nat × Nat) (h : ∀ z ∈ zs, 0 ≤ z ∧ z ≤ 255) : Seg (w.alloc (.cells (zs.map (Value.int .u8)).toArray t fr)) (some ⟨w.heap.size, 0, none⟩) zs := by
  refine ⟨fun i hi => ⟨w.heap.size, 0, rfl, ?_⟩, by decide, getD_bd (by decide) h⟩
  have e : zs.getD i 0 = zs[i] := by simp [List.getD, hi]
  rw [e, Nat.zero_add, World.cell?_alloc_mark]
  simp [hi]
theorem same_lit13 (a : Option Addr) (xs : List Int) (n ca : Nat) (w : World) (hx : SegZ w a xs) (hn : xs.length = n) (hl : n ≤ 100) (hb : xs.all (fun z => decide (-100 ≤ z) && decide (z ≤ 100)) = true) :
    Calls Try.prog 40 #[.slice a n ca, .slice (some ⟨w.heap.size, 0, none⟩) n n] (w.alloc (.cells (vi12 xs) 3)) fun e w' => e = .returned (.bool true) ∧ Below w.heap.size w w' := by
  have hb1 : Below w.heap.size w (w.alloc (.cells (vi12 xs) 3)) := (Below.refl _ _).alloc (Nat.le_refl _) _
  refine (same13 a (some ⟨w.heap.size, 0, none⟩) xs xs n n ca n _ (hx.old hb1) ((lit12 w xs).seg (lit12_bd hb)) hn hn (by omega) (by omega)).mono ?_
  rintro e w' ⟨rfl, B⟩
  exact ⟨by simp, hb1.trans (B.mono hb1.size)⟩
set_option maxRecDepth 100000 in
set_option maxHeartbeats 1000000 in
theorem plives13 (w : World) : Calls Try.prog 16 #[] w fun e w' => e = .returned (.bool true) ∧ Below w.heap.size w w' := by
  have B0 : Below w.heap.size w (w.alloc (.cells #[.int .u8 98, .int .u8 97, .int .u8 110, .int .u8 97, .int .u8 110, .int .u8 97] 5 (6, 7))) := (Below.refl _ _).alloc (Nat.le_refl _) _
  have hcv : (convert 36 36 (.slice (some ⟨w.heap.size, 0, none⟩) 6 6)).run Try.prog (w.alloc (.cells #[.int .u8 98, .int .u8 97, .int .u8 110, .int .u8 97, .int .u8 110, .int .u8 97] 5)) = .ok (.slice (some ⟨w.heap.size, 0, none⟩) 6 6) (w.alloc (.cells #[.int .u8 98, .int .u8 97, .int .u8 110, .int .u8 97, .int .u8 110, .int .u8 97] 5 (6, 7))) := Lib.run_convert_bytes_const (P := Try.prog) w 36 5 #[.int .u8 98, .int .u8 97, .int .u8 110, .int .u8 97, .int .u8 110, .int .u8 97] 6 6 Try.underlying36 Try.underlying5
  have HN := pnew13 (some ⟨w.heap.size, 0, none⟩) [98, 97, 110, 97, 110, 97] 6 6 _ (seg_lit13 w [98, 97, 110, 97, 110, 97] 5 (6, 7) (by decide)) (by intro h; cases h) rfl (by omega)
  have HA : Hid (∀ A, Ar12 6 (S12 [98, 97, 110, 97, 110, 97]) A → A = [5, 3, 1, 0, 4, 2]) := fun A hA => hA.unique (chk12_ok (by kernel_rfl))
  have HL : Hid (lp13 [98, 97, 110, 97, 110, 97] [5, 3, 1, 0, 4, 2] = [0, 1, 3, 0, 0, 2]) := by show _ = _; kernel_rfl
  have HQ : Hid (∀ W, Below w.heap.size (w.alloc (.cells #[.int .u8 98, .int .u8 97, .int .u8 110, .int .u8 97, .int .u8 110, .int .u8 97] 5 (6, 7))) W → Below w.heap.size w W) := fun W h => B0.trans h
  go_enter Try.func16, Try.ntmps16
  go_wp2_with (first
    | (go_at_call 17; refine HN.mono ?_; rintro e1 w1 ⟨b, da, dc, aa, ac, gb, gr, A, rfl, hI, B1, -⟩; obtain rfl := HA.out A hI.ar; clear HN HA hcv))
  have B1' := B0.trans (B1.mono B0.size)
  refine (parr13 b da dc aa ac gb gr 6 _ _ w1 hI).mono ?_
  rintro e2 w2 ⟨ra, rc, rfl, -, hown, B2⟩
  have sg := own_segZ hown (nz12_bd13 hI.ar.lt hI.n24)
  have hI2 := hI.old B2
  go_wp2_with fail
  refine (same_lit13 ra (nz12 [5, 3, 1, 0, 4, 2]) 6 rc w2 sg rfl (by omega) (by kernel_rfl)).mono ?_
  rintro e3 w3 ⟨rfl, B3⟩
  have hI3 := hI2.old B3
  go_wp2_with fail
  refine (plcp13 b da dc aa ac gb gr 6 _ _ w3 hI3).mono ?_
  rintro e4 w4 ⟨g, rfl, R4, -, B4⟩
  rw [HL.out] at R4
  go_wp2_with fail
  refine (same_lit13 (some ⟨g, 0, none⟩) [0, 1, 3, 0, 0, 2] 6 6 w4 (R4.seg (lit12_bd (by kernel_rfl))) rfl (by omega) (by kernel_rfl)).mono ?_
  rintro e5 w5 ⟨rfl, B5⟩
  go_wp2_with fail
  go_ret
  have S1 := B1'.size
  have S2 := B2.size
  have S3 := B3.size
  have S4 := B4.size
  exact ⟨rfl, (((B1'.trans (B2.mono (by omega))).trans (B3.mono (by omega))).trans (B4.mono (by omega))).trans (B5.mono (by omega))⟩
end Go.Proofs.Ytkggfeipcmfghaa
