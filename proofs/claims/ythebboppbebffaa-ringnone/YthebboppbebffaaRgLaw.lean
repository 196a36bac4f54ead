
import Derived.Test.YthebboppbebffaaProg
import Derived.Test.YthebboppbebffaaRgRef2
import Derived.WalkKit
import Derived.WalkSpells
import Derived.Laws.BytesArg
namespace Go.Proofs.Ythebboppbebffaa
open Go.RowKit
set_option linter.unusedVariables false

theorem run_conv_seg {P : Program} {w : World} {a : Option Addr} {zs : List Int} (cap : Nat) (h : Seg w a zs) (src e dst : TypeId) (hs : P.underlying src = some (.slice e)) (he : P.underlying e = some (.int .u8)) (hd : P.underlying dst = some .string) :
    (convert src dst (.slice a zs.length cap)).run P w = .ok (.string (strOfNums zs)) w := by
  by_cases hz : 0 < zs.length
  · obtain ⟨b, off, rfl, _⟩ := h.at_ 0 hz
    refine run_convert_bytes_arg w src e hs he b off zs.length cap zs rfl (fun i hi => ?_) dst hd
    obtain ⟨b', off', hb, hc⟩ := h.at_ i hi
    cases hb
    exact hc
  · have : zs = [] := List.eq_nil_of_length_eq_zero (by omega)
    subst this
    cases a with
    | none => exact run_convert_bytes_nil w src e hs he _ _ dst hd
    | some x =>
      rw [run_convert_bytes_string w src dst e _ _ cap hs he hd]
      have hl : (loadCells x 0).run P w = .ok (([] : List Int).map (Value.int .u8)).toArray w := by simp [loadCells, loadCellsFrom]
      have := run_bytesToString (P := P) w x 0 cap [] hl
      exact this

theorem str_inj {xs ys : List Int} (hx : ∀ z ∈ xs, 0 ≤ z ∧ z ≤ 255) (hy : ∀ z ∈ ys, 0 ≤ z ∧ z ≤ 255) : ((strOfNums xs).toList == (strOfNums ys).toList) = (xs == ys) := by
  rw [ByteArray.toList_eq, ByteArray.toList_eq, strOfNums_data, strOfNums_data]
  have key : ∀ (xs ys : List Int), (∀ z ∈ xs, 0 ≤ z ∧ z ≤ 255) → (∀ z ∈ ys, 0 ≤ z ∧ z ≤ 255) → (xs.map fun n => UInt8.ofNat n.toNat) = (ys.map fun n => UInt8.ofNat n.toNat) → xs = ys := by
    intro xs
    induction xs with
    | nil => intro ys _ _ h; cases ys with
      | nil => rfl
      | cons y r => simp at h
    | cons x r ih =>
      intro ys hx hy h
      cases ys with
      | nil => simp at h
      | cons y t =>
        simp only [List.map_cons, List.cons.injEq] at h
        have h1 := hx x (by simp)
        have h2 := hy y (by simp)
        have h3 := congrArg UInt8.toNat h.1
        simp at h3
        have h4 : x = y := by omega
        rw [h4, ih t (fun z hz => hx z (by simp [hz])) (fun z hz => hy z (by simp [hz])) h.2]
  rw [Bool.eq_iff_iff, beq_iff_eq, beq_iff_eq]
  exact ⟨key xs ys hx hy, fun h => by rw [h]⟩

set_option maxRecDepth 100000 in
theorem same6_any (a b : Option Addr) (xs ys : List Int) (ca cb : Nat) (w : World) (hx : Seg w a xs) (hy : Seg w b ys) :
    Calls Try.prog 24 #[.slice a xs.length ca, .slice b ys.length cb] w fun e w' => e = .returned (.bool (xs == ys)) ∧ w' = w := by
  have h1 := run_conv_seg (P := Try.prog) ca hx 34 5 9 Try.underlying34 Try.underlying5 Try.underlying9
  have h2 := run_conv_seg (P := Try.prog) cb hy 34 5 9 Try.underlying34 Try.underlying5 Try.underlying9
  have HE : Hid (((strOfNums xs).toList == (strOfNums ys).toList) = (xs == ys)) := str_inj hx.mem hy.mem
  go_enter Try.func24, Try.ntmps24
  go_wp2
  go_ret
  exact ⟨by rw [← HE.out]; rfl, rfl⟩
set_option maxRecDepth 100000 in
theorem num6_any (e : Int) (w : World) : Calls Try.prog 9 #[.int .i64 e] w fun r w' => r = .returned (.int .i64 e) ∧ w' = w := by
  go_enter Try.func9, Try.ntmps9
  go_wp2
  go_ret
  exact ⟨rfl, rfl⟩
/-- A row's own block. -/
def OB (v : Value) (k : Nat) : Prop := v.ownBlock = some k
/-- A cell of a row of bytes of one's own. -/
theorem own_cellB {w : World} {base n g cap : Nat} {e : TypeId} {A : List Int} (h : w.ownsRow base e 1 (.slice (some ⟨g, 0, none⟩) n cap) n (A.map (Value.int .u8))) {i : Nat} (hi : i < A.length) : w.cell? ⟨g, i, none⟩ = some (.int .u8 (A.getD i 0)) := by
  have hl := h.1
  rw [h.cellAt i (by simp at hl; omega)]
  simp [List.getD, hi]
set_option maxRecDepth 100000 in
set_option maxHeartbeats 2000000 in
theorem own6_any (a b : Option Addr) (xs ys : List Int) (n m ca cb base : Nat) (hn : Hid (xs.length = n)) (hm : Hid (ys.length = m)) (w : World) (ho : w.ownsRow base 5 1 (.slice a n ca) n (xs.map (Value.int .u8))) (hbd : ∀ z ∈ xs, 0 ≤ z ∧ z ≤ 255) (hy : Seg w b ys) (hb : base ≤ w.heap.size)
    (hln : n ≤ 70368744177664) (hlm : m ≤ 70368744177664) :
    Calls Try.prog 29 #[.slice a n ca, .slice b m cb] w fun e w' => e = .returned (.bool (xs == ys)) ∧ Kp (OB (.slice a n ca)) w w' := by
  obtain ⟨i0, hi, hz0, hz1, hz2⟩ := info_parts info_u8r
  obtain ⟨hnx, a', ca', hv, sx, _⟩ := own_seg ho (M := 255) (by decide) hbd
  cases hv
  have CS := same6_any a b xs ys ca cb w sx hy
  rw [hn.out, hm.out] at CS
  have HEQ : Hid ((xs == ys) = true → n = m) := fun h => by rw [← hn.out, ← hm.out, beq_iff_eq.1 h]
  have HX : Hid (xs.length = n) := hn
  clear sx hnx
  generalize (xs == ys) = q at *
  go_enter Try.func29, Try.ntmps29
  go_wp2_with fail
  refine CS.mono ?_
  rintro e w1 ⟨rfl, hw1⟩
  subst w1
  go_wp2_with fail
  go_loopw [6] (fun tj wr => ∃ (j : Nat) (A : List Int), j ≤ n ∧ tj = .int .i64 (j : Int) ∧ Hid (A.length = n) ∧ wr.ownsRow base 5 1 (.slice a n ca) n (A.map (Value.int .u8)) ∧ Kp (fun k => (Value.slice a n ca).ownBlock = some k) w wr) (fun tj _ => n - (intOf tj).toNat)
  case atStart => exact ⟨0, xs, by omega, rfl, HX, ho, Kp.refl _ _⟩
  case round =>
    obtain ⟨j, A, hj, rfl, HA, OJ, KJ⟩ := hrel
    clear ho
    by_cases hjm : j < n
    · have hji : (j : Int) < (n : Int) := by omega
      obtain ⟨ga, ca', hv, _⟩ := own_shape OJ (by omega)
      simp only [Value.slice.injEq] at hv
      obtain ⟨rfl, _, rfl⟩ := hv
      have d0 := own_cellB OJ (i := j) (by have := HA.out; omega)
      have f0 := OJ.frozenAt j
      obtain ⟨OS, GS⟩ := OJ.stored j (.int .u8 95)
      rw [← List.map_set] at OS
      have HOS : Hid _ := OS
      have HB : Hid _ := KJ.trans (S' := fun k => (Value.slice (some ⟨ga, 0, none⟩) n ca).ownBlock = some k) (Kp.grown GS (fun i hi => by cases hi; rfl)) (fun _ _ e => e)
      have HA2 : Hid ((A.set j 95).length = n) := by show _ = _; rw [List.length_set]; exact HA.out
      clear OS GS
      generalize A.getD j 0 = zz at *
      go_wp2_with fail
      go_roundw
      case rel => exact ⟨j + 1, A.set j 95, by omega, by go_num, HA2, HOS.out, HB.out⟩
      case measure => simp [intOf]; omega
    · have hjn : j = n := by omega
      subst hjn
      generalize wr = w9 at *
      go_wp2_with fail
      go_loopw [0, 7] (fun ta ti wr => ∃ (i ln c' : Nat) (A : List Int) (b' : Option Addr), i ≤ 70 ∧ ti = .int .i64 (i : Int) ∧ ta = .slice b' ln c' ∧ Hid (ln = j + i) ∧ wr.ownsRow base 5 1 (.slice b' ln c') ln (A.map (Value.int .u8)) ∧ Kp (fun k => (Value.slice a j ca).ownBlock = some k) w wr ∧ Hid (Fresh w (.slice a j ca) (.slice b' ln c'))) (fun _ ti _ => 70 - (intOf ti).toNat)
      case atStart => exact ⟨0, j, ca, A, a, by omega, rfl, rfl, (rfl : _ = _), OJ, KJ, (fun k e => .inl e)⟩
      case round =>
        obtain ⟨i, ln, c', A', b', hi70, rfl, rfl, HLN, OI, KI, FI⟩ := hrel
        clear OJ KJ
        have hlnb : ln ≤ 70368744177734 := by have := HLN.out; omega
        by_cases hi7 : i < 70
        · have hi7i : (i : Int) < 70 := by omega
          have hsz := KI.size
          have hs8 : base ≤ wr.heap.size := by omega
          go_wp2_with (at_builtin; refine wpList_app1 rfl (.tmp 24) (.tmp 25) 34 rfl base 5 i0 (.int .u8 0) 1 Try.underlying34 (by assumption) hz0 hz1 hz2 rfl wr (.int .u8 96) rfl OI rfl rfl (by omega) (by omega) hs8 ?_; intro gg cap2 wn hown8 hg8 hf8)
          have KN : Kp (fun k => (Value.slice a j ca).ownBlock = some k) w wn := KI.trans (S' := fun k => (Value.slice b' ln c').ownBlock = some k) (Kp.grown hg8 (fun i e => e)) (fun k hk e => by
            rcases FI.out k e with h | h
            · exact h
            · omega)
          have FN : Hid (Fresh w (.slice a j ca) (.slice (some ⟨gg, 0, none⟩) (ln + 1) cap2)) := fun k e => by
            rcases hf8 k e with h | h
            · exact FI.out k h
            · exact .inr (by omega)
          go_roundw
          case rel => exact ⟨i + 1, ln + 1, cap2, A' ++ [96], some ⟨gg, 0, none⟩, by omega, by go_num, rfl, (by show _ = _; have := HLN.out; omega), by rw [List.map_append]; exact hown8, KN, FN⟩
          case measure => simp [intOf]; omega
        · have hi70' : i = 70 := by omega
          subst hi70'
          have KI' : Hid _ := KI
          clear OI FI KI
          cases q
          · go_wp2_with fail
            go_ret
            exact ⟨rfl, show Kp (OB (.slice a j ca)) w wr from KI'.out⟩
          · have hm2 : (ln : Int) = (m : Int) + 70 := by have := HLN.out; have := HEQ.out rfl; omega
            have HM2 : Hid ((ln : Int) = (m : Int) + 70) := hm2
            clear hm2
            obtain ⟨lni, hlni⟩ : ∃ x : Int, x = (ln : Int) := ⟨_, rfl⟩
            have hq : ((ln : Int) == (m : Int) + 70) = true := by rw [HM2.out]; simp
            go_wp2_with fail
            go_ret
            exact ⟨rfl, show Kp (OB (.slice a j ca)) w wr from KI'.out⟩
end Go.Proofs.Ythebboppbebffaa
