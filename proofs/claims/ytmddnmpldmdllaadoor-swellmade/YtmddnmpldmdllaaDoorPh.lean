import Derived.Test.YtmddnmpldmdllaaDoorPf
import Derived.Test.YtmddnmpldmdllaaDoorPg
import Derived.Test.YtmddnmpldmdllaaDoorProg
import Derived.WalkKit
import Derived.WalkSpells
import Derived.Test.YtmddnmpldmdllaaDoorPb
import Derived.Deep.QuietTactic
import Derived.BigQuiet
import Derived.Deep.RegionHeld3
namespace Go.Proofs.YtmddnmpldmdllaaDoor
open Go.RowKit
set_option linter.unusedVariables false

/-! A Reader within a block, at an offset. -/
section
variable {o : Nat} {T : TypeId} {P S : List Value}
theorem mid_cell0 {w : World} {b : Nat} {x y z : Value} (ho : P.length = o) (h : w.heap[b]? = some (.cells (P ++ x :: y :: z :: S).toArray T (0, 0))) : w.cell? ⟨b, o, none⟩ = some x := by
  subst ho
  rw [cell_of_row w b _ _ _ _ h]
  simp
theorem mid_cell1 {w : World} {b : Nat} {x y z : Value} (ho : P.length = o) (h : w.heap[b]? = some (.cells (P ++ x :: y :: z :: S).toArray T (0, 0))) : w.cell? ⟨b, o + 1, none⟩ = some y := by
  subst ho
  rw [cell_of_row w b _ _ _ _ h]
  simp
theorem mid_cell2 {w : World} {b : Nat} {x y z : Value} (ho : P.length = o) (h : w.heap[b]? = some (.cells (P ++ x :: y :: z :: S).toArray T (0, 0))) : w.cell? ⟨b, o + 2, none⟩ = some z := by
  subst ho
  rw [cell_of_row w b _ _ _ _ h]
  simp
theorem mid_free {w : World} {b : Nat} {c : Array Value} (h : w.heap[b]? = some (.cells c T (0, 0))) (i : Nat) : w.frozen? ⟨b, i, none⟩ = false := by simp [World.frozen?, h]
theorem mid_set {w : World} {b i : Nat} {c : Array Value} (h : w.heap[b]? = some (.cells c T (0, 0))) (u : Value) : (w.setCell ⟨b, i, none⟩ u).heap[b]? = some (.cells (c.setIfInBounds i u) T (0, 0)) := by
  simp [World.setCell, Array.getElem?_modify, h]
theorem mid_set0 {w : World} {b : Nat} {x y z : Value} (ho : P.length = o) (h : w.heap[b]? = some (.cells (P ++ x :: y :: z :: S).toArray T (0, 0))) (u : Value) : (w.setCell ⟨b, o, none⟩ u).heap[b]? = some (.cells (P ++ u :: y :: z :: S).toArray T (0, 0)) := by
  subst ho
  rw [mid_set h]
  simp
theorem mid_set1 {w : World} {b : Nat} {x y z : Value} (ho : P.length = o) (h : w.heap[b]? = some (.cells (P ++ x :: y :: z :: S).toArray T (0, 0))) (u : Value) : (w.setCell ⟨b, o + 1, none⟩ u).heap[b]? = some (.cells (P ++ x :: u :: z :: S).toArray T (0, 0)) := by
  subst ho
  rw [mid_set h]
  simp [List.set_append_right]
theorem mid_set2 {w : World} {b : Nat} {x y z : Value} (ho : P.length = o) (h : w.heap[b]? = some (.cells (P ++ x :: y :: z :: S).toArray T (0, 0))) (u : Value) : (w.setCell ⟨b, o + 2, none⟩ u).heap[b]? = some (.cells (P ++ x :: y :: u :: S).toArray T (0, 0)) := by
  subst ho
  rw [mid_set h]
  simp [List.set_append_right]
/-- The bits that it holds, and how many are gone. -/
structure RdO (o : Nat) (T : TypeId) (P S : List Value) (w : World) (b : Nat) (H : List Bool) (t : Nat) : Prop where
  hp : w.heap[b]? = some (.cells (P ++ .int .u64 (num H : Int) :: .int .i64 (H.length : Int) :: .int .i64 (t : Int) :: S).toArray T (0, 0))
  le : H.length ≤ 64
  ho : P.length = o
theorem RdO.c0 {w : World} {b : Nat} {H : List Bool} {t : Nat} (h : RdO o T P S w b H t) : w.cell? ⟨b, o, none⟩ = some (.int .u64 (num H : Int)) := mid_cell0 h.ho h.hp
theorem RdO.c1 {w : World} {b : Nat} {H : List Bool} {t : Nat} (h : RdO o T P S w b H t) : w.cell? ⟨b, o + 1, none⟩ = some (.int .i64 (H.length : Int)) := mid_cell1 h.ho h.hp
theorem RdO.c2 {w : World} {b : Nat} {H : List Bool} {t : Nat} (h : RdO o T P S w b H t) : w.cell? ⟨b, o + 2, none⟩ = some (.int .i64 (t : Int)) := mid_cell2 h.ho h.hp
theorem RdO.free {w : World} {b : Nat} {H : List Bool} {t : Nat} (h : RdO o T P S w b H t) (i : Nat) : w.frozen? ⟨b, i, none⟩ = false := mid_free h.hp i
theorem RdO.b_lt {w : World} {b : Nat} {H : List Bool} {t : Nat} (h : RdO o T P S w b H t) : b < w.heap.size := (Array.getElem?_eq_some_iff.1 h.hp).1
theorem RdO.kp {w w' : World} {b : Nat} {H : List Bool} {t : Nat} {X : Nat → Prop} (h : RdO o T P S w b H t) (hk : Kp X w w') (hn : ¬ X b) : RdO o T P S w' b H t := ⟨hk.heap h.hp hn, h.le, h.ho⟩
theorem RdO.fits {w : World} {b : Nat} {H : List Bool} {t : Nat} (h : RdO o T P S w b H t) : num H < 18446744073709551616 := Nat.lt_of_lt_of_le (num_lt H) (pow_le_64 h.le)

set_option maxRecDepth 100000 in
theorem space_any_o (b : Nat) (H : List Bool) (t : Nat) (w : World) (h : RdO o T P S w b H t) :
    Calls Tryd.prog 57 #[.pointer (some ⟨b, o, none⟩)] w fun e w' => e = .returned (.int .i64 (((64 - H.length) / 8 : Nat) : Int)) ∧ w' = w := by
  have hc1 := h.c1
  have hle := h.le
  have HE : Hid ((((64 - H.length) / 8 : Nat) : Int) = (64 - (H.length : Int)) / 8) := by show _ = _; omega
  go_enter Tryd.func57, Tryd.ntmps57
  go_wp2
  go_ret
  exact ⟨by rw [HE.out]; rfl, rfl⟩
set_option maxRecDepth 100000 in
theorem has_any_o (b : Nat) (H : List Bool) (t : Nat) (w : World) (h : RdO o T P S w b H t) :
    Calls Tryd.prog 80 #[.pointer (some ⟨b, o, none⟩)] w fun e w' => e = .returned (.int .i64 (H.length : Int)) ∧ w' = w := by
  have hc1 := h.c1
  go_enter Tryd.func80, Tryd.ntmps80
  go_wp2
  go_ret
  exact ⟨rfl, rfl⟩
set_option maxRecDepth 100000 in
set_option maxHeartbeats 400000 in
theorem peek_yes_o (b : Nat) (H : List Bool) (t k : Nat) (w : World) (h : RdO o T P S w b H t) (h1 : k ≤ 56) (h2 : k ≤ H.length) :
    Calls Tryd.prog 58 #[.pointer (some ⟨b, o, none⟩), .int .i64 (k : Int)] w fun e w' => e = .returned (.tuple #[.int .u64 (num (H.take k) : Int), .bool true]) ∧ w' = w := by
  have hc0 := h.c0
  have hc1 := h.c1
  have C := low_any (num H) k w h.fits (by omega)
  rw [← num_take H k h2] at C
  have hk : (k : Int) ≤ (H.length : Int) := by omega
  go_enter Tryd.func58, Tryd.ntmps58
  go_wp2_with fail
  refine C.mono ?_
  rintro e w1 ⟨rfl, hw1⟩
  subst w1
  go_wp2
  go_ret2
  exact ⟨rfl, rfl⟩
set_option maxRecDepth 100000 in
set_option maxHeartbeats 400000 in
theorem peek_no_o (b : Nat) (H : List Bool) (t : Nat) (n : Int) (w : World) (h : RdO o T P S w b H t) (hn : there H n = false) :
    Calls Tryd.prog 58 #[.pointer (some ⟨b, o, none⟩), .int .i64 n] w fun e w' => e = .returned (.tuple #[.int .u64 0, .bool false]) ∧ w' = w := by
  have hc0 := h.c0
  have hc1 := h.c1
  rcases there_no hn with hn | ⟨hn, hn2⟩ | ⟨hn, hn2, hn3⟩
  · go_enter Tryd.func58, Tryd.ntmps58
    go_wp2
    go_ret2
    exact ⟨rfl, rfl⟩
  · go_enter Tryd.func58, Tryd.ntmps58
    go_wp2
    go_ret2
    exact ⟨rfl, rfl⟩
  · go_enter Tryd.func58, Tryd.ntmps58
    go_wp2
    go_ret2
    exact ⟨rfl, rfl⟩

set_option maxRecDepth 100000 in
set_option maxHeartbeats 400000 in
theorem drop_any_o (b : Nat) (H : List Bool) (t k : Nat) (w : World) (h : RdO o T P S w b H t) (h2 : k ≤ H.length) (ht : t ≤ 4611686018427387904) :
    Calls Tryd.prog 59 #[.pointer (some ⟨b, o, none⟩), .int .i64 (k : Int)] w fun e w' => e = .returned (.tuple #[]) ∧ RdO o T P S w' b (H.drop k) (t + k) ∧ w.grownBy w' (some b) := by
  have hc0 := h.c0
  have hc1 := h.c1
  have hc2 := h.c2
  have hf := h.free
  have hsh := shr_nat (num H) k
  have hle := h.le
  rw [← num_drop H k h2] at hsh
  have hp := h.hp
  have hnl := h.fits
  obtain ⟨q, hq⟩ : ∃ q, q = num (H.drop k) := ⟨_, rfl⟩
  rw [← hq] at hsh
  have HQ : Hid (q = num (H.drop k)) := hq
  clear hq
  go_enter Tryd.func59, Tryd.ntmps59
  go_wp2
  go_end0
  refine ⟨rfl, ⟨?_, by simp; omega, h.ho⟩, grownBy_set (grownBy_set (grownBy_set (World.grownBy.refl _ _) _) _) _⟩
  rw [mid_set2 h.ho (mid_set1 h.ho (mid_set0 h.ho hp _) _) _, HQ.out, List.length_drop]
  have e1 : ((H.length : Int) - (k : Int)) = ((H.length - k : Nat) : Int) := by omega
  have e2 : ((t : Int) + (k : Int)) = ((t + k : Nat) : Int) := by omega
  rw [e1, e2]

theorem peek_any_o (b : Nat) (H : List Bool) (t : Nat) (n : Int) (w : World) (h : RdO o T P S w b H t) :
    Calls Tryd.prog 58 #[.pointer (some ⟨b, o, none⟩), .int .i64 n] w fun e w' => e = .returned (.tuple #[.int .u64 (takeV H n : Int), .bool (there H n)]) ∧ w' = w := by
  unfold takeV
  cases hn : there H n
  · exact peek_no_o b H t n w h hn
  · obtain ⟨k, rfl, h1, h2⟩ := there_yes hn
    exact peek_yes_o b H t k w h h1 h2

set_option maxRecDepth 100000 in
set_option maxHeartbeats 400000 in
theorem take_any_o (b : Nat) (H : List Bool) (t : Nat) (n : Int) (w : World) (h : RdO o T P S w b H t) (ht : t ≤ 4611686018427387904) :
    Calls Tryd.prog 41 #[.pointer (some ⟨b, o, none⟩), .int .i64 n] w fun e w' => e = .returned (.tuple #[.int .u64 (takeV H n : Int), .bool (there H n)]) ∧ RdO o T P S w' b (takeL H n) (takeT H t n) ∧ w.grownBy w' (some b) := by
  have C := peek_any_o b H t n w h
  have D : there H n = true → Calls Tryd.prog 59 #[.pointer (some ⟨b, o, none⟩), .int .i64 n] w fun e w' => e = .returned (.tuple #[]) ∧ RdO o T P S w' b (takeL H n) (takeT H t n) ∧ w.grownBy w' (some b) := by
    intro hn
    unfold takeL takeT
    rw [hn]
    obtain ⟨k, rfl, h1, h2⟩ := there_yes hn
    exact drop_any_o b H t k w h h2 ht
  have HN : there H n = false → takeL H n = H ∧ takeT H t n = t := by
    intro hn
    unfold takeL takeT
    rw [hn]
    exact ⟨rfl, rfl⟩
  generalize takeL H n = H' at *
  generalize takeT H t n = t' at *
  generalize takeV H n = v at *
  cases hn : there H n
  · obtain ⟨rfl, rfl⟩ := HN hn
    rw [hn] at C
    clear D HN hn
    go_enter Tryd.func41, Tryd.ntmps41
    go_wp2_with fail
    refine C.mono ?_
    rintro e w1 ⟨rfl, hw1⟩
    subst w1
    go_wp2
    go_ret2
    exact ⟨rfl, h, World.grownBy.refl _ _⟩
  · have D := D hn
    rw [hn] at C
    clear HN hn
    go_enter Tryd.func41, Tryd.ntmps41
    go_wp2_with fail
    refine C.mono ?_
    rintro e w1 ⟨rfl, hw1⟩
    subst w1
    go_wp2_with fail
    refine D.mono ?_
    rintro e w1 ⟨rfl, h1, h2⟩
    go_wp2
    go_ret2
    exact ⟨rfl, h1, h2⟩

set_option maxRecDepth 100000 in
set_option maxHeartbeats 400000 in
theorem ralign_any_o (b : Nat) (H : List Bool) (t : Nat) (w : World) (h : RdO o T P S w b H t) (ht : t ≤ 4611686018427387904) :
    Calls Tryd.prog 42 #[.pointer (some ⟨b, o, none⟩)] w fun e w' => e = .returned (.tuple #[.int .i64 ((H.length % 8 : Nat) : Int), .int .u64 (num (H.take (H.length % 8)) : Int)]) ∧ RdO o T P S w' b (H.drop (H.length % 8)) (t + H.length % 8) ∧ w.grownBy w' (some b) := by
  have hc0 := h.c0
  have hc1 := h.c1
  have hle := h.le
  have h8 : H.length % 8 ≤ H.length := Nat.mod_le _ _
  have C := low_any (num H) (H.length % 8) w h.fits (by omega)
  rw [← num_take H _ h8] at C
  have D := drop_any_o b H t (H.length % 8) w h h8 ht
  have hm : (H.length : Int) % 8 = ((H.length % 8 : Nat) : Int) := by omega
  generalize H.length % 8 = k at *
  generalize num (H.take k) = v at *
  go_enter Tryd.func42, Tryd.ntmps42
  go_wp2_with fail
  refine C.mono ?_
  rintro e w1 ⟨rfl, hw1⟩
  subst w1
  go_wp2_with fail
  refine D.mono ?_
  rintro e w1 ⟨rfl, h1, h2⟩
  go_wp2
  go_ret2
  exact ⟨rfl, h1, h2⟩

set_option maxRecDepth 100000 in
set_option maxHeartbeats 2000000 in
theorem feed_any_o (b : Nat) (H : List Bool) (t : Nat) (pa : Option Addr) (p : List Int) (pc : Nat) (w : World) (h : RdO o T P S w b H t) (hs : Seg w pa p) (hcap : p.length ≤ pc) (hfar : ∀ g off, pa = some ⟨g, off, none⟩ → 0 < p.length → g ≠ b) (hl : p.length ≤ 4611686018427387904) :
    Calls Tryd.prog 40 #[.pointer (some ⟨b, o, none⟩), .slice pa p.length pc] w fun e w' => e = .returned (.int .i64 (feedN H p.length : Int)) ∧ RdO o T P S w' b (H ++ bB (p.take (feedN H p.length))) t ∧ (Kp (fun k => k = b) w w') := by
  have C := space_any_o b H t w h
  have hle := h.le
  obtain ⟨m, hm⟩ : ∃ m, m = feedN H p.length := ⟨_, rfl⟩
  rw [← hm]
  have hmp : m ≤ p.length := by rw [hm]; unfold feedN; omega
  have hm8 : H.length + 8 * m ≤ 64 := by rw [hm]; unfold feedN; omega
  have hmn : m = min p.length ((64 - H.length) / 8) := hm
  have hsl : (m : Int) ≤ (pc : Int) := by omega
  clear hm
  generalize (64 - H.length) / 8 = sp at *
  by_cases hsp : sp < p.length
  · obtain rfl : sp = m := by omega
    clear hmn
    go_enter Tryd.func40, Tryd.ntmps40
    go_wp2_with fail
    refine C.mono ?_
    rintro e w1 ⟨rfl, hw1⟩
    subst w1
    go_wp2
    go_loopw [19] (fun ti wr => ∃ i : Nat, i ≤ sp ∧ ti = .int .i64 (i : Int) ∧ RdO o T P S wr b (H ++ bB (p.take i)) t ∧ Kp (fun k => k = b) w wr) (fun ti _ => sp - (intOf ti).toNat)
    case atStart => exact ⟨0, Nat.zero_le _, rfl, by simpa [bB] using h, Kp.refl _ _⟩
    case round =>
      obtain ⟨i, hi, rfl, hr, hk⟩ := hrel
      by_cases hlt : i < sp
      · have hlt2 : (i : Int) < (sp : Int) := by omega
        have hsr : Seg wr pa p := hs.kp hk (fun g off e hp => hfar g off e hp)
        obtain ⟨g, off, rfl, hcell⟩ := hsr.at_ i (by omega)
        have hz := hs.bd i
        have HT : Hid (bB (p.take (i + 1)) = bB (p.take i) ++ bN (p.getD i 0).toNat 8) := by
          show _ = _
          rw [List.take_succ_eq_append_getElem (by omega), bB_append, bB_one]
          simp [List.getD, show i < p.length by omega]
        have hlen : (H ++ bB (p.take i)).length = H.length + 8 * i := by rw [List.length_append, bB_len, List.length_take]; omega
        have hst := feed_step (H := H ++ bB (p.take i)) hz.1 hz.2 (by omega)
        have hp := hr.hp
        have hc0 := hr.c0
        have hc1 := hr.c1
        have hf := hr.free
        have hfit := hr.fits
        have hh56 : (H ++ bB (p.take i)).length ≤ 56 := by omega
        have HL : Hid ((H ++ bB (p.take i)).length = H.length + 8 * i) := hlen
        clear hlen hsr
        generalize p.getD i 0 = z at *
        have HN : Hid (H ++ bB (p.take (i + 1)) = (H ++ bB (p.take i)) ++ bN z.toNat 8) := by show _ = _; rw [HT.out, List.append_assoc]
        generalize H ++ bB (p.take i) = G at *
        obtain ⟨y, hy⟩ : ∃ y, y = num (G ++ bN z.toNat 8) := ⟨_, rfl⟩
        rw [← hy] at hst
        have HY : Hid (y = num (G ++ bN z.toNat 8)) := hy
        have hor := hst.1
        have hy64 := hst.2
        clear hy hst
        go_wp2
        go_region
        have hp1 : ((wr.setCell ⟨b, o, none⟩ (.int .u64 (y : Int))).drew).heap[b]? = some (.cells (P ++ .int .u64 (y : Int) :: .int .i64 (G.length : Int) :: .int .i64 (t : Int) :: S).toArray T (0, 0)) := mid_set0 hr.ho hp _
        have hk1 : Kp (fun j => j = b) wr ((wr.setCell ⟨b, o, none⟩ (.int .u64 (y : Int))).drew) := (Kp.set (S := fun j => j = b) rfl _).drew
        generalize (wr.setCell ⟨b, o, none⟩ (.int .u64 (y : Int))).drew = w2 at *
        have hd1 := mid_cell1 hr.ho hp1
        have hdf := mid_free hp1
        clear hc0 hc1 hf hp hor
        go_wp2
        go_roundw
        case rel =>
          refine ⟨i + 1, by omega, by go_num, ⟨?_, ?_, hr.ho⟩, hk.trans (hk1.trans (Kp.set (S := fun j => j = b) rfl _) (fun _ _ e => e)) (fun _ _ e => e)⟩
          · rw [mid_set1 hr.ho hp1 _, HN.out, ← HY.out]
            rw [show (G ++ bN z.toNat 8).length = G.length + 8 by rw [List.length_append, bN_len]]
            rfl
          · rw [HN.out, List.length_append, bN_len]; omega
        case measure => simp [intOf]; omega
      · have HI : Hid (i = sp) := by show _ = _; omega
        have hge : (sp : Int) ≤ (i : Int) := by omega
        clear hlt hi
        go_wp2
        go_ret
        rw [HI.out] at hr
        exact ⟨rfl, hr, hk⟩
  · obtain rfl : m = p.length := by omega
    clear hmn
    go_enter Tryd.func40, Tryd.ntmps40
    go_wp2_with fail
    refine C.mono ?_
    rintro e w1 ⟨rfl, hw1⟩
    subst w1
    go_wp2
    go_loopw [19] (fun ti wr => ∃ i : Nat, i ≤ p.length ∧ ti = .int .i64 (i : Int) ∧ RdO o T P S wr b (H ++ bB (p.take i)) t ∧ Kp (fun k => k = b) w wr) (fun ti _ => p.length - (intOf ti).toNat)
    case atStart => exact ⟨0, Nat.zero_le _, rfl, by simpa [bB] using h, Kp.refl _ _⟩
    case round =>
      obtain ⟨i, hi, rfl, hr, hk⟩ := hrel
      by_cases hlt : i < p.length
      · have hlt2 : (i : Int) < (p.length : Int) := by omega
        have hsr : Seg wr pa p := hs.kp hk (fun g off e hp => hfar g off e hp)
        obtain ⟨g, off, rfl, hcell⟩ := hsr.at_ i (by omega)
        have hz := hs.bd i
        have HT : Hid (bB (p.take (i + 1)) = bB (p.take i) ++ bN (p.getD i 0).toNat 8) := by
          show _ = _
          rw [List.take_succ_eq_append_getElem (by omega), bB_append, bB_one]
          simp [List.getD, show i < p.length by omega]
        have hlen : (H ++ bB (p.take i)).length = H.length + 8 * i := by rw [List.length_append, bB_len, List.length_take]; omega
        have hst := feed_step (H := H ++ bB (p.take i)) hz.1 hz.2 (by omega)
        have hp := hr.hp
        have hc0 := hr.c0
        have hc1 := hr.c1
        have hf := hr.free
        have hfit := hr.fits
        have hh56 : (H ++ bB (p.take i)).length ≤ 56 := by omega
        have HL : Hid ((H ++ bB (p.take i)).length = H.length + 8 * i) := hlen
        clear hlen hsr
        generalize p.getD i 0 = z at *
        have HN : Hid (H ++ bB (p.take (i + 1)) = (H ++ bB (p.take i)) ++ bN z.toNat 8) := by show _ = _; rw [HT.out, List.append_assoc]
        generalize H ++ bB (p.take i) = G at *
        obtain ⟨y, hy⟩ : ∃ y, y = num (G ++ bN z.toNat 8) := ⟨_, rfl⟩
        rw [← hy] at hst
        have HY : Hid (y = num (G ++ bN z.toNat 8)) := hy
        have hor := hst.1
        have hy64 := hst.2
        clear hy hst
        go_wp2
        go_region
        have hp1 : ((wr.setCell ⟨b, o, none⟩ (.int .u64 (y : Int))).drew).heap[b]? = some (.cells (P ++ .int .u64 (y : Int) :: .int .i64 (G.length : Int) :: .int .i64 (t : Int) :: S).toArray T (0, 0)) := mid_set0 hr.ho hp _
        have hk1 : Kp (fun j => j = b) wr ((wr.setCell ⟨b, o, none⟩ (.int .u64 (y : Int))).drew) := (Kp.set (S := fun j => j = b) rfl _).drew
        generalize (wr.setCell ⟨b, o, none⟩ (.int .u64 (y : Int))).drew = w2 at *
        have hd1 := mid_cell1 hr.ho hp1
        have hdf := mid_free hp1
        clear hc0 hc1 hf hp hor
        go_wp2
        go_roundw
        case rel =>
          refine ⟨i + 1, by omega, by go_num, ⟨?_, ?_, hr.ho⟩, hk.trans (hk1.trans (Kp.set (S := fun j => j = b) rfl _) (fun _ _ e => e)) (fun _ _ e => e)⟩
          · rw [mid_set1 hr.ho hp1 _, HN.out, ← HY.out]
            rw [show (G ++ bN z.toNat 8).length = G.length + 8 by rw [List.length_append, bN_len]]
            rfl
          · rw [HN.out, List.length_append, bN_len]; omega
        case measure => simp [intOf]; omega
      · have HI : Hid (i = p.length) := by show _ = _; omega
        have hge : (p.length : Int) ≤ (i : Int) := by omega
        clear hlt hi
        go_wp2
        go_ret
        rw [HI.out] at hr
        exact ⟨rfl, hr, hk⟩
end
end Go.Proofs.YtmddnmpldmdllaaDoor

namespace Go.Proofs.YtmddnmpldmdllaaDoor
open Go.RowKit
set_option linter.unusedVariables false

/-! Next, over a reader within a block. -/
def NxtO (o : Nat) (T : TypeId) (Pf Sf : List Value) (w : World) (b br : Nat) (zs : List Int) (H : List Bool) (t : Nat) (e : Ending) (w' : World) : Prop :=
  ((∃ s, Beg zs H s ∧ e = .returned (.tuple #[.int .i64 (s : Int), .bool true, .int .i64 0]) ∧ RdO o T Pf Sf w' br (H.drop (ln zs s)) (t + ln zs s)) ∨ ((∀ s, ¬ Beg zs H s) ∧ May zs H ∧ e = .returned (.tuple #[.int .i64 0, .bool false, .int .i64 0]) ∧ RdO o T Pf Sf w' br H t) ∨ ((∀ s, ¬ Beg zs H s) ∧ ¬ May zs H ∧ e = .returned (.tuple #[.int .i64 0, .bool false, .int .i64 54]) ∧ RdO o T Pf Sf w' br H t)) ∧ Kp (fun k => k = br) w w'

set_option maxRecDepth 100000 in
set_option maxHeartbeats 1000000 in
theorem next5_o {o : Nat} {T : TypeId} {Pf Sf : List Value} (b most : Nat) (zs : List Int) (br : Nat) (H : List Bool) (t : Nat) (w : World) (hD : De w b most zs) (hR : RdO o T Pf Sf w br H t) (ht : t ≤ 4611686018427387000) :
    Calls Tryd.prog 69 #[.pointer (some ⟨b, 0, none⟩), .pointer (some ⟨br, o, none⟩)] w fun e w' => NxtO o T Pf Sf w b br zs H t e w' := by
  obtain ⟨S, hS, hY, hb⟩ := hD.row
  have c0 := arr_cell hb (i := 0) (by simp [dl])
  have e0 : (dl most zs S).getD 0 0 = (most : Int) := rfl
  rw [e0] at c0
  have hm0 : ¬ (most : Int) = 0 := by have := hD.mo; omega
  have CH := has_any_o br H t w hR
  obtain ⟨n, hn⟩ : ∃ n, n = min H.length 15 := ⟨_, rfl⟩
  have HN : Hid (n = min H.length 15) := hn
  have hth : there H (n : Int) = true := there_of (by omega) (by omega)
  have CP := peek_any_o br H t (n : Int) w hR
  rw [hth] at CP
  have hV : takeV H (n : Int) = num (H.take n) := by unfold takeV; rw [hth]; simp
  rw [hV] at CP
  have CF := find_any b most zs H n HN w hD
  have hle := hR.le
  have HCT : Hid (∀ s, Beg zs H s → ln zs s ≤ 15 → Calls Tryd.prog 41 #[.pointer (some ⟨br, o, none⟩), .int .i64 (ln zs s : Int)] w fun e w' => (∃ x y, e = .returned (.tuple #[x, y])) ∧ RdO o T Pf Sf w' br (H.drop (ln zs s)) (t + ln zs s) ∧ w.grownBy w' (some br)) := by
    intro s hs hl
    have := take_any_o br H t (ln zs s : Int) w hR (by omega)
    have h1 : there H (ln zs s : Int) = true := there_of (by omega) hs.2.2.1
    refine this.mono ?_
    rintro e w' ⟨rfl, h2, h3⟩
    refine ⟨⟨_, _, rfl⟩, ?_, h3⟩
    unfold takeL takeT at h2
    rw [h1] at h2
    simpa using h2
  have HLN : Hid (∀ s, Beg zs H s → 0 < ln zs s ∧ ln zs s ≤ 15) := fun s hs => ⟨ln_pos (errS_zero (errC_zero hD.ok).1).2 hs.2.1, ((errS_zero (errC_zero hD.ok).1).2.ln s).2⟩
  clear e0 hV hth
  by_cases hc : H.length ≤ 15
  · have en : (H.length : Int) = (n : Int) := by omega
    rw [en] at CH
    have hci : (n : Int) ≤ 15 := by omega
    have hci2 : ¬ (15 : Int) < (n : Int) := by omega
    clear hn hc en hle
    go_enter Tryd.func69, Tryd.ntmps69
    go_wp2_with fail
    refine CH.mono ?_
    rintro e w1 ⟨rfl, hw1⟩
    subst w1
    go_wp2_with fail
    refine CP.mono ?_
    rintro e w1 ⟨rfl, hw1⟩
    subst w1
    go_wp2_with fail
    refine CF.mono ?_
    rintro e w1 ⟨sy, le, er, rfl, hF, hw1⟩
    subst w1
    rcases hF with ⟨s, h1, rfl, rfl, rfl⟩ | ⟨h1, h2, rfl, rfl, rfl⟩ | ⟨h1, h2, rfl, rfl, rfl⟩
    · have CT := HCT.out s h1 (HLN.out s h1).2
      have HB : Hid (Beg zs H s) := h1
      have hl0 : ¬ (ln zs s : Int) = 0 := by have := (HLN.out s h1).1; omega
      clear h1
      go_wp2_with fail
      refine CT.mono ?_
      rintro e w1 ⟨⟨x, y, rfl⟩, h3, h4⟩
      go_wp2_with fail
      go_ret3
      exact ⟨.inl ⟨s, HB.out, rfl, h3⟩, Kp.grown h4 (fun i hi => by cases hi; rfl)⟩
    · have HB : Hid ((∀ s, ¬ Beg zs H s) ∧ May zs H) := ⟨h1, h2⟩
      clear h1 h2
      go_wp2_with fail
      go_ret3
      exact ⟨.inr (.inl ⟨HB.out.1, HB.out.2, rfl, hR⟩), Kp.refl _ _⟩
    · have HB : Hid ((∀ s, ¬ Beg zs H s) ∧ ¬ May zs H) := ⟨h1, h2⟩
      clear h1 h2
      go_wp2_with fail
      go_ret3
      exact ⟨.inr (.inr ⟨HB.out.1, HB.out.2, rfl, hR⟩), Kp.refl _ _⟩
  · obtain rfl : n = 15 := by omega
    obtain ⟨m, em⟩ : ∃ m, m = H.length := ⟨_, rfl⟩
    rw [← em] at CH
    have hci : ¬ (m : Int) ≤ 15 := by omega
    have hci2 : (15 : Int) < (m : Int) := by omega
    have e15 : ((15 : Nat) : Int) = 15 := rfl
    rw [e15] at CP CF
    clear hn e15 em hc hle
    go_enter Tryd.func69, Tryd.ntmps69
    go_wp2_with fail
    refine CH.mono ?_
    rintro e w1 ⟨rfl, hw1⟩
    subst w1
    go_wp2_with fail
    refine CP.mono ?_
    rintro e w1 ⟨rfl, hw1⟩
    subst w1
    go_wp2_with fail
    refine CF.mono ?_
    rintro e w1 ⟨sy, le, er, rfl, hF, hw1⟩
    subst w1
    rcases hF with ⟨s, h1, rfl, rfl, rfl⟩ | ⟨h1, h2, rfl, rfl, rfl⟩ | ⟨h1, h2, rfl, rfl, rfl⟩
    · have CT := HCT.out s h1 (HLN.out s h1).2
      have HB : Hid (Beg zs H s) := h1
      have hl0 : ¬ (ln zs s : Int) = 0 := by have := (HLN.out s h1).1; omega
      clear h1
      go_wp2_with fail
      refine CT.mono ?_
      rintro e w1 ⟨⟨x, y, rfl⟩, h3, h4⟩
      go_wp2_with fail
      go_ret3
      exact ⟨.inl ⟨s, HB.out, rfl, h3⟩, Kp.grown h4 (fun i hi => by cases hi; rfl)⟩
    · have HB : Hid ((∀ s, ¬ Beg zs H s) ∧ May zs H) := ⟨h1, h2⟩
      clear h1 h2
      go_wp2_with fail
      go_ret3
      exact ⟨.inr (.inl ⟨HB.out.1, HB.out.2, rfl, hR⟩), Kp.refl _ _⟩
    · have HB : Hid ((∀ s, ¬ Beg zs H s) ∧ ¬ May zs H) := ⟨h1, h2⟩
      clear h1 h2
      go_wp2_with fail
      go_ret3
      exact ⟨.inr (.inr ⟨HB.out.1, HB.out.2, rfl, hR⟩), Kp.refl _ _⟩
end Go.Proofs.YtmddnmpldmdllaaDoor

namespace Go.Proofs.YtmddnmpldmdllaaDoor
open Go.RowKit
set_option linter.unusedVariables false

/-! The document's ring (sapperref06): all bytes that were put in. -/
structure RgA (w : World) (b B S : Nat) (a : Option Addr) (cap : Nat) (L : List Int) : Prop where
  hp : w.heap[b]? = some (.cells #[.int .i64 (S : Int), .slice a L.length cap] 158 (0, 0))
  own : w.ownsRow B 5 1 (.slice a L.length cap) L.length (L.map (Value.int .u8))
  ne : (Value.slice a L.length cap).ownBlock ≠ some b
  bB : B ≤ w.heap.size
  bd : ∀ z ∈ L, 0 ≤ z ∧ z ≤ 255
def RgR (w : World) (b B S : Nat) (v : Value) (L : List Int) : Prop := ∃ a cap, v = .slice a L.length cap ∧ RgA w b B S a cap L
variable {w w' : World} {b B S : Nat} {v : Value} {L : List Int} {a : Option Addr} {cap : Nat}
theorem RgA.b_lt (h : RgA w b B S a cap L) : b < w.heap.size := (Array.getElem?_eq_some_iff.1 h.hp).1
theorem RgR.b_lt (h : RgR w b B S v L) : b < w.heap.size := by
  obtain ⟨a, c, rfl, h⟩ := h
  exact h.b_lt
theorem RgR.own_lt (h : RgR w b B S v L) : ∀ k, v.ownBlock = some k → B ≤ k ∧ k < w.heap.size ∧ k ≠ b := by
  obtain ⟨a, c, rfl, h⟩ := h
  intro k e
  have := h.own.lt k e
  exact ⟨this.1, this.2, fun e2 => h.ne (by rw [e, e2])⟩
theorem RgR.kp {Q : Nat → Prop} (h : RgR w b B S v L) (hk : Kp Q w w') (h1 : ¬ Q b) (h2 : ∀ k, v.ownBlock = some k → ¬ Q k) : RgR w' b B S v L := by
  obtain ⟨a, c, rfl, h⟩ := h
  exact ⟨a, c, rfl, hk.heap h.hp h1, own_kp h.own hk h2, h.ne, Nat.le_trans h.bB hk.size, h.bd⟩
theorem RgR.old (h : RgR w b B S v L) (hb : Below w.heap.size w w') : RgR w' b B S v L := h.kp (Q := fun _ => False) (Kp.of_below hb) (by simp) (by simp)
theorem RgR.bd (h : RgR w b B S v L) : ∀ z ∈ L, 0 ≤ z ∧ z ≤ 255 := by
  obtain ⟨a, c, rfl, h⟩ := h
  exact h.bd
/-- How many bytes are held. -/
def heldN (S : Nat) (L : List Int) : Nat := min L.length S
def atV (S : Nat) (L : List Int) (d : Int) : Int := if 1 ≤ d ∧ d ≤ (heldN S L : Int) then L.getD (L.length - d.toNat) 0 else 0
def atE (S : Nat) (L : List Int) (d : Int) : Int := if 1 ≤ d ∧ d ≤ (heldN S L : Int) then 0 else 61
end Go.Proofs.YtmddnmpldmdllaaDoor

namespace Go.Proofs.YtmddnmpldmdllaaDoor
open Go.RowKit
set_option linter.unusedVariables false

theorem info_u8r : (Tryd.prog.info? 5).map (fun i => (i.zero, i.size, i.bytes)) = some (some (.int .u8 0), 1, 1) := by kernel_rfl
theorem own_nilcap6 {w : World} {base n c : Nat} {e : TypeId} {b : Option Addr} {xs : List Value} (h : w.ownsRow base e 1 (.slice b n c) n xs) : b = none → c = 0 := by
  rcases h.2 with ⟨h1, h2⟩ | ⟨g, cp, cur, h1, _⟩
  · simp only [Value.slice.injEq] at h1
    exact fun _ => h1.2.2
  · simp only [Value.slice.injEq] at h1
    intro h
    rw [h] at h1
    cases h1.1
theorem below_own6 {w w' : World} {base n : Nat} {e : TypeId} {v : Value} {xs : List Value} (hown : w.ownsRow base e 1 v n xs) (hg : w.grownBy w' v.ownBlock) (hb : base ≤ w.heap.size) : Below base w w' := (Below.refl _ _).grown hg hb (fun k hk => (hown.lt k hk).1)
end Go.Proofs.YtmddnmpldmdllaaDoor

namespace Go.Proofs.YtmddnmpldmdllaaDoor
open Go.RowKit
set_option linter.unusedVariables false

/-- All bytes behind n copied ones, each of them so far back. -/
def cpyA (L : List Int) (d : Nat) : Nat → List Int
  | 0 => L
  | n + 1 => cpyA L d n ++ [(cpyA L d n).getD ((cpyA L d n).length - d) 0]
theorem cpyA_len (L : List Int) (d : Nat) : ∀ n, (cpyA L d n).length = L.length + n
  | 0 => rfl
  | n + 1 => by unfold cpyA; rw [List.length_append, cpyA_len L d n]; rfl
def cpyO (L : List Int) (d n : Nat) : List Int := (cpyA L d n).drop L.length
theorem cpyO_zero (L : List Int) (d : Nat) : cpyO L d 0 = [] := by simp [cpyO, cpyA]
theorem cpyO_succ (L : List Int) (d n : Nat) : cpyO L d (n + 1) = cpyO L d n ++ [(cpyA L d n).getD ((cpyA L d n).length - d) 0] := by
  unfold cpyO
  rw [cpyA, List.drop_append_of_le_length (by rw [cpyA_len]; omega)]
theorem cpyO_len (L : List Int) (d n : Nat) : (cpyO L d n).length = n := by unfold cpyO; rw [List.length_drop, cpyA_len]; omega
def copyOk (S : Nat) (L : List Int) (d n : Int) : Prop := 0 ≤ n ∧ n ≤ 258 ∧ 1 ≤ d ∧ d ≤ (heldN S L : Int)
theorem seg_one6 (w : World) (z : Int) (hz : 0 ≤ z ∧ z ≤ 255) : Seg (w.alloc (.cells #[.int .u8 z] 5)) (some ⟨w.heap.size, 0, none⟩) [z] := by
  refine ⟨fun i hi => ⟨w.heap.size, 0, rfl, ?_⟩, by decide, getD_bd (by decide) (by intro y hy; simp at hy; subst hy; exact hz)⟩
  simp only [List.length_cons, List.length_nil] at hi
  obtain rfl : i = 0 := by omega
  simp
end Go.Proofs.YtmddnmpldmdllaaDoor

namespace Go.Proofs.YtmddnmpldmdllaaDoor
open Go.RowKit
set_option linter.unusedVariables false

/-- As wpList_app, as one step of a region that draws its order. -/
theorem step_app {P : Program} {ops : Array Oper} {o : Oper} {a : Act} {K : Act → World → Prop} {Q : Exit → Act → World → Prop} {E : Prop} (hgd : o.guard = none) (s x : Operand) (t : TypeId)
    (ho : o.op = .call { callee := .builtin .append, args := #[s, x], argTypes := #[t, t] })
    (base : Nat) (e : TypeId) (i : TypeInfo) (z : Value) (bytes : Nat) (ht : P.underlying t = some (.slice e)) (hi : P.info? e = some i) (hz : i.zero = some z)
    (hsize : i.size = 1) (hby : i.bytes = bytes) (hzs : z.cells.size = 1)
    {w : World} {v : Value} {n : Nat} {xs : List Value} (hown : w.ownsRow base e 1 v n xs) {ad : Addr} {m cap : Nat} {news : List Value} (hl : news.length = m) (hnews : ∀ j u, news[j]? = some u → w.cell? (ad.add j) = some u) (h1 : ∀ u ∈ news, u.oneCell' = true)
    (hs : a.eval s = v) (hx : a.eval x = .slice (some ad) m cap)
    (h63 : n + m ≤ 140737488355328) (hbytes : (n + m) * bytes ≤ 140737488355328) (hbase : base ≤ w.heap.size)
    (h : ∀ (b : Option Addr) (c : Nat) (w' : World), w'.ownsRow base e 1 (.slice b (n + m) c) (n + m) (xs ++ news) → w.grownBy w' v.ownBlock → Fresh w v (.slice b (n + m) c) → K (a.put o.dst (.slice b (n + m) c)) w') :
    if Region.wanted o (yielded ops a.tmps) = true then Oper.wp P o a w K Q else E := by
  have hw : Region.wanted o (yielded ops a.tmps) = true := by simp [Region.wanted, hgd]
  rw [if_pos hw]
  obtain ⟨v', w', hr, h2, h3, h4, h5⟩ := run_app_st (P := P) t o.type base e i z bytes ht hi hz hsize hby hzs w hown ad m cap news hl hnews h1 h63 hbytes hbase
  obtain ⟨b, c, rfl⟩ : ∃ b c, v' = .slice b (n + m) c := by
    rcases h2.2 with ⟨rfl, h0⟩ | ⟨g, cp, cur, rfl, _⟩
    · exact ⟨none, 0, by rw [h0]⟩
    · exact ⟨_, _, rfl⟩
  unfold Oper.wp execOp
  simp only [ho, resolve, invoke, builtin, Sem.run_bind, Sem.run_pure, Result.andThen_ok, List.map_toArray, List.map_cons, List.map_nil, hs, hx, hr]
  exact h b c w' h2 h3 h5
theorem step_app_none {P : Program} {ops : Array Oper} {o : Oper} {a : Act} {w : World} {K : Act → World → Prop} {Q : Exit → Act → World → Prop} {E : Prop} (hgd : o.guard = none) (s x : Operand) (t : TypeId)
    (ho : o.op = .call { callee := .builtin .append, args := #[s, x], argTypes := #[t, t] }) (base : Nat) (e : TypeId) (i : TypeInfo) (size : Nat) (ht : P.underlying t = some (.slice e)) (hi : P.info? e = some i)
    (v : Value) (n : Nat) (xs : List Value) (hs : a.eval s = v) (hown : w.ownsRow base e size v n xs) (hx : a.eval x = .slice none 0 0) (h : K (a.put o.dst v) w) :
    if Region.wanted o (yielded ops a.tmps) = true then Oper.wp P o a w K Q else E := by
  have hw : Region.wanted o (yielded ops a.tmps) = true := by simp [Region.wanted, hgd]
  rw [if_pos hw]
  have hrun := run_append_owned_none (P := P) (w := w) base t o.type e i size ht hi v n xs hown
  unfold Oper.wp
  simp [execOp, ho, resolve, invoke, builtin, hs, hx, hrun, Result.andThen]
  exact h
end Go.Proofs.YtmddnmpldmdllaaDoor
