import Derived.Test.YtkpfailmmcelcaaPo
import Derived.Test.YtkpfailmmcelcaaPq
import Derived.Laws.Rows
import Derived.Deep.RegionHeld3
namespace Go.Proofs.Ytkpfailmmcelcaa
open Go.RowKit
set_option linter.unusedVariables false

/-! The landed find: made, side, begin, end, Range, Count. -/
/-- An index in memory, whatever its blocks. -/
def IX14 (w : World) (b n : Nat) (z : List Int) (A : List Nat) : Prop := ∃ da dc aa ac gb gr, Ix13 w b da dc aa ac gb gr n z A
theorem IX14.old {w w' : World} {b n : Nat} {z : List Int} {A : List Nat} (h : IX14 w b n z A) (hb : Below w.heap.size w w') : IX14 w' b n z A := by
  obtain ⟨da, dc, aa, ac, gb, gr, h⟩ := h
  exact ⟨da, dc, aa, ac, gb, gr, h.old hb⟩
theorem IX14.len {w : World} {b n : Nat} {z : List Int} {A : List Nat} (h : IX14 w b n z A) : z.length = n := by
  obtain ⟨da, dc, aa, ac, gb, gr, h⟩ := h
  exact h.len
theorem IX14.n24 {w : World} {b n : Nat} {z : List Int} {A : List Nat} (h : IX14 w b n z A) : n ≤ 16777216 := by
  obtain ⟨da, dc, aa, ac, gb, gr, h⟩ := h
  exact h.n24
theorem IX14.ar {w : World} {b n : Nat} {z : List Int} {A : List Nat} (h : IX14 w b n z A) : Ar12 n (S12 z) A := by
  obtain ⟨da, dc, aa, ac, gb, gr, h⟩ := h
  exact h.ar
theorem IX14.arz {w : World} {b n : Nat} {z : List Int} {A : List Nat} (h : IX14 w b n z A) : Ar12 z.length (S12 z) A := by
  rw [h.len]
  exact h.ar
theorem IX14.lt {w : World} {b n : Nat} {z : List Int} {A : List Nat} (h : IX14 w b n z A) : b < w.heap.size := by
  obtain ⟨da, dc, aa, ac, gb, gr, h⟩ := h
  exact World.block_lt_of_cell? w _ h.c0
theorem IX14.len_ {w : World} {b n : Nat} {z : List Int} {A : List Nat} (h : IX14 w b n z A) :
    Calls Try.prog 24 #[.pointer (some ⟨b, 0, none⟩)] w fun e w' => e = .returned (.int .i64 (n : Int)) ∧ w' = w := by
  obtain ⟨da, dc, aa, ac, gb, gr, h⟩ := h
  exact plen13 b da dc aa ac gb gr n z A w h
theorem IX14.at_ {w : World} {b n : Nat} {z : List Int} {A : List Nat} (h : IX14 w b n z A) {r : Nat} (hr : r < n) :
    Calls Try.prog 26 #[.pointer (some ⟨b, 0, none⟩), .int .i64 (r : Int)] w fun e w' => e = .returned (.tuple #[.int .i64 ((A.getD r 0 : Nat) : Int), .int .i64 0]) ∧ Below w.heap.size w w' := by
  obtain ⟨da, dc, aa, ac, gb, gr, h⟩ := h
  exact pat13 b da dc aa ac gb gr n z A r w h hr
theorem IX14.atn {w : World} {b n : Nat} {z : List Int} {A : List Nat} (h : IX14 w b n z A) {r : Int} (hb : -9223372036854775808 ≤ r ∧ r ≤ 9223372036854775807) (hr : ¬ (0 ≤ r ∧ r < (n : Int))) :
    Calls Try.prog 26 #[.pointer (some ⟨b, 0, none⟩), .int .i64 r] w fun e w' => e = .returned (.tuple #[.int .i64 0, .int .i64 132]) ∧ Below w.heap.size w w' := by
  obtain ⟨da, dc, aa, ac, gb, gr, h⟩ := h
  exact patn13 b da dc aa ac gb gr n z A r w h hb hr
theorem IX14.cmp {w : World} {b n : Nat} {z : List Int} {A : List Nat} (h : IX14 w b n z A) {i : Nat} {pa : Option Addr} {p : List Int} {m pc : Nat} (hp : Seg w pa p) (hm : Hid (p.length = m)) (hmb : m ≤ 9223372036854775807) (hi : i < n) :
    Calls Try.prog 51 #[.pointer (some ⟨b, 0, none⟩), .int .i64 (i : Int), .slice pa m pc] w fun e w' => e = .returned (.tuple #[.int .i64 (cv13 (z.drop i) p), .int .i64 ((lc13 (z.drop i) p : Nat) : Int), .int .i64 0]) ∧ Below w.heap.size w w' := by
  obtain ⟨da, dc, aa, ac, gb, gr, h⟩ := h
  exact pcmp13 b da dc aa ac gb gr n z A i pa p m pc w h hp hm hmb hi
set_option maxRecDepth 100000 in
theorem pmd14 (b n : Nat) (z : List Int) (A : List Nat) (w : World) (h : IX14 w b n z A) :
    Calls Try.prog 15 #[.pointer (some ⟨b, 0, none⟩)] w fun e w' => e = .returned (.bool true) ∧ Below w.heap.size w w' := by
  by_cases hn : 0 < n
  · have HA := h.at_ hn
    clear h
    go_enter Try.func15, Try.ntmps15
    go_wp2_with (first
      | (go_at_call 26; refine HA.mono ?_; rintro e1 w1 ⟨rfl, B1⟩))
    go_ret
    exact ⟨rfl, B1⟩
  · have HA := h.atn (r := 0) (by omega) (by omega)
    clear h
    go_enter Try.func15, Try.ntmps15
    go_wp2_with (first
      | (go_at_call 26; refine HA.mono ?_; rintro e1 w1 ⟨rfl, B1⟩))
    go_ret
    exact ⟨rfl, B1⟩
set_option maxRecDepth 100000 in
set_option maxHeartbeats 1000000 in
theorem pside14 (b n : Nat) (z : List Int) (A : List Nat) (r : Nat) (pa : Option Addr) (p : List Int) (m pc : Nat) (w : World) (h : IX14 w b n z A) (hp : Seg w pa p) (hm : Hid (p.length = m)) (hmb : m ≤ 9223372036854775807) (hr : r < n) :
    Calls Try.prog 38 #[.pointer (some ⟨b, 0, none⟩), .int .i64 (r : Int), .slice pa m pc] w fun e w' => e = .returned (.int .i64 (cv13 (z.drop (A.getD r 0)) p)) ∧ Below w.heap.size w w' := by
  have HA := h.at_ hr
  have HC : Hid (∀ W, Below w.heap.size w W → Calls Try.prog 51 #[.pointer (some ⟨b, 0, none⟩), .int .i64 ((A.getD r 0 : Nat) : Int), .slice pa m pc] W fun e w' => e = .returned (.tuple #[.int .i64 (cv13 (z.drop (A.getD r 0)) p), .int .i64 ((lc13 (z.drop (A.getD r 0)) p : Nat) : Int), .int .i64 0]) ∧ Below W.heap.size W w') := fun W hb => (h.old hb).cmp (hp.old hb) hm hmb (h.ar.get hr)
  clear h hp
  generalize cv13 (z.drop (A.getD r 0)) p = c at *
  generalize lc13 (z.drop (A.getD r 0)) p = l at *
  generalize A.getD r 0 = v at *
  go_enter Try.func38, Try.ntmps38
  go_wp2_with (first
    | (go_at_call 26; refine HA.mono ?_; rintro e1 w1 ⟨rfl, B1⟩)
    | (go_at_call 51; refine (HC.out w1 B1).mono ?_; rintro e2 w2 ⟨rfl, B2⟩))
  go_ret
  exact ⟨rfl, B1.trans (B2.mono B1.size)⟩
set_option maxRecDepth 100000 in
set_option maxHeartbeats 1000000 in
theorem pclo14_lo (q b n : Nat) (z : List Int) (A : List Nat) (r : Nat) (pa : Option Addr) (p : List Int) (m pc : Nat) (w : World) (h : IX14 w b n z A) (hq : w.cell? ⟨q, 0, none⟩ = some (.pointer (some ⟨b, 0, none⟩))) (hp : Seg w pa p) (hm : Hid (p.length = m)) (hmb : m ≤ 9223372036854775807) (hr : r < n) :
    Calls Try.prog 37 #[.int .i64 (r : Int), .slice pa m pc, .pointer (some ⟨q, 0, none⟩)] w fun e w' => e = .returned (.bool (decide (cv13 (z.drop (A.getD r 0)) p < 0))) ∧ Below w.heap.size w w' := by
  have HS := pside14 b n z A r pa p m pc w h hp hm hmb hr
  have hbd := cv13_bd (z.drop (A.getD r 0)) p
  clear h hp
  generalize cv13 (z.drop (A.getD r 0)) p = c at *
  go_enter Try.func37, Try.ntmps37
  go_wp2_with (first
    | (go_at_call 38; refine HS.mono ?_; rintro e1 w1 ⟨rfl, B1⟩))
  go_ret
  exact ⟨by first | rfl | simp, B1⟩
set_option maxRecDepth 100000 in
set_option maxHeartbeats 2000000 in
theorem pbnd14_lo (q b n : Nat) (z : List Int) (A : List Nat) (f t c : Nat) (pa : Option Addr) (p : List Int) (m pc : Nat) (w : World) (h : IX14 w b n z A) (hq : w.cell? ⟨q, 0, none⟩ = some (.pointer (some ⟨b, 0, none⟩))) (hp : Seg w pa p) (hm : Hid (p.length = m)) (hmb : m ≤ 9223372036854775807) (hfc : f ≤ c) (hct : c ≤ t) (htn : t ≤ n)
    (hc : ∀ r, f ≤ r → r < t → (cv13 (z.drop (A.getD r 0)) p < 0 ↔ r < c)) :
    Calls Try.prog 36 #[.int .i64 (f : Int), .int .i64 (t : Int), .slice pa m pc, .func (.func 37) #[] #[.pointer (some ⟨q, 0, none⟩)]] w fun e w' => e = .returned (.int .i64 (c : Int)) ∧ Below w.heap.size w w' := by
  have hn24 := h.n24
  have HC : Hid (∀ r, f ≤ r → r < t → (cv13 (z.drop (A.getD r 0)) p < 0 ↔ r < c)) := hc
  have HK : Hid (∀ r W, f ≤ r → r < t → Below w.heap.size w W → Calls Try.prog 37 #[.int .i64 (r : Int), .slice pa m pc, .pointer (some ⟨q, 0, none⟩)] W fun e w' => e = .returned (.bool (decide (r < c))) ∧ Below w.heap.size w w') := fun r W h1 h2 hb =>
    (pclo14_lo q b n z A r pa p m pc W (h.old hb) ((hb.cell (p := ⟨q, 0, none⟩) (World.block_lt_of_cell? w _ hq)).trans hq) (hp.old hb) hm hmb (by omega)).mono fun e w' ⟨he, hB⟩ => ⟨by rw [he, decide_eq_decide.2 (HC.out r h1 h2)], hb.trans (hB.mono hb.size)⟩
  clear h hp hq hc HC
  go_enter Try.func36, Try.ntmps36
  go_wp2_with fail
  go_loopw [0, 1] (fun ti tj wr => ∃ i j : Nat, f ≤ i ∧ i ≤ c ∧ c ≤ j ∧ j ≤ t ∧ ti = .int .i64 (i : Int) ∧ tj = .int .i64 (j : Int) ∧ Below w.heap.size w wr) (fun ti tj _ => (intOf tj).toNat - (intOf ti).toNat)
  case atStart => exact ⟨f, t, Nat.le_refl _, hfc, hct, Nat.le_refl _, rfl, rfl, Below.refl _ _⟩
  case round =>
    obtain ⟨i, j, h1, h2, h3, h4, rfl, rfl, BR⟩ := hrel
    by_cases hlt : i < j
    · have hlti : (i : Int) < (j : Int) := by omega
      obtain ⟨md, hmd⟩ : ∃ md, md = i + (j - i) / 2 := ⟨_, rfl⟩
      have hmi : (i : Int) + ((j : Int) - (i : Int)) / 2 = (md : Int) := by omega
      have him : i ≤ md ∧ md < j := by omega
      have CC := HK.out md wr (by omega) (by omega) BR
      have i1 : IntKind.i64.wrap ((j : Int) - (i : Int)) = (j : Int) - (i : Int) := IntWalk.i64_in _ (by omega)
      have i3 : ((j : Int) - (i : Int)).tdiv 2 = ((j : Int) - (i : Int)) / 2 := Int.tdiv_eq_ediv_of_nonneg (by omega)
      clear hmd
      go_wp2_with fail
      refine CC.mono ?_
      rintro e w2 ⟨rfl, B2⟩
      clear CC
      by_cases hz : md < c
      · rw [decide_eq_true hz]
        go_wp2_with fail
        go_roundw
        case rel => exact ⟨md + 1, j, by omega, by omega, by omega, by omega, by first | rfl | go_num, rfl, B2⟩
        case measure => simp [intOf]; omega
      · rw [decide_eq_false hz]
        go_wp2_with fail
        go_roundw
        case rel => exact ⟨i, md, by omega, by omega, by omega, by omega, rfl, by first | rfl | go_num, B2⟩
        case measure => simp [intOf]; omega
    · have hlti : ¬ (i : Int) < (j : Int) := by omega
      obtain rfl : i = c := by omega
      go_wp2_with fail
      go_ret
      exact ⟨rfl, BR⟩
set_option maxRecDepth 100000 in
set_option maxHeartbeats 1000000 in
theorem pbegin14 (b n : Nat) (z : List Int) (A : List Nat) (f t c : Nat) (pa : Option Addr) (p : List Int) (m pc : Nat) (w : World) (h : IX14 w b n z A) (hp : Seg w pa p) (hm : Hid (p.length = m)) (hmb : m ≤ 9223372036854775807) (hfc : f ≤ c) (hct : c ≤ t) (htn : t ≤ n)
    (hc : ∀ r, f ≤ r → r < t → (cv13 (z.drop (A.getD r 0)) p < 0 ↔ r < c)) :
    Calls Try.prog 23 #[.pointer (some ⟨b, 0, none⟩), .int .i64 (f : Int), .int .i64 (t : Int), .slice pa m pc] w fun e w' => e = .returned (.int .i64 (c : Int)) ∧ Below w.heap.size w w' := by
  have hmf : ∀ (fn : Fn) (first cap : Array Value) (w : World), (Instr.makeFunc fn first cap).run Try.prog w = .ok (.func fn first cap) w := fun _ _ _ _ => rfl
  have hbl := h.lt
  obtain ⟨W, hW⟩ : ∃ W, W = w.alloc (.cells #[.pointer (some ⟨b, 0, none⟩)] 23) := ⟨_, rfl⟩
  have BW : Below w.heap.size w W := by rw [hW]; exact (Below.refl _ _).alloc (Nat.le_refl _) _
  have cq : W.cell? ⟨w.heap.size, 0, none⟩ = some (.pointer (some ⟨b, 0, none⟩)) := by rw [hW, World.cell?_alloc_mark]; rfl
  have HB := pbnd14_lo w.heap.size b n z A f t c pa p m pc W (h.old BW) cq (hp.old BW) hm hmb hfc hct htn hc
  rw [hW] at HB BW
  clear h hp hc hW cq
  go_enter Try.func23, Try.ntmps23
  go_wp2_with (first
    | (go_at_call 36; refine HB.mono ?_; rintro e1 w1 ⟨rfl, B1⟩))
  go_ret
  exact ⟨rfl, BW.trans (B1.mono BW.size)⟩
set_option maxRecDepth 100000 in
set_option maxHeartbeats 1000000 in
theorem pclo14_hi (q b n : Nat) (z : List Int) (A : List Nat) (r : Nat) (pa : Option Addr) (p : List Int) (m pc : Nat) (w : World) (h : IX14 w b n z A) (hq : w.cell? ⟨q, 0, none⟩ = some (.pointer (some ⟨b, 0, none⟩))) (hp : Seg w pa p) (hm : Hid (p.length = m)) (hmb : m ≤ 9223372036854775807) (hr : r < n) :
    Calls Try.prog 40 #[.int .i64 (r : Int), .slice pa m pc, .pointer (some ⟨q, 0, none⟩)] w fun e w' => e = .returned (.bool (decide (cv13 (z.drop (A.getD r 0)) p ≤ 0))) ∧ Below w.heap.size w w' := by
  have HS := pside14 b n z A r pa p m pc w h hp hm hmb hr
  have hbd := cv13_bd (z.drop (A.getD r 0)) p
  clear h hp
  generalize cv13 (z.drop (A.getD r 0)) p = c at *
  go_enter Try.func40, Try.ntmps40
  go_wp2_with (first
    | (go_at_call 38; refine HS.mono ?_; rintro e1 w1 ⟨rfl, B1⟩))
  go_ret
  exact ⟨by first | rfl | simp, B1⟩
set_option maxRecDepth 100000 in
set_option maxHeartbeats 2000000 in
theorem pbnd14_hi (q b n : Nat) (z : List Int) (A : List Nat) (f t c : Nat) (pa : Option Addr) (p : List Int) (m pc : Nat) (w : World) (h : IX14 w b n z A) (hq : w.cell? ⟨q, 0, none⟩ = some (.pointer (some ⟨b, 0, none⟩))) (hp : Seg w pa p) (hm : Hid (p.length = m)) (hmb : m ≤ 9223372036854775807) (hfc : f ≤ c) (hct : c ≤ t) (htn : t ≤ n)
    (hc : ∀ r, f ≤ r → r < t → (cv13 (z.drop (A.getD r 0)) p ≤ 0 ↔ r < c)) :
    Calls Try.prog 36 #[.int .i64 (f : Int), .int .i64 (t : Int), .slice pa m pc, .func (.func 40) #[] #[.pointer (some ⟨q, 0, none⟩)]] w fun e w' => e = .returned (.int .i64 (c : Int)) ∧ Below w.heap.size w w' := by
  have hn24 := h.n24
  have HC : Hid (∀ r, f ≤ r → r < t → (cv13 (z.drop (A.getD r 0)) p ≤ 0 ↔ r < c)) := hc
  have HK : Hid (∀ r W, f ≤ r → r < t → Below w.heap.size w W → Calls Try.prog 40 #[.int .i64 (r : Int), .slice pa m pc, .pointer (some ⟨q, 0, none⟩)] W fun e w' => e = .returned (.bool (decide (r < c))) ∧ Below w.heap.size w w') := fun r W h1 h2 hb =>
    (pclo14_hi q b n z A r pa p m pc W (h.old hb) ((hb.cell (p := ⟨q, 0, none⟩) (World.block_lt_of_cell? w _ hq)).trans hq) (hp.old hb) hm hmb (by omega)).mono fun e w' ⟨he, hB⟩ => ⟨by rw [he, decide_eq_decide.2 (HC.out r h1 h2)], hb.trans (hB.mono hb.size)⟩
  clear h hp hq hc HC
  go_enter Try.func36, Try.ntmps36
  go_wp2_with fail
  go_loopw [0, 1] (fun ti tj wr => ∃ i j : Nat, f ≤ i ∧ i ≤ c ∧ c ≤ j ∧ j ≤ t ∧ ti = .int .i64 (i : Int) ∧ tj = .int .i64 (j : Int) ∧ Below w.heap.size w wr) (fun ti tj _ => (intOf tj).toNat - (intOf ti).toNat)
  case atStart => exact ⟨f, t, Nat.le_refl _, hfc, hct, Nat.le_refl _, rfl, rfl, Below.refl _ _⟩
  case round =>
    obtain ⟨i, j, h1, h2, h3, h4, rfl, rfl, BR⟩ := hrel
    by_cases hlt : i < j
    · have hlti : (i : Int) < (j : Int) := by omega
      obtain ⟨md, hmd⟩ : ∃ md, md = i + (j - i) / 2 := ⟨_, rfl⟩
      have hmi : (i : Int) + ((j : Int) - (i : Int)) / 2 = (md : Int) := by omega
      have him : i ≤ md ∧ md < j := by omega
      have CC := HK.out md wr (by omega) (by omega) BR
      have i1 : IntKind.i64.wrap ((j : Int) - (i : Int)) = (j : Int) - (i : Int) := IntWalk.i64_in _ (by omega)
      have i3 : ((j : Int) - (i : Int)).tdiv 2 = ((j : Int) - (i : Int)) / 2 := Int.tdiv_eq_ediv_of_nonneg (by omega)
      clear hmd
      go_wp2_with fail
      refine CC.mono ?_
      rintro e w2 ⟨rfl, B2⟩
      clear CC
      by_cases hz : md < c
      · rw [decide_eq_true hz]
        go_wp2_with fail
        go_roundw
        case rel => exact ⟨md + 1, j, by omega, by omega, by omega, by omega, by first | rfl | go_num, rfl, B2⟩
        case measure => simp [intOf]; omega
      · rw [decide_eq_false hz]
        go_wp2_with fail
        go_roundw
        case rel => exact ⟨i, md, by omega, by omega, by omega, by omega, rfl, by first | rfl | go_num, B2⟩
        case measure => simp [intOf]; omega
    · have hlti : ¬ (i : Int) < (j : Int) := by omega
      obtain rfl : i = c := by omega
      go_wp2_with fail
      go_ret
      exact ⟨rfl, BR⟩
set_option maxRecDepth 100000 in
set_option maxHeartbeats 1000000 in
theorem pend14 (b n : Nat) (z : List Int) (A : List Nat) (f t c : Nat) (pa : Option Addr) (p : List Int) (m pc : Nat) (w : World) (h : IX14 w b n z A) (hp : Seg w pa p) (hm : Hid (p.length = m)) (hmb : m ≤ 9223372036854775807) (hfc : f ≤ c) (hct : c ≤ t) (htn : t ≤ n)
    (hc : ∀ r, f ≤ r → r < t → (cv13 (z.drop (A.getD r 0)) p ≤ 0 ↔ r < c)) :
    Calls Try.prog 25 #[.pointer (some ⟨b, 0, none⟩), .int .i64 (f : Int), .int .i64 (t : Int), .slice pa m pc] w fun e w' => e = .returned (.int .i64 (c : Int)) ∧ Below w.heap.size w w' := by
  have hmf : ∀ (fn : Fn) (first cap : Array Value) (w : World), (Instr.makeFunc fn first cap).run Try.prog w = .ok (.func fn first cap) w := fun _ _ _ _ => rfl
  have hbl := h.lt
  obtain ⟨W, hW⟩ : ∃ W, W = w.alloc (.cells #[.pointer (some ⟨b, 0, none⟩)] 23) := ⟨_, rfl⟩
  have BW : Below w.heap.size w W := by rw [hW]; exact (Below.refl _ _).alloc (Nat.le_refl _) _
  have cq : W.cell? ⟨w.heap.size, 0, none⟩ = some (.pointer (some ⟨b, 0, none⟩)) := by rw [hW, World.cell?_alloc_mark]; rfl
  have HB := pbnd14_hi w.heap.size b n z A f t c pa p m pc W (h.old BW) cq (hp.old BW) hm hmb hfc hct htn hc
  rw [hW] at HB BW
  clear h hp hc hW cq
  go_enter Try.func25, Try.ntmps25
  go_wp2_with (first
    | (go_at_call 36; refine HB.mono ?_; rintro e1 w1 ⟨rfl, B1⟩))
  go_ret
  exact ⟨rfl, BW.trans (B1.mono BW.size)⟩
/-- Of the whole of the ranks. -/
theorem lo_all14 {z : List Int} {A : List Nat} {n : Nat} (hl : z.length = n) (hA : Ar12 n (S12 z) A) (p : List Int) : 0 ≤ lo14 z p ∧ lo14 z p ≤ n ∧ ∀ r, 0 ≤ r → r < n → (cv13 (z.drop (A.getD r 0)) p < 0 ↔ r < lo14 z p) := by
  subst hl
  exact ⟨Nat.zero_le _, lo14_le z p, fun r _ hr => lo14_iff hA p hr⟩
theorem hi_all14 {z : List Int} {A : List Nat} {n : Nat} (hl : z.length = n) (hA : Ar12 n (S12 z) A) (p : List Int) (f : Nat) (hf : f ≤ hi14 z p) : hi14 z p ≤ n ∧ ∀ r, f ≤ r → r < n → (cv13 (z.drop (A.getD r 0)) p ≤ 0 ↔ r < hi14 z p) := by
  subst hl
  exact ⟨hi14_le z p, fun r _ hr => hi14_iff hA p hr⟩
set_option maxRecDepth 100000 in
set_option maxHeartbeats 1000000 in
theorem prange14 (b n : Nat) (z : List Int) (A : List Nat) (pa : Option Addr) (p : List Int) (m pc : Nat) (w : World) (h : IX14 w b n z A) (hp : Seg w pa p) (hm : Hid (p.length = m)) (hmb : m ≤ 9223372036854775807) :
    Calls Try.prog 14 #[.pointer (some ⟨b, 0, none⟩), .slice pa m pc] w fun e w' => e = .returned (.tuple #[.int .i64 ((lo14 z p : Nat) : Int), .int .i64 ((hi14 z p : Nat) : Int), .int .i64 0]) ∧ Below w.heap.size w w' := by
  have HM := pmd14 b n z A w h
  have hn24 := h.n24
  obtain ⟨a1, a2, a3⟩ := lo_all14 h.len h.ar p
  obtain ⟨b2, b3⟩ := hi_all14 h.len h.ar p (lo14 z p) (lo14_le_hi z p)
  have hlh := lo14_le_hi z p
  have HL : Hid (∀ W, Below w.heap.size w W → Calls Try.prog 24 #[.pointer (some ⟨b, 0, none⟩)] W fun e w' => e = .returned (.int .i64 (n : Int)) ∧ w' = W) := fun W hb => (h.old hb).len_
  have HB : Hid (∀ W, Below w.heap.size w W → Calls Try.prog 23 #[.pointer (some ⟨b, 0, none⟩), .int .i64 0, .int .i64 (n : Int), .slice pa m pc] W fun e w' => e = .returned (.int .i64 ((lo14 z p : Nat) : Int)) ∧ Below w.heap.size w w') := fun W hb => (pbegin14 b n z A 0 n (lo14 z p) pa p m pc W (h.old hb) (hp.old hb) hm hmb a1 a2 (Nat.le_refl _) a3).mono fun e w' ⟨he, hB⟩ => ⟨he, hb.trans (hB.mono hb.size)⟩
  have HE : Hid (∀ W, Below w.heap.size w W → Calls Try.prog 25 #[.pointer (some ⟨b, 0, none⟩), .int .i64 ((lo14 z p : Nat) : Int), .int .i64 (n : Int), .slice pa m pc] W fun e w' => e = .returned (.int .i64 ((hi14 z p : Nat) : Int)) ∧ Below w.heap.size w w') := fun W hb => (pend14 b n z A (lo14 z p) n (hi14 z p) pa p m pc W (h.old hb) (hp.old hb) hm hmb hlh b2 (Nat.le_refl _) b3).mono fun e w' ⟨he, hB⟩ => ⟨he, hb.trans (hB.mono hb.size)⟩
  clear h hp a3 b3
  generalize lo14 z p = lo at *
  generalize hi14 z p = hi at *
  go_enter Try.func14, Try.ntmps14
  go_wp2_with (first
    | (go_at_call 15; refine HM.mono ?_; rintro e1 w1 ⟨rfl, B1⟩; clear HM)
    | (go_at_call 24; fail))
  refine (HL.out w1 B1).mono ?_
  rintro e2 w2 ⟨rfl, hw2⟩
  subst hw2
  go_wp2_with (first
    | (go_at_call 23; refine (HB.out w2 B1).mono ?_; rintro e3 w3 ⟨rfl, B3⟩)
    | (go_at_call 24; fail))
  refine (HL.out w3 B3).mono ?_
  rintro e4 w4 ⟨rfl, hw4⟩
  subst hw4
  go_wp2_with (first
    | (go_at_call 25; refine (HE.out w4 B3).mono ?_; rintro e5 w5 ⟨rfl, B5⟩))
  go_ret3
  exact ⟨rfl, B5⟩
end Go.Proofs.Ytkpfailmmcelcaa

namespace Go.Proofs.Ytkpfailmmcelcaa
open Go.RowKit
set_option linter.unusedVariables false

/-! The landed find: common, nearOf, longest, least, Longest; the document's Longest. -/
theorem IX14.cmpn {w : World} {b n : Nat} {z : List Int} {A : List Nat} (h : IX14 w b n z A) {r : Int} {pa : Option Addr} {m pc : Nat} (hb : -9223372036854775808 ≤ r ∧ r ≤ 9223372036854775807) (hr : ¬ (0 ≤ r ∧ r < (n : Int))) :
    Calls Try.prog 51 #[.pointer (some ⟨b, 0, none⟩), .int .i64 r, .slice pa m pc] w fun e w' => e = .returned (.tuple #[.int .i64 0, .int .i64 0, .int .i64 132]) ∧ Below w.heap.size w w' := by
  obtain ⟨da, dc, aa, ac, gb, gr, h⟩ := h
  exact pcmpn13 b da dc aa ac gb gr n z A r pa m pc w h hb hr
theorem IX14.rank {w : World} {b n : Nat} {z : List Int} {A : List Nat} (h : IX14 w b n z A) {j : Nat} (hr : j < n) :
    Calls Try.prog 31 #[.pointer (some ⟨b, 0, none⟩), .int .i64 (j : Int)] w fun e w' => e = .returned (.tuple #[.int .i64 ((rk13 A j : Nat) : Int), .int .i64 0]) ∧ Below w.heap.size w w' := by
  obtain ⟨da, dc, aa, ac, gb, gr, h⟩ := h
  exact prank13 b da dc aa ac gb gr n z A j w h hr
theorem lc13_drop14 : ∀ {X p : List Int} {K : Nat}, K ≤ lc13 X p → lc13 X p = K + lc13 (X.drop K) (p.drop K)
  | X, p, 0, _ => by simp
  | [], p, K + 1, h => by rw [lc13_nil] at h; omega
  | x :: X, [], K + 1, h => by rw [lc13_nil'] at h; omega
  | x :: X, y :: p, K + 1, h => by
    by_cases e : x = y
    · have e1 : lc13 (x :: X) (y :: p) = lc13 X p + 1 := by rw [lc13, if_pos e]
      rw [e1] at h ⊢
      rw [List.drop_succ_cons, List.drop_succ_cons]
      have := lc13_drop14 (X := X) (p := p) (K := K) (by omega)
      omega
    · have e1 : lc13 (x :: X) (y :: p) = 0 := by rw [lc13, if_neg e]
      omega
theorem max_cases14 (k : Int) : (k ≤ 0 ∧ max 0 k = 0) ∨ (0 < k ∧ max 0 k = k) := by omega
/-- What a call of common answers. -/
structure Cm14 (w : World) (b : Nat) (pa : Option Addr) (m pc : Nat) (rho kap : Int) (v : Nat) : Prop where
  out : ∀ W, Below w.heap.size w W → Calls Try.prog 47 #[.pointer (some ⟨b, 0, none⟩), .int .i64 rho, .slice pa m pc, .int .i64 kap] W fun e w' => e = .returned (.int .i64 (v : Int)) ∧ Below W.heap.size W w'
set_option maxRecDepth 100000 in
set_option maxHeartbeats 1000000 in
theorem pcomn14 {b n : Nat} {z : List Int} {A : List Nat} (rho : Int) (pa : Option Addr) (m pc : Nat) (kap : Int) {w : World} (h : IX14 w b n z A) (hb : -9223372036854775808 ≤ rho ∧ rho ≤ 9223372036854775807) (hr : ¬ (0 ≤ rho ∧ rho < (n : Int))) : Cm14 w b pa m pc rho kap 0 := by
  refine ⟨fun W hB => ?_⟩
  have HA := (h.old hB).atn hb hr
  clear h
  go_enter Try.func47, Try.ntmps47
  go_wp2_with (first
    | (go_at_call 26; refine HA.mono ?_; rintro e1 w1 ⟨rfl, B1⟩))
  go_ret
  exact ⟨rfl, B1⟩
set_option maxRecDepth 100000 in
set_option maxHeartbeats 2000000 in
theorem pcom14 {b n : Nat} {z : List Int} {A : List Nat} (r : Nat) {pa : Option Addr} {p : List Int} {m pc : Nat} (kap : Int) (K : Nat) {w : World} (h : IX14 w b n z A) (hp : Seg w pa p) (hm : Hid (p.length = m)) (hmb : m ≤ 140737488351232) (hpc : m ≤ pc) (hr : r < n) (hk1 : -9223372036854775808 ≤ kap) (hK : K = kap.toNat) (hKl : K ≤ lc13 (z.drop (A.getD r 0)) p) :
    Cm14 w b pa m pc (r : Int) kap (lc13 (z.drop (A.getD r 0)) p) := by
  refine ⟨fun W hB => ?_⟩
  have h := h.old hB
  have hp := hp.old hB
  have hn24 := h.n24
  have HA := h.at_ hr
  have hat := h.ar.get hr
  have hlc := lc13_drop14 hKl
  have hl1 := lc13_le (z.drop (A.getD r 0)) p
  have hl2 := lc13_le' (z.drop (A.getD r 0)) p
  rw [List.drop_drop] at hlc
  rw [List.length_drop, h.len] at hl1
  rw [hm.out] at hl2
  have HBW : Hid (∀ W', Below W.heap.size W W' → Below w.heap.size w W') := fun W' h' => hB.trans (h'.mono hB.size)
  have hKm : K ≤ m := by omega
  have hKn : A.getD r 0 + K ≤ n := by omega
  by_cases hend : A.getD r 0 + K < n
  · have HC : Hid (∀ W' pa' pc', Below W.heap.size W W' → Seg W' pa' (p.drop K) → Calls Try.prog 51 #[.pointer (some ⟨b, 0, none⟩), .int .i64 ((A.getD r 0 + K : Nat) : Int), .slice pa' (m - K) pc'] W' fun e w' => e = .returned (.tuple #[.int .i64 (cv13 (z.drop (A.getD r 0 + K)) (p.drop K)), .int .i64 ((lc13 (z.drop (A.getD r 0 + K)) (p.drop K) : Nat) : Int), .int .i64 0]) ∧ Below W.heap.size W w') := fun W' pa' pc' hb hs => ((h.old hb).cmp hs (by show _ = _; rw [List.length_drop, hm.out]) (by omega) hend).mono fun e w' ⟨he, hB'⟩ => ⟨he, hb.trans (hB'.mono hb.size)⟩
    have HSP : Hid (∀ W', Below W.heap.size W W' → Seg W' pa p) := fun W' hb => hp.old hb
    rw [hlc]
    generalize cv13 (z.drop (A.getD r 0 + K)) (p.drop K) = cv at *
    generalize hv : lc13 (z.drop (A.getD r 0 + K)) (p.drop K) = v at *
    obtain ⟨s, hs⟩ : ∃ s, s = A.getD r 0 + K := ⟨_, rfl⟩
    rw [← hs] at HC
    have hvb : K + v ≤ 140737488351232 := by omega
    clear hlc hKl hv h hp
    generalize A.getD r 0 = at0 at *
    have hsi : (at0 : Int) + (K : Int) = (s : Int) := by omega
    rcases max_cases14 kap with ⟨k0, kmx⟩ | ⟨k0, kmx⟩
    · obtain rfl : K = 0 := by omega
      obtain rfl : s = at0 := by omega
      clear hs hK hsi kmx
      rw [Nat.sub_zero] at HC
      have kng : ¬ 0 < kap := by omega
      have HC2 : Hid (∀ W', Below W.heap.size W W' → Calls Try.prog 51 #[.pointer (some ⟨b, 0, none⟩), .int .i64 (s : Int), .slice pa m pc] W' fun e w' => e = .returned (.tuple #[.int .i64 cv, .int .i64 (v : Int), .int .i64 0]) ∧ Below W.heap.size W w') := fun W' hb => HC.out W' pa pc hb (HSP.out W' hb)
      clear HC
      cases pa with
      | none =>
        go_enter Try.func47, Try.ntmps47
        go_wp2_with (first
          | (go_at_call 26; refine HA.mono ?_; rintro e1 w1 ⟨rfl, B1⟩)
          | (go_at_call 51; refine (HC2.out w1 B1).mono ?_; rintro e2 w2 ⟨rfl, B2⟩))
        go_ret
        exact ⟨by first | rfl | simp, B2⟩
      | some ad =>
        go_enter Try.func47, Try.ntmps47
        go_wp2_with (first
          | (go_at_call 26; refine HA.mono ?_; rintro e1 w1 ⟨rfl, B1⟩)
          | (go_at_call 51; refine (HC2.out w1 B1).mono ?_; rintro e2 w2 ⟨rfl, B2⟩))
        go_ret
        exact ⟨by first | rfl | simp, B2⟩
    · obtain rfl : kap = (K : Int) := by omega
      have hsb : s ≤ n := by omega
      clear hK kmx hs
      obtain ⟨pb, po, rfl, -⟩ := (HSP.out W (Below.refl _ _)).at_ 0 (by rw [hm.out]; omega)
      by_cases hcc : pc = K
      · obtain rfl : K = m := by omega
        subst hcc
        have HC2 : Hid (∀ W' pa' l pc', Below W.heap.size W W' → l = 0 → Calls Try.prog 51 #[.pointer (some ⟨b, 0, none⟩), .int .i64 (s : Int), .slice pa' l pc'] W' fun e w' => e = .returned (.tuple #[.int .i64 cv, .int .i64 (v : Int), .int .i64 0]) ∧ Below W.heap.size W w') := fun W' pa' l pc' hb hl => by
          have := HC.out W' pa' pc' hb (by rw [List.drop_eq_nil_of_le (by rw [hm.out]; omega)]; exact SegK.nil (by decide) _ _)
          rw [hl]
          rw [Nat.sub_self] at this
          exact this
        clear HC
        go_enter Try.func47, Try.ntmps47
        go_wp2_with (first
          | (go_at_call 26; refine HA.mono ?_; rintro e1 w1 ⟨rfl, B1⟩)
          | (go_at_call 51; refine (HC2.out w1 _ _ _ B1 (by first | rfl | omega | simp)).mono ?_; rintro e2 w2 ⟨rfl, B2⟩))
        go_ret
        exact ⟨by first | rfl | simp, B2⟩
      · have HC2 : Hid (∀ W', Below W.heap.size W W' → Calls Try.prog 51 #[.pointer (some ⟨b, 0, none⟩), .int .i64 (s : Int), .slice (some ⟨pb, po + K, none⟩) (m - K) (pc - K)] W' fun e w' => e = .returned (.tuple #[.int .i64 cv, .int .i64 (v : Int), .int .i64 0]) ∧ Below W.heap.size W w') := fun W' hb => HC.out W' _ _ hb ((HSP.out W' hb).drop K)
        clear HC
        have l1 : K ≤ m := by omega
        have l2 : (K : Int) ≤ (m : Int) := by omega
        go_enter Try.func47, Try.ntmps47
        go_wp2_with (first
          | (go_at_call 26; refine HA.mono ?_; rintro e1 w1 ⟨rfl, B1⟩)
          | (go_at_call 51; refine (HC2.out w1 B1).mono ?_; rintro e2 w2 ⟨rfl, B2⟩))
        go_ret
        exact ⟨by first | rfl | simp, B2⟩
  · have HC : Hid (∀ W' pa' m' pc', Below W.heap.size W W' → Calls Try.prog 51 #[.pointer (some ⟨b, 0, none⟩), .int .i64 ((A.getD r 0 + K : Nat) : Int), .slice pa' m' pc'] W' fun e w' => e = .returned (.tuple #[.int .i64 0, .int .i64 0, .int .i64 132]) ∧ Below W.heap.size W w') := fun W' pa' m' pc' hb => ((h.old hb).cmpn (by omega) (by omega)).mono fun e w' ⟨he, hB'⟩ => ⟨he, hb.trans (hB'.mono hb.size)⟩
    have HSP : Hid (∀ W', Below W.heap.size W W' → Seg W' pa p) := fun W' hb => hp.old hb
    have hv0 : lc13 (z.drop (A.getD r 0)) p = K := by omega
    rw [hv0]
    obtain ⟨s, hs⟩ : ∃ s, s = A.getD r 0 + K := ⟨_, rfl⟩
    rw [← hs] at HC
    have hkp : 0 < K := by omega
    clear hlc hKl h hp hv0
    generalize A.getD r 0 = at0 at *
    have hsi : (at0 : Int) + (K : Int) = (s : Int) := by omega
    obtain rfl : kap = (K : Int) := by omega
    have hsb : s ≤ n := by omega
    clear hK hs
    obtain ⟨pb, po, rfl, -⟩ := (HSP.out W (Below.refl _ _)).at_ 0 (by rw [hm.out]; omega)
    have l1 : K ≤ m := by omega
    have l2 : (K : Int) ≤ (m : Int) := by omega
    have l3 : (0 : Int) < (K : Int) := by omega
    by_cases hcc : pc = K
    · subst hcc
      go_enter Try.func47, Try.ntmps47
      go_wp2_with (first
        | (go_at_call 26; refine HA.mono ?_; rintro e1 w1 ⟨rfl, B1⟩)
        | (go_at_call 51; refine (HC.out w1 _ _ _ B1).mono ?_; rintro e2 w2 ⟨rfl, B2⟩))
      go_ret
      exact ⟨by first | rfl | simp, B2⟩
    · go_enter Try.func47, Try.ntmps47
      go_wp2_with (first
        | (go_at_call 26; refine HA.mono ?_; rintro e1 w1 ⟨rfl, B1⟩)
        | (go_at_call 51; refine (HC.out w1 _ _ _ B1).mono ?_; rintro e2 w2 ⟨rfl, B2⟩))
      go_ret
      exact ⟨by first | rfl | simp, B2⟩
end Go.Proofs.Ytkpfailmmcelcaa
