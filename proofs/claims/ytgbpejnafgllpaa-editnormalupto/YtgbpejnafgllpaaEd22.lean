
import Derived.Test.YtgbpejnafgllpaaEd21
import Derived.WalkSpells
import Derived.Laws.BytesArg
namespace Go.Proofs.Ytgbpejnafgllpaa
open Go.RowKit Go.Shelf
set_option linter.unusedVariables false

/-! Edits that are alike. -/
theorem run_conv16 {P : Program} {w : World} {a : Option Addr} {zs : List Int} (cap : Nat) (h : Seg w a zs) (src e dst : TypeId) (hs : P.underlying src = some (.slice e)) (he : P.underlying e = some (.int .u8)) (hd : P.underlying dst = some .string) :
    (convert src dst (.slice a zs.length cap)).run P w = .ok (.string (strOfNums zs)) w := by
  by_cases hz : 0 < zs.length
  · obtain ⟨b, off, rfl, _⟩ := h.at_ 0 hz
    refine run_convert_bytes_arg w src e hs he b off zs.length cap zs rfl (fun i hi => ?_) dst hd
    obtain ⟨b', off', hb, hc⟩ := h.at_ i hi
    cases hb
    exact hc
  · have : zs = [] := List.eq_nil_of_length_eq_zero (by omega)
    subst this
    cases a with
    | none => exact run_convert_bytes_nil w src e hs he _ _ dst hd
    | some x =>
      rw [run_convert_bytes_string w src dst e _ _ cap hs he hd]
      have hl : (loadCells x 0).run P w = .ok (([] : List Int).map (Value.int .u8)).toArray w := by simp [loadCells, loadCellsFrom]
      have := run_bytesToString (P := P) w x 0 cap [] hl
      exact this
set_option maxRecDepth 100000 in
theorem peqb16 (a b : Option Addr) (n ca cb : Nat) (D : List Int) (w : World) (hx : Seg w a D) (hy : Seg w b D) (hn : D.length = n) :
    Calls Try.prog 34 #[.slice a n ca, .slice b n cb] w fun e w' => e = .returned (.bool true) ∧ w' = w := by
  subst hn
  have c1 := run_conv16 ca hx 23 5 9 Try.underlying23 Try.underlying5 Try.underlying9
  have c2 := run_conv16 cb hy 23 5 9 Try.underlying23 Try.underlying5 Try.underlying9
  generalize D.length = n at *
  generalize strOfNums D = s at *
  clear hx hy
  go_enter Try.func34, Try.ntmps34
  go_wp2
  go_ret
  exact ⟨by first | rfl | simp, rfl⟩
set_option maxRecDepth 100000 in
theorem psame16 (a b : Option Addr) (n ca cb : Nat) (D : List Int) (w : World) (hx : Seg w a D) (hy : Seg w b D) (hn : D.length = n) :
    Calls Try.prog 18 #[.slice a n ca, .slice b n cb] w fun e w' => e = .returned (.bool true) ∧ w' = w := by
  subst hn
  have c1 := run_conv16 ca hx 23 5 9 Try.underlying23 Try.underlying5 Try.underlying9
  have c2 := run_conv16 cb hy 23 5 9 Try.underlying23 Try.underlying5 Try.underlying9
  generalize D.length = n at *
  generalize strOfNums D = s at *
  clear hx hy
  go_enter Try.func18, Try.ntmps18
  go_wp2
  go_ret
  exact ⟨by first | rfl | simp, rfl⟩
variable {w : World} {sa da xa sb db xb : Option Addr} {n sc m dc k xc td ud vd : Nat} {S : List St16} {D X : List Int}
set_option maxRecDepth 100000 in
set_option maxHeartbeats 4000000 in
theorem pali16 (h : Ed16 w sa n S da m D xa k X) (g : Ed16 w sb n S db m D xb k X) :
    Calls Try.prog 17 #[ev16 sa n sc da m dc xa k xc, ev16 sb n td db m ud xb k vd] w fun e w' => e = .returned (.bool true) ∧ Below w.heap.size w w' := by
  obtain ⟨w1, hw1⟩ : ∃ w1, w1 = (w.alloc (.cells #[.slice sa n sc, .slice da m dc, .slice xa k xc] 25)).alloc (.cells #[.slice sb n td, .slice db m ud, .slice xb k vd] 25) := ⟨_, rfl⟩
  have hb := two_boxes16 w #[.slice sa n sc, .slice da m dc, .slice xa k xc] 25 #[.slice sb n td, .slice db m ud, .slice xb k vd] 25
  simp only [← hw1] at hb
  obtain ⟨b1, z1, q1, q2⟩ := hb
  have CS := peqs16 sa sb n sc td S w1 (h.old b1).ss (g.old b1).ss h.hn h.ln
  have HH : Hid (Ed16 w sa n S da m D xa k X) := h
  have HG : Hid (Ed16 w sb n S db m D xb k X) := g
  obtain ⟨be, hbe⟩ : ∃ be, be = w.heap.size := ⟨_, rfl⟩
  obtain ⟨bo, hbo⟩ : ∃ bo, bo = w.heap.size + 1 := ⟨_, rfl⟩
  rw [← hbe] at q1
  rw [← hbo] at q2
  have c0 := three_cell0 q1
  have d0 := three_cell0 q2
  clear h g z1
  unfold ev16
  go_enter Try.func17, Try.ntmps17
  go_wp2_with fail
  rw [← hw1, ← hbo, ← hbe]
  refine CS.mono ?_
  rintro e2 w2 ⟨rfl, b2⟩
  clear CS c0 d0 hw1 hbo hbe
  have p1 := (b2.block be (Array.getElem?_eq_some_iff.1 q1).1).trans q1
  have p2 := (b2.block bo (Array.getElem?_eq_some_iff.1 q2).1).trans q2
  have c1 := three_cell1 p1
  have c2 := three_cell2 p1
  have d1 := three_cell1 p2
  have d2 := three_cell2 p2
  have b02 : Below w.heap.size w w2 := b1.trans (b2.mono b1.size)
  have h2 := HH.out.old b02
  have g2 := HG.out.old b02
  have C1 := peqb16 da db m dc ud D w2 h2.sd g2.sd h2.hm
  have C2 := peqb16 xa xb k xc vd X w2 h2.sx g2.sx h2.hk
  clear h2 g2 p1 p2
  go_wp2_with fail
  refine C1.mono ?_
  rintro e3 w3 ⟨rfl, rfl⟩
  go_wp2_with fail
  refine C2.mono ?_
  rintro e4 w4 ⟨rfl, rfl⟩
  go_wp2_with fail
  go_ret
  exact ⟨by first | rfl | simp, b02⟩
end Go.Proofs.Ytgbpejnafgllpaa
