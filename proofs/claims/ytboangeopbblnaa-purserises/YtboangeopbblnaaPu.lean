import Derived.Test.YtboangeopbblnaaPp
import Derived.Defers
import Derived.Recover
import Derived.Deep.RegionLaw
import Derived.Test.YtboangeopbblnaaPt
namespace Go.Proofs.Ytboangeopbblnaa
open Go.RowKit
set_option linter.unusedVariables false
/-- A reader of lengths as head.New makes it, as far as Room looks. -/
def Hd11 (w : World) (b : Nat) : Prop := ∃ cs, w.heap[b]? = some (.cells cs 126 (0, 0)) ∧ cs[0]? = some (.bool true) ∧ cs[347]? = some (.int .i64 19)
theorem Hd11.keep {w w' : World} {b : Nat} (h : Hd11 w b) (hb : w'.heap[b]? = w.heap[b]?) : Hd11 w' b := by
  obtain ⟨cs, h1, h2⟩ := h
  exact ⟨cs, hb.trans h1, h2⟩
theorem Hd11.lt {w : World} {b : Nat} (h : Hd11 w b) : b < w.heap.size := by
  obtain ⟨cs, h1, h2⟩ := h
  exact (Array.getElem?_eq_some_iff.1 h1).1
theorem built11 : (Try.prog.built 126 [(0, Value.bool true), (10, Value.agg (arr (dl 19 [] Z288)))]).getD #[] = (rpre8 ini8 ++ (dl 19 [] Z288).map (Value.int .i64)).toArray := by kernel_rfl
theorem built11_at : (rpre8 ini8 ++ (dl 19 [] Z288).map (Value.int .i64))[0]? = some (.bool true) ∧ (rpre8 ini8 ++ (dl 19 [] Z288).map (Value.int .i64))[347]? = some (.int .i64 19) := by
  have hl : (rpre8 ini8).length = 347 := by kernel_rfl
  constructor
  · rw [List.getElem?_append_left (by omega)]
    simp [rpre8]
  · rw [List.getElem?_append_right (by omega), hl]
    simp [dl]
theorem info_dec11 : (Try.prog.info? 121).map (·.size) = some (arr (dl 19 [] Z288)).size := by kernel_rfl
set_option maxRecDepth 100000 in
set_option maxHeartbeats 1000000 in
theorem pnewH11 (w : World) :
    Calls Try.prog 49 #[] w fun e w' => ∃ b, w.heap.size ≤ b ∧ e = .returned (.pointer (some ⟨b, 0, none⟩)) ∧ Hd11 w' b ∧ Below w.heap.size w w' := by
  go_enter Try.func49, Try.ntmps49
  go_wp2_with fail
  refine (newDec_any 19 (by omega) (by omega) w).mono ?_
  rintro e w1 ⟨rfl, hw⟩
  have hd : w1.heap[w.heap.size]? = some (.cells (arr (dl 19 [] Z288)) 121 (0, 0)) := by rw [hw]; exact heap_alloc_new w _
  have B1 : Below w.heap.size w w1 := by rw [hw]; exact (Below.refl _ _).alloc (Nat.le_refl _) _
  clear hw
  go_wp2_with (first
    | (refine wpList_load_row rfl 121 _ rfl w.heap.size rfl _ _ _ _ hd Try.underlying121 rfl info_dec11 ?_)
    | (refine wpList_build rfl _ _ rfl (by kernel_rfl) ?_))
  go_ret
  refine ⟨w1.heap.size, B1.size, rfl, ⟨_, heap_alloc_new w1 _, ?_, ?_⟩, B1.alloc B1.size _⟩
  · rw [built11, List.getElem?_toArray]; exact built11_at.1
  · rw [built11, List.getElem?_toArray]; exact built11_at.2
/-- A stream as newStream makes it. -/
def nsC11 (g S dl dd hd : Nat) : List Value := .slice (some ⟨g, 0, none⟩) S S :: .int .i64 0 :: swA [] 0 dl dd hd 0 0 0 false
set_option maxRecDepth 100000 in
set_option maxHeartbeats 4000000 in
theorem pnewS11 (S : Nat) (h1 : 1 ≤ S) (h2 : S ≤ 32768) (w : World) :
    Calls Try.prog 36 #[.int .i64 (S : Int)] w fun e w' => ∃ b g dl dd hd K, e = .returned (.pointer (some ⟨b, 0, none⟩)) ∧ Sw w' b g S [] K [] 0 dl dd hd 0 0 0 false ∧ De w' dl 288 [] ∧ De w' dd 32 [] ∧ Hd11 w' hd ∧ (w.heap.size ≤ g ∧ g < dl ∧ dl < dd ∧ dd < hd ∧ hd < b) ∧ Below w.heap.size w w' := by
  go_enter Try.func36, Try.ntmps36
  go_wp2_with fail
  refine (pnew_ok S h1 h2 w).mono ?_
  rintro e w1 ⟨rb, F, rfl, ⟨g, K, rfl, R1⟩, b1, hF⟩
  have hgw := hF g (.inr rfl)
  have hbw := hF rb (.inl rfl)
  clear hF
  go_wp2_with fail
  refine (newDec_any 288 (by omega) (by omega) w1).mono ?_
  rintro e w2 ⟨rfl, hw2⟩
  have HW2 : Hid (w2 = w1.alloc (.cells (arr (dl 288 [] Z288)) 121)) := hw2
  clear hw2
  go_wp2_with fail
  refine (newDec_any 32 (by omega) (by omega) w2).mono ?_
  rintro e w3 ⟨rfl, hw3⟩
  have hw2 := HW2.out
  have b2 : Below w1.heap.size w1 w2 := by rw [hw2]; exact below_box8' w1 _
  have s2 : w2.heap.size = w1.heap.size + 1 := by rw [hw2]; simp
  have b3 : Below w2.heap.size w2 w3 := by rw [hw3]; exact below_box8' w2 _
  have s3 : w3.heap.size = w2.heap.size + 1 := by rw [hw3]; simp
  have D1 : De w3 w1.heap.size 288 [] := (De.new (by omega) (by omega) (by rw [hw2]; exact heap_alloc_new w1 _) : De w2 w1.heap.size 288 []).keep (b3.block _ (by omega))
  have D2 : De w3 w2.heap.size 32 [] := De.new (by omega) (by omega) (by rw [hw3]; exact heap_alloc_new w2 _)
  have R3 := (R1.old b2).old b3
  have B3 : Below w.heap.size w w3 := (b1.trans (b2.mono b1.size)).trans (b3.mono (by have := b1.size; omega))
  have hg1 := R1.g_lt
  have hb1 := R1.b_lt
  have HR3 : Hid (RPk w3 rb g S [] K) := R3
  have HD : Hid (De w3 w1.heap.size 288 [] ∧ De w3 w2.heap.size 32 []) := ⟨D1, D2⟩
  have HB3 : Hid (Below w.heap.size w w3) := B3
  have HSZ : Hid (w.heap.size ≤ g ∧ g < w1.heap.size ∧ w2.heap.size = w1.heap.size + 1 ∧ w3.heap.size = w2.heap.size + 1) := ⟨hgw, hg1, s2, s3⟩
  have HC : Hid (∀ W, Below w3.heap.size w3 W → W.cell? ⟨rb, 0, none⟩ = some (.slice (some ⟨g, 0, none⟩) S S) ∧ W.cell? ⟨rb, 1, none⟩ = some (.int .i64 0)) := fun W hW => ⟨(R3.old hW).c0, (R3.old hW).c1⟩
  have bt0 : Below w3.heap.size w3 w3.drew := (Below.refl _ _).drew
  obtain ⟨q0, q1⟩ := HC.out _ bt0
  clear hw2 hw3 b2 b3 D1 D2 R3 B3 R1 s2 s3 b1 hg1 hb1 hgw hbw
  go_wp2_with fail
  go_region_with ((go_at_call 49; refine (pnewH11 _).mono ?_; rintro e w5 ⟨hd, hhd, rfl, hH, b5⟩; have b5' : Below w3.heap.size w3 w5 := bt0.trans (b5.mono (Nat.le_refl _)); obtain ⟨q0, q1⟩ := HC.out _ b5'))
  all_goals
    have hz := HSZ.out
    have e3 : w3.drew.heap.size = w3.heap.size := rfl
    have b6 := below_box8' w5 (.cells (nsC11 g S w1.heap.size w2.heap.size hd).toArray 110)
    have hlt := hH.lt
    have hs5 := b5'.size
    have R5 := HR3.out.old b5'
    have hSw : Sw (w5.alloc (.cells (nsC11 g S w1.heap.size w2.heap.size hd).toArray 110)) w5.heap.size g S [] K [] 0 w1.heap.size w2.heap.size hd 0 0 0 false := ⟨heap_alloc_new w5 _, (b6.block g R5.g_lt).trans R5.hk, R5.rd, by omega, R5.bd, R5.s1, R5.s2, by simp⟩
    have E1 := (HD.out.1.keep (b5'.block _ (by omega))).keep (b6.block _ (by omega))
    have E2 := (HD.out.2.keep (b5'.block _ (by omega))).keep (b6.block _ (by omega))
    have hH6 := hH.keep (b6.block hd hlt)
    have B6 : Below w.heap.size w (w5.alloc (.cells (nsC11 g S w1.heap.size w2.heap.size hd).toArray 110)) := HB3.out.trans ((b5'.trans (b6.mono hs5)).mono HB3.out.size)
    have HE : Hid (∃ b g dl dd hd K, Ending.returned (.pointer (some ⟨w5.heap.size, 0, none⟩)) = .returned (.pointer (some ⟨b, 0, none⟩)) ∧ Sw (w5.alloc (.cells (nsC11 g S dl dd hd).toArray 110)) b g S [] K [] 0 dl dd hd 0 0 0 false ∧ True) := ⟨w5.heap.size, g, w1.heap.size, w2.heap.size, hd, K, rfl, hSw, trivial⟩
    have HFIN : Hid (Sw (w5.alloc (.cells (nsC11 g S w1.heap.size w2.heap.size hd).toArray 110)) w5.heap.size g S [] K [] 0 w1.heap.size w2.heap.size hd 0 0 0 false ∧ De (w5.alloc (.cells (nsC11 g S w1.heap.size w2.heap.size hd).toArray 110)) w1.heap.size 288 [] ∧ De (w5.alloc (.cells (nsC11 g S w1.heap.size w2.heap.size hd).toArray 110)) w2.heap.size 32 [] ∧ Hd11 (w5.alloc (.cells (nsC11 g S w1.heap.size w2.heap.size hd).toArray 110)) hd ∧ (w.heap.size ≤ g ∧ g < w1.heap.size ∧ w1.heap.size < w2.heap.size ∧ w2.heap.size < hd ∧ hd < w5.heap.size) ∧ Below w.heap.size w (w5.alloc (.cells (nsC11 g S w1.heap.size w2.heap.size hd).toArray 110))) := ⟨hSw, E1, E2, hH6, by omega, B6⟩
    clear hSw E1 E2 hH6 B6 b6 R5 HE hH b5 b5' q0 q1
    go_wp2_with fail
    go_ret
    exact ⟨w5.heap.size, g, w1.heap.size, w2.heap.size, hd, K, rfl, HFIN.out⟩
end Go.Proofs.Ytboangeopbblnaa
