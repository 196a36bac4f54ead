import Derived.Test.YtiijjmmkidjgaaaDoorPx
import Derived.Test.YtiijjmmkidjgaaaDoorPu
import Derived.BigQuiet
import Derived.Deep.QuietTactic
import Derived.Test.YtiijjmmkidjgaaaDoorPm
import Derived.Test.YtiijjmmkidjgaaaDoorPb
import Derived.WalkKit
import Derived.ProofKit
import Derived.OpenShut
import Derived.SizedLaws
namespace Go.Proofs.YtiijjmmkidjgaaaDoor
open Go.RowKit
set_option linter.unusedVariables false

/-! The landed swell: New, made, Done, Total, End, Step; the document's second example. -/
section
variable {w w' : World} {bs b g S : Nat} {L K : List Int} {H : List Bool} {t dl dd hd : Nat} {win lim nx : Int} {last : Bool}
set_option maxRecDepth 100000 in
set_option maxHeartbeats 1000000 in
theorem pmay11 (win widest most : Int) (w : World) : Calls Tryd.prog 17 #[.int .i64 win, .int .i64 widest, .int .i64 most] w fun e w' => e = .returned (.bool (decide (1 ≤ win ∧ win ≤ widest ∧ 0 ≤ most ∧ most ≤ 268435456))) ∧ w' = w := by
  by_cases h1 : 1 ≤ win
  · by_cases h2 : win ≤ widest
    · by_cases h3 : 0 ≤ most
      · by_cases h4 : most ≤ 268435456
        · have e : decide (1 ≤ win ∧ win ≤ widest ∧ 0 ≤ most ∧ most ≤ 268435456) = true := decide_eq_true ⟨h1, h2, h3, h4⟩
          rw [e]
          clear e
          go_enter Tryd.func17, Tryd.ntmps17
          go_wp2_with fail
          go_ret
          exact ⟨rfl, rfl⟩
        · have e : decide (1 ≤ win ∧ win ≤ widest ∧ 0 ≤ most ∧ most ≤ 268435456) = false := decide_eq_false (fun q => h4 q.2.2.2)
          rw [e]
          clear e
          go_enter Tryd.func17, Tryd.ntmps17
          go_wp2_with fail
          go_ret
          exact ⟨rfl, rfl⟩
      · have e : decide (1 ≤ win ∧ win ≤ widest ∧ 0 ≤ most ∧ most ≤ 268435456) = false := decide_eq_false (fun q => h3 q.2.2.1)
        rw [e]
        clear e
        go_enter Tryd.func17, Tryd.ntmps17
        go_wp2_with fail
        go_ret
        exact ⟨rfl, rfl⟩
    · have e : decide (1 ≤ win ∧ win ≤ widest ∧ 0 ≤ most ∧ most ≤ 268435456) = false := decide_eq_false (fun q => h2 q.2.1)
      rw [e]
      clear e
      go_enter Tryd.func17, Tryd.ntmps17
      go_wp2_with fail
      go_ret
      exact ⟨rfl, rfl⟩
  · have e : decide (1 ≤ win ∧ win ≤ widest ∧ 0 ≤ most ∧ most ≤ 268435456) = false := decide_eq_false (fun q => h1 q.1)
    rw [e]
    clear e
    go_enter Tryd.func17, Tryd.ntmps17
    go_wp2_with fail
    go_ret
    exact ⟨rfl, rfl⟩
set_option maxRecDepth 100000 in
set_option maxHeartbeats 1000000 in
theorem pmade11 (w : World) (h : w.heap[bs]? = some (.cells #[.pointer (some ⟨b, 0, none⟩)] 49 (0, 0))) : Calls Tryd.prog 20 #[.pointer (some ⟨bs, 0, none⟩)] w fun e w' => e = .returned (.bool true) ∧ w' = w := by
  have c0 : w.cell? ⟨bs, 0, none⟩ = some (.pointer (some ⟨b, 0, none⟩)) := (cell_of_row w _ 0 _ _ _ h).trans rfl
  clear h
  go_enter Tryd.func20, Tryd.ntmps20
  go_wp2_with fail
  go_ret
  exact ⟨rfl, rfl⟩
set_option maxRecDepth 100000 in
set_option maxHeartbeats 1000000 in
theorem pdone11 (h : w.heap[bs]? = some (.cells #[.pointer (some ⟨b, 0, none⟩)] 49 (0, 0))) (hS : Sw w b g S L K H t dl dd hd win lim 9 last) : Calls Tryd.prog 8 #[.pointer (some ⟨bs, 0, none⟩)] w fun e w' => e = .returned (.bool true) ∧ w' = w := by
  have c0 : w.cell? ⟨bs, 0, none⟩ = some (.pointer (some ⟨b, 0, none⟩)) := (cell_of_row w _ 0 _ _ _ h).trans rfl
  have c10 := hS.cell 10 _ rfl
  have CM := pmade11 w h
  clear h hS
  go_enter Tryd.func8, Tryd.ntmps8
  go_wp2_with fail
  refine CM.mono ?_
  rintro e w1 ⟨rfl, hw1⟩
  subst w1
  go_wp2_with fail
  go_ret
  exact ⟨rfl, rfl⟩
set_option maxRecDepth 100000 in
set_option maxHeartbeats 1000000 in
theorem ptot11 (h : w.heap[bs]? = some (.cells #[.pointer (some ⟨b, 0, none⟩)] 49 (0, 0))) (hS : Sw w b g S L K H t dl dd hd win lim nx last) : Calls Tryd.prog 9 #[.pointer (some ⟨bs, 0, none⟩)] w fun e w' => e = .returned (.int .i64 (L.length : Int)) ∧ w' = w := by
  have c0 : w.cell? ⟨bs, 0, none⟩ = some (.pointer (some ⟨b, 0, none⟩)) := (cell_of_row w _ 0 _ _ _ h).trans rfl
  have CM := pmade11 w h
  have CT := ptotal_o hS.ring
  clear h hS
  generalize L.length = n at *
  go_enter Tryd.func9, Tryd.ntmps9
  go_wp2_with fail
  refine CM.mono ?_
  rintro e w1 ⟨rfl, hw1⟩
  subst w1
  go_wp2_with fail
  refine CT.mono ?_
  rintro e w1 ⟨rfl, hw1⟩
  subst w1
  go_wp2_with fail
  go_ret
  exact ⟨rfl, rfl⟩
set_option maxRecDepth 100000 in
set_option maxHeartbeats 1000000 in
theorem pend11 (h : w.heap[bs]? = some (.cells #[.pointer (some ⟨b, 0, none⟩)] 49 (0, 0))) (hS : Sw w b g S L K H t dl dd hd win lim 9 last) : Calls Tryd.prog 10 #[.pointer (some ⟨bs, 0, none⟩)] w fun e w' => e = .returned (.int .i64 0) ∧ w' = w := by
  have c0 : w.cell? ⟨bs, 0, none⟩ = some (.pointer (some ⟨b, 0, none⟩)) := (cell_of_row w _ 0 _ _ _ h).trans rfl
  have c16 := hS.cell 16 _ rfl
  have CM := pmade11 w h
  have CD := pdone11 h hS
  clear h hS
  go_enter Tryd.func10, Tryd.ntmps10
  go_wp2_with fail
  refine CM.mono ?_
  rintro e w1 ⟨rfl, hw1⟩
  subst w1
  go_wp2_with fail
  refine CD.mono ?_
  rintro e w1 ⟨rfl, hw1⟩
  subst w1
  go_wp2_with fail
  go_ret
  exact ⟨rfl, rfl⟩
end
set_option maxRecDepth 100000 in
set_option maxHeartbeats 4000000 in
theorem pnew11 (S : Nat) (h1 : 1 ≤ S) (h2 : S ≤ 32768) (lim : Int) (h3 : 0 ≤ lim ∧ lim ≤ 268435456) (w : World) :
    Calls Tryd.prog 7 #[.int .i64 (S : Int), .int .i64 lim] w fun e w' => ∃ bs b g dl dd hd, e = .returned (.tuple #[.pointer (some ⟨bs, 0, none⟩), .int .i64 0]) ∧ w'.heap[bs]? = some (.cells #[.pointer (some ⟨b, 0, none⟩)] 49 (0, 0)) ∧ Sw w' b g S [] (List.replicate S 0) [] 0 dl dd hd (S : Int) lim 0 false ∧ De w' dl 288 [] ∧ De w' dd 32 [] ∧ Hd11 w' hd ∧ (w.heap.size ≤ g ∧ g < dl ∧ dl < dd ∧ dd < hd ∧ hd < b ∧ b < bs) ∧ Below w.heap.size w w' := by
  have CM := pmay11 (S : Int) 32768 lim w
  rw [decide_eq_true (show 1 ≤ (S : Int) ∧ (S : Int) ≤ 32768 ∧ 0 ≤ lim ∧ lim ≤ 268435456 by omega)] at CM
  go_enter Tryd.func7, Tryd.ntmps7
  go_wp2_with fail
  refine CM.mono ?_
  rintro e w1 ⟨rfl, hw1⟩
  subst w1
  clear CM
  go_wp2_with fail
  refine (pnewS11 S h1 h2 w).mono ?_
  rintro e w2 ⟨b, g, dl, dd, hd, K, rfl, hS, D1, D2, hH, hz, b2⟩
  have CS := pstart11 (S : Int) lim hS
  have HD : Hid (De w2 dl 288 [] ∧ De w2 dd 32 [] ∧ Hd11 w2 hd) := ⟨D1, D2, hH⟩
  have HZ : Hid (w.heap.size ≤ g ∧ g < dl ∧ dl < dd ∧ dd < hd ∧ hd < b) := hz
  have HB2 : Hid (Below w.heap.size w w2) := b2
  have HLT : Hid (b < w2.heap.size) := hS.b_lt
  clear hS D1 D2 hH hz b2
  go_wp2_with fail
  refine CS.mono ?_
  rintro e w3 ⟨rfl, h4, k4⟩
  have hz := HZ.out
  have hlt := HLT.out
  have E1 := HD.out.1.kp11 k4 (by omega)
  have E2 := HD.out.2.1.kp11 k4 (by omega)
  have E3 := HD.out.2.2.keep (k4.block hd HD.out.2.2.lt (by omega))
  have B3 : Below w.heap.size w w3 := HB2.out.trans (k4.below (fun i e => by omega) HB2.out.size)
  have b5 := below_box8' w3 (.cells #[.pointer (some ⟨b, 0, none⟩)] 49)
  have hs3 := k4.size
  have HFIN : Hid ((w3.alloc (.cells #[.pointer (some ⟨b, 0, none⟩)] 49)).heap[w3.heap.size]? = some (.cells #[.pointer (some ⟨b, 0, none⟩)] 49 (0, 0)) ∧ Sw (w3.alloc (.cells #[.pointer (some ⟨b, 0, none⟩)] 49)) b g S [] (List.replicate S 0) [] 0 dl dd hd (S : Int) lim 0 false ∧ De (w3.alloc (.cells #[.pointer (some ⟨b, 0, none⟩)] 49)) dl 288 [] ∧ De (w3.alloc (.cells #[.pointer (some ⟨b, 0, none⟩)] 49)) dd 32 [] ∧ Hd11 (w3.alloc (.cells #[.pointer (some ⟨b, 0, none⟩)] 49)) hd ∧ (w.heap.size ≤ g ∧ g < dl ∧ dl < dd ∧ dd < hd ∧ hd < b ∧ b < w3.heap.size) ∧ Below w.heap.size w (w3.alloc (.cells #[.pointer (some ⟨b, 0, none⟩)] 49))) :=
    ⟨heap_alloc_new w3 _, h4.old b5, E1.keep (b5.block dl (by omega)), E2.keep (b5.block dd (by omega)), E3.keep (b5.block hd E3.lt), by omega, B3.trans (b5.mono B3.size)⟩
  clear CS h4 k4 E1 E2 E3 B3 b5
  go_wp2_with fail
  go_ret2
  exact ⟨w3.heap.size, b, g, dl, dd, hd, rfl, HFIN.out⟩
end Go.Proofs.YtiijjmmkidjgaaaDoor

namespace Go.Proofs.YtiijjmmkidjgaaaDoor
open Go.RowKit
set_option linter.unusedVariables false

/-! The landed swell: Step; the law's lives. -/
section
variable {bs b g S : Nat} {K0 : List Int} {dl dd hd pg : Nat} {win : Int}
set_option maxRecDepth 100000 in
set_option maxHeartbeats 4000000 in
theorem pstep11 (w : World) (hb : w.heap[bs]? = some (.cells #[.pointer (some ⟨b, 0, none⟩)] 49 (0, 0))) (hne : b ≠ dl ∧ b ≠ dd ∧ g ≠ dl ∧ g ≠ dd ∧ dl ≠ dd) (hpg : pg ≠ b ∧ pg ≠ g ∧ pg ≠ dl ∧ pg ≠ dd) (hbs : bs ≠ b ∧ bs ≠ g ∧ bs ≠ dl ∧ bs ≠ dd) (hS : Sw w b g S [] K0 [] 0 dl dd hd win 10 0 false) (D1 : De w dl 288 []) (D2 : De w dd 32 []) (hsg : Seg w (some ⟨pg, 0, none⟩) [75, 4, 0]) :
    Calls Tryd.prog 15 #[.pointer (some ⟨bs, 0, none⟩), .slice (some ⟨pg, 0, none⟩) 3 3, .int .i64 9] w fun e w' => ∃ og oc K H, e = .returned (.tuple #[.slice (some ⟨og, 0, none⟩) 1 oc, .int .i64 3, .int .i64 0]) ∧ Sw w' b g S [97] K H 18 dl dd hd win 10 9 true ∧ w'.heap[bs]? = some (.cells #[.pointer (some ⟨b, 0, none⟩)] 49 (0, 0)) ∧ w'.ownsRow w.heap.size 5 1 (.slice (some ⟨og, 0, none⟩) 1 oc) 1 [.int .u8 97] ∧ Kp (fun k => k = b ∨ k = g ∨ k = dl ∨ k = dd) w w' := by
  have c0 : w.cell? ⟨bs, 0, none⟩ = some (.pointer (some ⟨b, 0, none⟩)) := (cell_of_row w _ 0 _ _ _ hb).trans rfl
  have c16 := hS.cell 16 _ rfl
  have CM := pmade11 w hb
  have CS := psw_step w hne hpg hS D1 D2 hsg
  have HB : Hid (w.heap[bs]? = some (.cells #[.pointer (some ⟨b, 0, none⟩)] 49 (0, 0))) := hb
  have HBS : Hid (bs ≠ b ∧ bs ≠ g ∧ bs ≠ dl ∧ bs ≠ dd) := hbs
  clear hb hne hpg hbs hS D1 D2 hsg
  go_enter Tryd.func15, Tryd.ntmps15
  go_wp2_with fail
  refine CM.mono ?_
  rintro e w1 ⟨rfl, hw1⟩
  subst w1
  clear CM
  go_wp2_with fail
  refine CS.mono ?_
  rintro e w2 ⟨og, oc, K, H, rfl, h2, O2, k2⟩
  have hb2 := k2.heap HB.out (by have := HBS.out; omega)
  have b3 := below_box8' w2 (.cells #[.slice (some ⟨pg, 0, none⟩) 3 3, .int .i64 3, .int .i64 9, .slice (some ⟨og, 0, none⟩) 1 oc] 67)
  have hh := heap_alloc_new w2 (.cells #[.slice (some ⟨pg, 0, none⟩) 3 3, .int .i64 3, .int .i64 9, .slice (some ⟨og, 0, none⟩) 1 oc] 67)
  obtain ⟨w3, hw3⟩ : ∃ w3, w3 = w2.alloc (.cells #[.slice (some ⟨pg, 0, none⟩) 3 3, .int .i64 3, .int .i64 9, .slice (some ⟨og, 0, none⟩) 1 oc] 67) := ⟨_, rfl⟩
  have HE : Hid (Sw w3.drew b g S [97] K H 18 dl dd hd win 10 9 true ∧ w3.drew.heap[bs]? = some (.cells #[.pointer (some ⟨b, 0, none⟩)] 49 (0, 0)) ∧ w3.drew.ownsRow w.heap.size 5 1 (.slice (some ⟨og, 0, none⟩) 1 oc) 1 [.int .u8 97] ∧ Kp (fun k => k = b ∨ k = g ∨ k = dl ∨ k = dd) w w3.drew) := by
    rw [hw3]
    exact ⟨(h2.old b3).kp (Kp.refl (fun _ => False) _).drew (fun e => e) (fun e => e), (b3.block bs (Array.getElem?_eq_some_iff.1 hb2).1).trans hb2, own_kp (own_below O2 b3) (Kp.refl (fun _ => False) _).drew (fun _ _ e => e), (k2.trans (Kp.of_below (S := fun _ => False) b3) (fun _ _ e => e.elim)).drew⟩
  have HW3 : Hid (w2.alloc (.cells #[.slice (some ⟨pg, 0, none⟩) 3 3, .int .i64 3, .int .i64 9, .slice (some ⟨og, 0, none⟩) 1 oc] 67) = w3) := hw3.symm
  clear CS h2 O2 k2 hb2 b3 hh hw3
  go_wp2_with fail
  go_region
  go_wp2_with fail
  try rw [HW3.out]
  go_ret3
  exact ⟨og, oc, K, H, rfl, HE.out⟩
end
set_option maxRecDepth 100000 in
set_option maxHeartbeats 4000000 in
theorem plives11 (w : World) : Calls Tryd.prog 6 #[] w fun e w' => e = .returned (.bool true) ∧ Below w.heap.size w w' := by
  have CN : Calls Tryd.prog 7 #[.int .i64 100, .int .i64 10] w _ := pnew11 100 (by omega) (by omega) 10 (by omega) w
  go_enter Tryd.func6, Tryd.ntmps6
  go_wp2_with fail
  refine CN.mono ?_
  rintro e w1 ⟨bs, b, g, dl, dd, hd, rfl, hb, hS, D1, D2, hH, hz, b1⟩
  have ba := below_box8' w1 (.cells #[.int .u8 75, .int .u8 4, .int .u8 0] 5)
  have hbs := (Array.getElem?_eq_some_iff.1 hb).1
  have hsg : Seg (w1.alloc (.cells #[.int .u8 75, .int .u8 4, .int .u8 0] 5)) (some ⟨w1.heap.size, 0, none⟩) [75, 4, 0] := by
    have hh := heap_alloc_new w1 (.cells #[.int .u8 75, .int .u8 4, .int .u8 0] 5)
    refine ⟨fun i hi => ⟨w1.heap.size, 0, rfl, ?_⟩, by decide, getD_bd (by decide) (by intro z hz; simp at hz; omega)⟩
    simp only [List.length_cons, List.length_nil] at hi
    rw [Nat.zero_add, cell_of_row _ _ i _ _ _ hh]
    match i, hi with
    | 0, _ => rfl
    | 1, _ => rfl
    | 2, _ => rfl
  have CS := pstep11 (pg := w1.heap.size) (w1.alloc (.cells #[.int .u8 75, .int .u8 4, .int .u8 0] 5)) ((ba.block bs hbs).trans hb) (by omega) (by omega) (by omega) (hS.old ba) (D1.keep (ba.block dl (by omega))) (D2.keep (ba.block dd (by omega))) hsg
  have HZ : Hid (w.heap.size ≤ g ∧ g < dl ∧ dl < dd ∧ dd < hd ∧ hd < b ∧ b < bs) := hz
  have HB1 : Hid (Below w.heap.size w (w1.alloc (.cells #[.int .u8 75, .int .u8 4, .int .u8 0] 5))) := b1.trans (ba.mono b1.size)
  clear CN hb hS D1 D2 hH hz b1 ba hbs hsg
  go_wp2_with fail
  refine CS.mono ?_
  rintro e w2 ⟨og, oc, K, H, rfl, h2, hb2, O2, k2⟩
  have hz := HZ.out
  have B2 : Below w.heap.size w w2 := HB1.out.trans (k2.below (fun i e => by omega) HB1.out.size)
  obtain ⟨-, a3, c3, hv3, s3, -⟩ := own_seg (M := 255) (zs := [97]) O2 (by omega) (by intro z hz; simp at hz; omega)
  cases hv3
  have hst : strOfNums [97] = { data := #[97] } := by rfl
  have hcv : (convert 31 9 (.slice (some ⟨og, 0, none⟩) 1 oc)).run Tryd.prog w2 = .ok (.string { data := #[97] }) w2 := by
    have := run_conv_segS (P := Tryd.prog) oc s3 31 5 9 Tryd.underlying31 Tryd.underlying5 Tryd.underlying9
    rw [hst] at this
    exact this
  have CD := pdone11 hb2 h2
  have CT : Calls Tryd.prog 9 #[.pointer (some ⟨bs, 0, none⟩)] w2 fun e w' => e = .returned (.int .i64 1) ∧ w' = w2 := ptot11 hb2 h2
  have CE := pend11 hb2 h2
  have HB2 : Hid (Below w.heap.size w w2) := B2
  clear CS h2 hb2 O2 k2 s3 hz B2 hst
  go_wp2_with fail
  refine CD.mono ?_
  rintro e w3 ⟨rfl, hw3⟩
  subst w3
  go_wp2_with fail
  refine CT.mono ?_
  rintro e w3 ⟨rfl, hw3⟩
  subst w3
  go_wp2_with fail
  refine CE.mono ?_
  rintro e w3 ⟨rfl, hw3⟩
  subst w3
  go_wp2_with fail
  go_ret
  exact ⟨rfl, HB2.out⟩
end Go.Proofs.YtiijjmmkidjgaaaDoor

namespace Go.Proofs.YtiijjmmkidjgaaaDoor
open Go.RowKit
set_option linter.unusedVariables false

/-! The landed swell: Room; what a new one tells. -/
set_option maxRecDepth 100000 in
set_option maxHeartbeats 1000000 in
theorem pdroom11 (b o : Nat) (w : World) (c : w.cell? ⟨b, o, none⟩ = some (.int .i64 19)) : Calls Tryd.prog 25 #[.pointer (some ⟨b, o, none⟩)] w fun e w' => e = .returned (.int .i64 408) ∧ w' = w := by
  go_enter Tryd.func25, Tryd.ntmps25
  go_wp2_with fail
  go_ret
  exact ⟨rfl, rfl⟩
set_option maxRecDepth 100000 in
set_option maxHeartbeats 1000000 in
theorem phroom11 (b : Nat) (w : World) (h : Hd11 w b) : Calls Tryd.prog 28 #[.pointer (some ⟨b, 0, none⟩)] w fun e w' => e = .returned (.int .i64 747) ∧ w' = w := by
  obtain ⟨cs, h1, h2, h3⟩ := h
  have c0 : w.cell? ⟨b, 0, none⟩ = some (.bool true) := (cell_of_row w _ 0 _ _ _ h1).trans h2
  have CD := pdroom11 b 347 w ((cell_of_row w _ 347 _ _ _ h1).trans h3)
  clear h1 h2 h3
  go_enter Tryd.func28, Tryd.ntmps28
  go_wp2_with fail
  refine CD.mono ?_
  rintro e w1 ⟨rfl, hw1⟩
  subst w1
  go_wp2_with fail
  go_ret
  exact ⟨rfl, rfl⟩
section
variable {w : World} {bs b g S : Nat} {L K : List Int} {H : List Bool} {t dl dd hd : Nat} {win lim nx : Int} {last : Bool} {z1 z2 : List Int}
set_option maxRecDepth 100000 in
set_option maxHeartbeats 4000000 in
theorem psroom11 (h : Sw w b g S L K H t dl dd hd win lim nx last) (D1 : De w dl 288 z1) (D2 : De w dd 32 z2) (hH : Hd11 w hd) : Calls Tryd.prog 22 #[.pointer (some ⟨b, 0, none⟩)] w fun e w' => e = .returned (.int .i64 (2560 + 512 + (S : Int) + 747)) ∧ Below w.heap.size w w' := by
  have hs := h.s2
  have c5 := h.cell 5 _ rfl
  have c6 := h.cell 6 _ rfl
  have c7 := h.cell 7 _ rfl
  have kn : ∀ n, Kp (fun _ => False) w (w.drewN n) := fun n => (Kp.refl _ w).drewN n
  have C1 : Hid (∀ n, Calls Tryd.prog 25 #[.pointer (some ⟨dl, 0, none⟩)] (w.drewN n) fun e w' => e = .returned (.int .i64 2560) ∧ w' = w.drewN n) := fun n => room_any dl 288 z1 (w.drewN n) (D1.kp11 (kn n) (fun e => e))
  have C2 : Hid (∀ n, Calls Tryd.prog 25 #[.pointer (some ⟨dd, 0, none⟩)] (w.drewN n) fun e w' => e = .returned (.int .i64 512) ∧ w' = w.drewN n) := fun n => room_any dd 32 z2 (w.drewN n) (D2.kp11 (kn n) (fun e => e))
  have C3 : Hid (∀ n, Calls Tryd.prog 26 #[.pointer (some ⟨b, 0, none⟩)] (w.drewN n) fun e w' => e = .returned (.int .i64 (S : Int)) ∧ w' = w.drewN n) := fun n => proom_o (h.kp (kn n) (fun e => e) (fun e => e)).ring
  have C4 : Hid (∀ n, Calls Tryd.prog 28 #[.pointer (some ⟨hd, 0, none⟩)] (w.drewN n) fun e w' => e = .returned (.int .i64 747) ∧ w' = w.drewN n) := fun n => phroom11 hd (w.drewN n) (hH.keep rfl)
  have i1 : IntKind.i64.wrap (3072 + (S : Int)) = 3072 + (S : Int) := IntWalk.i64_in _ (by omega)
  have i2 : IntKind.i64.wrap (3072 + (S : Int) + 747) = 3072 + (S : Int) + 747 := IntWalk.i64_in _ (by omega)
  have HDR : Hid (∀ n, Below w.heap.size w (w.drewN n)) := fun n => ⟨rfl, rfl, rfl, Nat.le_refl _, fun _ _ => rfl⟩
  have HV : Hid (3072 + (S : Int) + 747 = 2560 + 512 + (S : Int) + 747) := by show _ = _; omega
  clear h D1 D2 hH kn
  go_enter Tryd.func22, Tryd.ntmps22
  go_wp2_with fail
  go_quiet (first
    | (go_at_call_of 25 (Value.pointer (some ⟨dl, 0, none⟩)); exact Calls.quiet_of_same (C1.out _))
    | (go_at_call_of 25 (Value.pointer (some ⟨dd, 0, none⟩)); exact Calls.quiet_of_same (C2.out _))
    | (go_at_call 26; exact Calls.quiet_of_same (C3.out _))
    | (go_at_call 28; exact Calls.quiet_of_same (C4.out _)))
  go_wp2_with fail
  go_ret
  exact ⟨by rw [← HV.out]; rfl, HDR.out _⟩
end
end Go.Proofs.YtiijjmmkidjgaaaDoor

namespace Go.Proofs.YtiijjmmkidjgaaaDoor
open Go.RowKit
set_option linter.unusedVariables false

/-! SwellNews. -/
section
variable {w : World} {bs b g S : Nat} {L K : List Int} {H : List Bool} {t dl dd hd : Nat} {win lim nx : Int} {last : Bool} {z1 z2 : List Int}
set_option maxRecDepth 100000 in
set_option maxHeartbeats 1000000 in
theorem proom11 (hb : w.heap[bs]? = some (.cells #[.pointer (some ⟨b, 0, none⟩)] 49 (0, 0))) (h : Sw w b g S L K H t dl dd hd win lim nx last) (D1 : De w dl 288 z1) (D2 : De w dd 32 z2) (hH : Hd11 w hd) : Calls Tryd.prog 11 #[.pointer (some ⟨bs, 0, none⟩)] w fun e w' => e = .returned (.int .i64 (3835 + (S : Int))) ∧ Below w.heap.size w w' := by
  have c0 : w.cell? ⟨bs, 0, none⟩ = some (.pointer (some ⟨b, 0, none⟩)) := (cell_of_row w _ 0 _ _ _ hb).trans rfl
  have CM := pmade11 w hb
  have CR := psroom11 h D1 D2 hH
  have hs := h.s2
  obtain ⟨R, hR⟩ : ∃ R : Int, R = 2560 + 512 + (S : Int) + 747 := ⟨_, rfl⟩
  rw [← hR] at CR
  have iw : IntKind.i64.wrap (R + 16) = R + 16 := IntWalk.i64_in _ (by omega)
  have HV : Hid (R + 16 = 3835 + (S : Int)) := by show _ = _; omega
  clear hb h D1 D2 hH hR hs
  go_enter Tryd.func11, Tryd.ntmps11
  go_wp2_with fail
  refine CM.mono ?_
  rintro e w1 ⟨rfl, hw1⟩
  subst w1
  go_wp2_with fail
  refine CR.mono ?_
  rintro e w1 ⟨rfl, b1⟩
  go_wp2_with fail
  go_ret
  exact ⟨by rw [← HV.out]; rfl, b1⟩
set_option maxRecDepth 100000 in
set_option maxHeartbeats 1000000 in
theorem pdone11_no (h : w.heap[bs]? = some (.cells #[.pointer (some ⟨b, 0, none⟩)] 49 (0, 0))) (hS : Sw w b g S L K H t dl dd hd win lim 0 last) : Calls Tryd.prog 8 #[.pointer (some ⟨bs, 0, none⟩)] w fun e w' => e = .returned (.bool false) ∧ w' = w := by
  have c0 : w.cell? ⟨bs, 0, none⟩ = some (.pointer (some ⟨b, 0, none⟩)) := (cell_of_row w _ 0 _ _ _ h).trans rfl
  have c10 := hS.cell 10 _ rfl
  have CM := pmade11 w h
  clear h hS
  go_enter Tryd.func8, Tryd.ntmps8
  go_wp2_with fail
  refine CM.mono ?_
  rintro e w1 ⟨rfl, hw1⟩
  subst w1
  go_wp2_with fail
  go_ret
  exact ⟨rfl, rfl⟩
set_option maxRecDepth 100000 in
set_option maxHeartbeats 1000000 in
theorem pend11_no (h : w.heap[bs]? = some (.cells #[.pointer (some ⟨b, 0, none⟩)] 49 (0, 0))) (hS : Sw w b g S L K H t dl dd hd win lim 0 last) : Calls Tryd.prog 10 #[.pointer (some ⟨bs, 0, none⟩)] w fun e w' => e = .returned (.int .i64 114) ∧ w' = w := by
  have c0 : w.cell? ⟨bs, 0, none⟩ = some (.pointer (some ⟨b, 0, none⟩)) := (cell_of_row w _ 0 _ _ _ h).trans rfl
  have c16 := hS.cell 16 _ rfl
  have CM := pmade11 w h
  have CD := pdone11_no h hS
  clear h hS
  go_enter Tryd.func10, Tryd.ntmps10
  go_wp2_with fail
  refine CM.mono ?_
  rintro e w1 ⟨rfl, hw1⟩
  subst w1
  go_wp2_with fail
  refine CD.mono ?_
  rintro e w1 ⟨rfl, hw1⟩
  subst w1
  go_wp2_with fail
  go_ret
  exact ⟨rfl, rfl⟩
end
set_option maxRecDepth 100000 in
set_option maxHeartbeats 1000000 in
theorem pnew11_no (win lim : Int) (h : ¬ (1 ≤ win ∧ win ≤ 32768 ∧ 0 ≤ lim ∧ lim ≤ 268435456)) (w : World) : Calls Tryd.prog 7 #[.int .i64 win, .int .i64 lim] w fun e w' => e = .returned (.tuple #[.pointer none, .int .i64 110]) ∧ w' = w := by
  have CM := pmay11 win 32768 lim w
  rw [decide_eq_false h] at CM
  clear h
  go_enter Tryd.func7, Tryd.ntmps7
  go_wp2_with fail
  refine CM.mono ?_
  rintro e w1 ⟨rfl, hw1⟩
  subst w1
  go_wp2_with fail
  go_ret2
  exact ⟨rfl, rfl⟩
set_option maxRecDepth 100000 in
set_option maxHeartbeats 2000000 in
theorem lroom11 (S : Nat) (h1 : 1 ≤ S) (h2 : S ≤ 32768) (w : World) : Calls Tryd.prog 12 #[.int .i64 (S : Int)] w fun e w' => e = .returned (.int .i64 (3835 + (S : Int))) ∧ Below w.heap.size w w' := by
  have i1 : IntKind.i64.wrap (3072 + (S : Int)) = 3072 + (S : Int) := IntWalk.i64_in _ (by omega)
  have i2 : IntKind.i64.wrap (3072 + (S : Int) + 747) = 3072 + (S : Int) + 747 := IntWalk.i64_in _ (by omega)
  have i3 : IntKind.i64.wrap (3072 + (S : Int) + 747 + 16) = 3072 + (S : Int) + 747 + 16 := IntWalk.i64_in _ (by omega)
  have HV : Hid (3072 + (S : Int) + 747 + 16 = 3835 + (S : Int)) := by show _ = _; omega
  go_enter Tryd.func12, Tryd.ntmps12
  go_wp2_with fail
  refine (newDec_any 288 (by omega) (by omega) w).mono ?_
  rintro e w2 ⟨rfl, hw2⟩
  have HW2 : Hid (w2 = w.alloc (.cells (arr (dl 288 [] Z288)) 76)) := hw2
  clear hw2
  go_wp2_with fail
  refine (newDec_any 32 (by omega) (by omega) w2).mono ?_
  rintro e w3 ⟨rfl, hw3⟩
  have b2 : Below w.heap.size w w2 := by rw [HW2.out]; exact below_box8' w _
  have b3 : Below w2.heap.size w2 w3 := by rw [hw3]; exact below_box8' w2 _
  have s2 : w2.heap.size = w.heap.size + 1 := by rw [HW2.out]; simp
  have D1 : De w3 w.heap.size 288 [] := (De.new (by omega) (by omega) (by rw [HW2.out]; exact heap_alloc_new w _) : De w2 w.heap.size 288 []).keep (b3.block _ (by omega))
  have D2 : De w3 w2.heap.size 32 [] := De.new (by omega) (by omega) (by rw [hw3]; exact heap_alloc_new w2 _)
  have s3 : w3.heap.size = w2.heap.size + 1 := by rw [hw3]; simp
  have HD : Hid (De w3 w.heap.size 288 [] ∧ De w3 w2.heap.size 32 []) := ⟨D1, D2⟩
  have HB3 : Hid (Below w.heap.size w w3) := b2.trans (b3.mono b2.size)
  have HS : Hid (w2.heap.size = w.heap.size + 1 ∧ w3.heap.size = w2.heap.size + 1) := ⟨s2, s3⟩
  clear hw3 b2 b3 D1 D2 s2 s3
  go_wp2_with fail
  refine (pnew_ok S h1 h2 w3).mono ?_
  rintro e w4 ⟨rb, F, rfl, ⟨g, K, rfl, R4⟩, b4, _⟩
  have hs := HS.out
  have C1 : Calls Tryd.prog 25 #[.pointer (some ⟨w.heap.size, 0, none⟩)] w4 fun e w' => e = .returned (.int .i64 2560) ∧ w' = w4 := room_any w.heap.size 288 [] w4 (HD.out.1.keep (b4.block _ (by omega)))
  have C2 : Calls Tryd.prog 25 #[.pointer (some ⟨w2.heap.size, 0, none⟩)] w4 fun e w' => e = .returned (.int .i64 512) ∧ w' = w4 := room_any w2.heap.size 32 [] w4 (HD.out.2.keep (b4.block _ (by omega)))
  have C3 := proom R4
  have HB4 : Hid (Below w.heap.size w w4) := HB3.out.trans (b4.mono HB3.out.size)
  clear b4 R4 hs
  go_wp2_with fail
  refine C1.mono ?_
  rintro e w5 ⟨rfl, hw5⟩
  subst w5
  go_wp2_with fail
  refine C2.mono ?_
  rintro e w5 ⟨rfl, hw5⟩
  subst w5
  go_wp2_with fail
  refine C3.mono ?_
  rintro e w5 ⟨rfl, hw5⟩
  subst w5
  go_wp2_with fail
  refine (pnewH11 w4).mono ?_
  rintro e w5 ⟨hd, hhd, rfl, hH, b5⟩
  have C4 := phroom11 hd w5 hH
  have HB5 : Hid (Below w.heap.size w w5) := HB4.out.trans (b5.mono HB4.out.size)
  clear C1 C2 C3 hH b5 hhd
  go_wp2_with fail
  refine C4.mono ?_
  rintro e w6 ⟨rfl, hw6⟩
  subst w6
  go_wp2_with fail
  go_ret
  exact ⟨by rw [← HV.out]; rfl, HB5.out⟩
end Go.Proofs.YtiijjmmkidjgaaaDoor

namespace Go.Proofs.YtiijjmmkidjgaaaDoor
open Go.RowKit
set_option linter.unusedVariables false

/-! SwellNews. -/
set_option maxRecDepth 100000 in
set_option maxHeartbeats 1000000 in
theorem swellNews_no (w : World) (win most : Int) (h : ¬ (1 ≤ win ∧ win ≤ 32768 ∧ 0 ≤ most ∧ most ≤ 268435456)) : Calls Tryd.prog 4 #[.int .i64 win, .int .i64 most] w fun e w' => e = .returned (.bool true) ∧ Below w.heap.size w w' := by
  have CN := pnew11_no win most h w
  have CL := plives11 w
  have go : ∀ p : (win < 1) ∨ (¬ win < 1 ∧ 32768 < win) ∨ (¬ win < 1 ∧ ¬ 32768 < win ∧ most < 0) ∨ (¬ win < 1 ∧ ¬ 32768 < win ∧ ¬ most < 0 ∧ 268435456 < most), Calls Tryd.prog 4 #[.int .i64 win, .int .i64 most] w fun e w' => e = .returned (.bool true) ∧ Below w.heap.size w w' := by
    clear h
    rintro (p | ⟨p, q⟩ | ⟨p, q, r⟩ | ⟨p, q, r, s⟩)
    all_goals
      go_enter Tryd.func4, Tryd.ntmps4
      go_wp2_with fail
      refine CN.mono ?_
      rintro e w1 ⟨rfl, hw1⟩
      subst w1
      go_wp2_with fail
      refine CL.mono ?_
      rintro e w2 ⟨rfl, b2⟩
      go_wp2_with fail
      go_ret
      exact ⟨rfl, b2⟩
  exact go (by omega)
set_option maxRecDepth 100000 in
set_option maxHeartbeats 2000000 in
theorem swellNews_yes (w : World) (S : Nat) (h1 : 1 ≤ S) (h2 : S ≤ 32768) (most : Int) (h3 : 0 ≤ most ∧ most ≤ 268435456) : Calls Tryd.prog 4 #[.int .i64 (S : Int), .int .i64 most] w fun e w' => e = .returned (.bool true) ∧ Below w.heap.size w w' := by
  have CN := pnew11 S h1 h2 most h3 w
  have p1 : ¬ (S : Int) < 1 := by omega
  have p2 : ¬ (32768 : Int) < (S : Int) := by omega
  have p3 : ¬ most < 0 := by omega
  have p4 : ¬ 268435456 < most := by omega
  go_enter Tryd.func4, Tryd.ntmps4
  go_wp2_with fail
  refine CN.mono ?_
  rintro e w1 ⟨bs, b, g, dl, dd, hd, rfl, hb, hS, D1, D2, hH, hz, b1⟩
  have C1 := pdone11_no hb hS
  have C2 : Calls Tryd.prog 9 #[.pointer (some ⟨bs, 0, none⟩)] w1 fun e w' => e = .returned (.int .i64 0) ∧ w' = w1 := ptot11 hb hS
  have C3 := pend11_no hb hS
  have C4 := proom11 hb hS D1 D2 hH
  have HB1 : Hid (Below w.heap.size w w1) := b1
  clear CN hb hS D1 D2 hH hz b1
  obtain ⟨R, hR⟩ : ∃ R : Int, R = 3835 + (S : Int) := ⟨_, rfl⟩
  have CR := lroom11 S h1 h2
  rw [← hR] at C4
  simp only [← hR] at CR
  have HC : Hid (∀ v : World, Calls Tryd.prog 12 #[.int .i64 (S : Int)] v fun e w' => e = .returned (.int .i64 R) ∧ Below v.heap.size v w') := CR
  clear hR CR
  go_wp2_with fail
  refine C1.mono ?_
  rintro e w2 ⟨rfl, hw2⟩
  subst w2
  go_wp2_with fail
  refine C2.mono ?_
  rintro e w2 ⟨rfl, hw2⟩
  subst w2
  go_wp2_with fail
  refine C3.mono ?_
  rintro e w2 ⟨rfl, hw2⟩
  subst w2
  go_wp2_with fail
  refine C4.mono ?_
  rintro e w2 ⟨rfl, b2⟩
  have HB2 : Hid (Below w.heap.size w w2) := HB1.out.trans (b2.mono HB1.out.size)
  clear b2
  go_wp2_with fail
  refine (HC.out w2).mono ?_
  rintro e w3 ⟨rfl, b3⟩
  have HB3 : Hid (Below w.heap.size w w3) := HB2.out.trans (b3.mono HB2.out.size)
  clear b3
  go_wp2_with fail
  refine (plives11 w3).mono ?_
  rintro e w4 ⟨rfl, b4⟩
  have HB4 : Hid (Below w.heap.size w w4) := HB3.out.trans (b4.mono HB3.out.size)
  clear b4
  go_wp2_with fail
  go_ret
  exact ⟨rfl, HB4.out⟩
theorem swellNews_walk (w : World) (tab : True) (win : Int) (w1 : -9223372036854775808 ≤ win) (w2 : win ≤ 9223372036854775807) (most : Int) (m1 : -9223372036854775808 ≤ most) (m2 : most ≤ 9223372036854775807) : Calls Tryd.prog 4 #[.int .i64 win, .int .i64 most] w fun e w' => e = .returned (.bool true) ∧ Below w.heap.size w w' := by
  by_cases h : 1 ≤ win ∧ win ≤ 32768 ∧ 0 ≤ most ∧ most ≤ 268435456
  · obtain ⟨S, rfl⟩ : ∃ S : Nat, win = (S : Int) := ⟨win.toNat, by omega⟩
    exact swellNews_yes w S (by omega) (by omega) most (by omega)
  · exact swellNews_no w win most h
end Go.Proofs.YtiijjmmkidjgaaaDoor

namespace Go.Proofs.YtiijjmmkidjgaaaDoor
open Go.ChangeShapes Go.WideShapes Go.ChangeAt Go.RowKit
set_option linter.unusedVariables false

/-- A slice of whole numbers that came in: what lies there, and how it was read. -/
theorem open_seg {H : Type} {enc : TypeId × Value → H} {P : Program} {W : World} {T e : TypeId} {k : IntKind} {M : Int} {a : Option Addr} {len cap : Nat} {d : DataW H} {p : List MemPlace}
    (hT : P.underlying T = some (.slice e)) (he : P.underlying e = some (.int k)) (hc : P.cellsOf e = 1) (hM : 0 ≤ M) (hwf : ∀ n, (Lit.int k n).wf = true → 0 ≤ n ∧ n ≤ M)
    (h : DataW.Trod enc P W 0 (fun _ => true) true T (.slice a len cap) d p) :
    ∃ zs : List Int, zs.length = len ∧ SegK k M W a zs ∧ len ≤ cap ∧ (a = none → cap = 0) ∧ ((d = .nil ∧ len = 0) ∨ ∃ elems spare, d = .slice elems spare ∧ elems.length = len) := by
  obtain ⟨fuel, hf⟩ := h
  rcases open_ints hT he hc hf with ⟨hcs, hx⟩ | ⟨x, l, c, zs, hcs, _, hl, hm, hz, hx, hcell, hwz⟩
  · simp [Value.cells] at hcs
    obtain ⟨rfl, rfl, rfl⟩ := hcs
    simp only [Prod.mk.injEq] at hx
    exact ⟨[], rfl, SegK.nil hM _ _, Nat.le_refl _, fun _ => rfl, Or.inl ⟨hx.1, rfl⟩⟩
  · simp [Value.cells] at hcs
    obtain ⟨rfl, rfl, rfl⟩ := hcs
    simp only [Prod.mk.injEq] at hx
    simp only [if_true] at hz
    refine ⟨zs.take len, by simp; omega, ⟨fun i hi => ?_, hM, getD_bd hM ?_⟩, hl, (by intro h; cases h), Or.inr ⟨_, _, hx.1, by simp [ChangeShapes.lits]; omega⟩⟩
    · simp at hi
      have hi2 : i < len := by omega
      have h1 := hcell i (by omega)
      obtain ⟨b, off, spot⟩ := x
      have hs : spot = none := by
        have := hcell 0 (by omega)
        simpa [Addr.add] using World.cell?_spot this
      subst hs
      refine ⟨b, off, rfl, ?_⟩
      have hadd : (⟨b, off, none⟩ : Addr).add i = ⟨b, off + i, none⟩ := by unfold Addr.add; split <;> simp_all
      rw [hadd] at h1
      rw [h1]
      simp [List.getD, hi2]
    · intro z hz1
      exact hwf z (hwz z (List.mem_of_mem_take hz1))
end Go.Proofs.YtiijjmmkidjgaaaDoor
