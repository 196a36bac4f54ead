import Derived.Test.YtmddnmpldmdllaaDoorPx
import Derived.Test.YtmddnmpldmdllaaDoorPu
import Derived.Test.YtmddnmpldmdllaaDoorPb
import Derived.WalkKit
import Derived.ProofKit
import Derived.OpenShut
import Derived.SizedLaws
namespace Go.Proofs.YtmddnmpldmdllaaDoor
open Go.RowKit
set_option linter.unusedVariables false

/-! The landed swell: New, made, Done, Total, End, Step; the document's second example. -/
section
variable {w w' : World} {bs b g S : Nat} {L K : List Int} {H : List Bool} {t dl dd hd : Nat} {win lim nx : Int} {last : Bool}
set_option maxRecDepth 100000 in
set_option maxHeartbeats 1000000 in
theorem pmay11 (win widest most : Int) (w : World) : Calls Tryd.prog 14 #[.int .i64 win, .int .i64 widest, .int .i64 most] w fun e w' => e = .returned (.bool (decide (1 ≤ win ∧ win ≤ widest ∧ 0 ≤ most ∧ most ≤ 268435456))) ∧ w' = w := by
  by_cases h1 : 1 ≤ win
  · by_cases h2 : win ≤ widest
    · by_cases h3 : 0 ≤ most
      · by_cases h4 : most ≤ 268435456
        · have e : decide (1 ≤ win ∧ win ≤ widest ∧ 0 ≤ most ∧ most ≤ 268435456) = true := decide_eq_true ⟨h1, h2, h3, h4⟩
          rw [e]
          clear e
          go_enter Tryd.func14, Tryd.ntmps14
          go_wp2_with fail
          go_ret
          exact ⟨rfl, rfl⟩
        · have e : decide (1 ≤ win ∧ win ≤ widest ∧ 0 ≤ most ∧ most ≤ 268435456) = false := decide_eq_false (fun q => h4 q.2.2.2)
          rw [e]
          clear e
          go_enter Tryd.func14, Tryd.ntmps14
          go_wp2_with fail
          go_ret
          exact ⟨rfl, rfl⟩
      · have e : decide (1 ≤ win ∧ win ≤ widest ∧ 0 ≤ most ∧ most ≤ 268435456) = false := decide_eq_false (fun q => h3 q.2.2.1)
        rw [e]
        clear e
        go_enter Tryd.func14, Tryd.ntmps14
        go_wp2_with fail
        go_ret
        exact ⟨rfl, rfl⟩
    · have e : decide (1 ≤ win ∧ win ≤ widest ∧ 0 ≤ most ∧ most ≤ 268435456) = false := decide_eq_false (fun q => h2 q.2.1)
      rw [e]
      clear e
      go_enter Tryd.func14, Tryd.ntmps14
      go_wp2_with fail
      go_ret
      exact ⟨rfl, rfl⟩
  · have e : decide (1 ≤ win ∧ win ≤ widest ∧ 0 ≤ most ∧ most ≤ 268435456) = false := decide_eq_false (fun q => h1 q.1)
    rw [e]
    clear e
    go_enter Tryd.func14, Tryd.ntmps14
    go_wp2_with fail
    go_ret
    exact ⟨rfl, rfl⟩
set_option maxRecDepth 100000 in
set_option maxHeartbeats 1000000 in
theorem pmade11 (w : World) (h : w.heap[bs]? = some (.cells #[.pointer (some ⟨b, 0, none⟩)] 28 (0, 0))) : Calls Tryd.prog 11 #[.pointer (some ⟨bs, 0, none⟩)] w fun e w' => e = .returned (.bool true) ∧ w' = w := by
  have c0 : w.cell? ⟨bs, 0, none⟩ = some (.pointer (some ⟨b, 0, none⟩)) := (cell_of_row w _ 0 _ _ _ h).trans rfl
  clear h
  go_enter Tryd.func11, Tryd.ntmps11
  go_wp2_with fail
  go_ret
  exact ⟨rfl, rfl⟩
set_option maxRecDepth 100000 in
set_option maxHeartbeats 1000000 in
theorem pdone11 (h : w.heap[bs]? = some (.cells #[.pointer (some ⟨b, 0, none⟩)] 28 (0, 0))) (hS : Sw w b g S L K H t dl dd hd win lim 9 last) : Calls Tryd.prog 5 #[.pointer (some ⟨bs, 0, none⟩)] w fun e w' => e = .returned (.bool true) ∧ w' = w := by
  have c0 : w.cell? ⟨bs, 0, none⟩ = some (.pointer (some ⟨b, 0, none⟩)) := (cell_of_row w _ 0 _ _ _ h).trans rfl
  have c10 := hS.cell 10 _ rfl
  have CM := pmade11 w h
  clear h hS
  go_enter Tryd.func5, Tryd.ntmps5
  go_wp2_with fail
  refine CM.mono ?_
  rintro e w1 ⟨rfl, hw1⟩
  subst w1
  go_wp2_with fail
  go_ret
  exact ⟨rfl, rfl⟩
set_option maxRecDepth 100000 in
set_option maxHeartbeats 1000000 in
theorem ptot11 (h : w.heap[bs]? = some (.cells #[.pointer (some ⟨b, 0, none⟩)] 28 (0, 0))) (hS : Sw w b g S L K H t dl dd hd win lim nx last) : Calls Tryd.prog 6 #[.pointer (some ⟨bs, 0, none⟩)] w fun e w' => e = .returned (.int .i64 (L.length : Int)) ∧ w' = w := by
  have c0 : w.cell? ⟨bs, 0, none⟩ = some (.pointer (some ⟨b, 0, none⟩)) := (cell_of_row w _ 0 _ _ _ h).trans rfl
  have CM := pmade11 w h
  have CT := ptotal_o hS.ring
  clear h hS
  generalize L.length = n at *
  go_enter Tryd.func6, Tryd.ntmps6
  go_wp2_with fail
  refine CM.mono ?_
  rintro e w1 ⟨rfl, hw1⟩
  subst w1
  go_wp2_with fail
  refine CT.mono ?_
  rintro e w1 ⟨rfl, hw1⟩
  subst w1
  go_wp2_with fail
  go_ret
  exact ⟨rfl, rfl⟩
set_option maxRecDepth 100000 in
set_option maxHeartbeats 1000000 in
theorem pend11 (h : w.heap[bs]? = some (.cells #[.pointer (some ⟨b, 0, none⟩)] 28 (0, 0))) (hS : Sw w b g S L K H t dl dd hd win lim 9 last) : Calls Tryd.prog 7 #[.pointer (some ⟨bs, 0, none⟩)] w fun e w' => e = .returned (.int .i64 0) ∧ w' = w := by
  have c0 : w.cell? ⟨bs, 0, none⟩ = some (.pointer (some ⟨b, 0, none⟩)) := (cell_of_row w _ 0 _ _ _ h).trans rfl
  have c16 := hS.cell 16 _ rfl
  have CM := pmade11 w h
  have CD := pdone11 h hS
  clear h hS
  go_enter Tryd.func7, Tryd.ntmps7
  go_wp2_with fail
  refine CM.mono ?_
  rintro e w1 ⟨rfl, hw1⟩
  subst w1
  go_wp2_with fail
  refine CD.mono ?_
  rintro e w1 ⟨rfl, hw1⟩
  subst w1
  go_wp2_with fail
  go_ret
  exact ⟨rfl, rfl⟩
end
set_option maxRecDepth 100000 in
set_option maxHeartbeats 4000000 in
theorem pnew11 (S : Nat) (h1 : 1 ≤ S) (h2 : S ≤ 32768) (lim : Int) (h3 : 0 ≤ lim ∧ lim ≤ 268435456) (w : World) :
    Calls Tryd.prog 18 #[.int .i64 (S : Int), .int .i64 lim] w fun e w' => ∃ bs b g dl dd hd, e = .returned (.tuple #[.pointer (some ⟨bs, 0, none⟩), .int .i64 0]) ∧ w'.heap[bs]? = some (.cells #[.pointer (some ⟨b, 0, none⟩)] 28 (0, 0)) ∧ Sw w' b g S [] (List.replicate S 0) [] 0 dl dd hd (S : Int) lim 0 false ∧ De w' dl 288 [] ∧ De w' dd 32 [] ∧ Hd11 w' hd ∧ (w.heap.size ≤ g ∧ g < dl ∧ dl < dd ∧ dd < hd ∧ hd < b ∧ b < bs) ∧ Below w.heap.size w w' := by
  have CM := pmay11 (S : Int) 32768 lim w
  rw [decide_eq_true (show 1 ≤ (S : Int) ∧ (S : Int) ≤ 32768 ∧ 0 ≤ lim ∧ lim ≤ 268435456 by omega)] at CM
  go_enter Tryd.func18, Tryd.ntmps18
  go_wp2_with fail
  refine CM.mono ?_
  rintro e w1 ⟨rfl, hw1⟩
  subst w1
  clear CM
  go_wp2_with fail
  refine (pnewS11 S h1 h2 w).mono ?_
  rintro e w2 ⟨b, g, dl, dd, hd, K, rfl, hS, D1, D2, hH, hz, b2⟩
  have CS := pstart11 (S : Int) lim hS
  have HD : Hid (De w2 dl 288 [] ∧ De w2 dd 32 [] ∧ Hd11 w2 hd) := ⟨D1, D2, hH⟩
  have HZ : Hid (w.heap.size ≤ g ∧ g < dl ∧ dl < dd ∧ dd < hd ∧ hd < b) := hz
  have HB2 : Hid (Below w.heap.size w w2) := b2
  have HLT : Hid (b < w2.heap.size) := hS.b_lt
  clear hS D1 D2 hH hz b2
  go_wp2_with fail
  refine CS.mono ?_
  rintro e w3 ⟨rfl, h4, k4⟩
  have hz := HZ.out
  have hlt := HLT.out
  have E1 := HD.out.1.kp11 k4 (by omega)
  have E2 := HD.out.2.1.kp11 k4 (by omega)
  have E3 := HD.out.2.2.keep (k4.block hd HD.out.2.2.lt (by omega))
  have B3 : Below w.heap.size w w3 := HB2.out.trans (k4.below (fun i e => by omega) HB2.out.size)
  have b5 := below_box8' w3 (.cells #[.pointer (some ⟨b, 0, none⟩)] 28)
  have hs3 := k4.size
  have HFIN : Hid ((w3.alloc (.cells #[.pointer (some ⟨b, 0, none⟩)] 28)).heap[w3.heap.size]? = some (.cells #[.pointer (some ⟨b, 0, none⟩)] 28 (0, 0)) ∧ Sw (w3.alloc (.cells #[.pointer (some ⟨b, 0, none⟩)] 28)) b g S [] (List.replicate S 0) [] 0 dl dd hd (S : Int) lim 0 false ∧ De (w3.alloc (.cells #[.pointer (some ⟨b, 0, none⟩)] 28)) dl 288 [] ∧ De (w3.alloc (.cells #[.pointer (some ⟨b, 0, none⟩)] 28)) dd 32 [] ∧ Hd11 (w3.alloc (.cells #[.pointer (some ⟨b, 0, none⟩)] 28)) hd ∧ (w.heap.size ≤ g ∧ g < dl ∧ dl < dd ∧ dd < hd ∧ hd < b ∧ b < w3.heap.size) ∧ Below w.heap.size w (w3.alloc (.cells #[.pointer (some ⟨b, 0, none⟩)] 28))) :=
    ⟨heap_alloc_new w3 _, h4.old b5, E1.keep (b5.block dl (by omega)), E2.keep (b5.block dd (by omega)), E3.keep (b5.block hd E3.lt), by omega, B3.trans (b5.mono B3.size)⟩
  clear CS h4 k4 E1 E2 E3 B3 b5
  go_wp2_with fail
  go_ret2
  exact ⟨w3.heap.size, b, g, dl, dd, hd, rfl, HFIN.out⟩
end Go.Proofs.YtmddnmpldmdllaaDoor

namespace Go.Proofs.YtmddnmpldmdllaaDoor
open Go.RowKit
set_option linter.unusedVariables false

/-! The landed swell: Step; the law's lives. -/
section
variable {bs b g S : Nat} {K0 : List Int} {dl dd hd pg : Nat} {win : Int}
set_option maxRecDepth 100000 in
set_option maxHeartbeats 4000000 in
theorem pstep11 (w : World) (hb : w.heap[bs]? = some (.cells #[.pointer (some ⟨b, 0, none⟩)] 28 (0, 0))) (hne : b ≠ dl ∧ b ≠ dd ∧ g ≠ dl ∧ g ≠ dd ∧ dl ≠ dd) (hpg : pg ≠ b ∧ pg ≠ g ∧ pg ≠ dl ∧ pg ≠ dd) (hbs : bs ≠ b ∧ bs ≠ g ∧ bs ≠ dl ∧ bs ≠ dd) (hS : Sw w b g S [] K0 [] 0 dl dd hd win 10 0 false) (D1 : De w dl 288 []) (D2 : De w dd 32 []) (hsg : Seg w (some ⟨pg, 0, none⟩) [75, 4, 0]) :
    Calls Tryd.prog 4 #[.pointer (some ⟨bs, 0, none⟩), .slice (some ⟨pg, 0, none⟩) 3 3, .int .i64 9] w fun e w' => ∃ og oc K H, e = .returned (.tuple #[.slice (some ⟨og, 0, none⟩) 1 oc, .int .i64 3, .int .i64 0]) ∧ Sw w' b g S [97] K H 18 dl dd hd win 10 9 true ∧ w'.heap[bs]? = some (.cells #[.pointer (some ⟨b, 0, none⟩)] 28 (0, 0)) ∧ w'.ownsRow w.heap.size 5 1 (.slice (some ⟨og, 0, none⟩) 1 oc) 1 [.int .u8 97] ∧ Kp (fun k => k = b ∨ k = g ∨ k = dl ∨ k = dd) w w' := by
  have c0 : w.cell? ⟨bs, 0, none⟩ = some (.pointer (some ⟨b, 0, none⟩)) := (cell_of_row w _ 0 _ _ _ hb).trans rfl
  have c16 := hS.cell 16 _ rfl
  have CM := pmade11 w hb
  have CS := psw_step w hne hpg hS D1 D2 hsg
  have HB : Hid (w.heap[bs]? = some (.cells #[.pointer (some ⟨b, 0, none⟩)] 28 (0, 0))) := hb
  have HBS : Hid (bs ≠ b ∧ bs ≠ g ∧ bs ≠ dl ∧ bs ≠ dd) := hbs
  clear hb hne hpg hbs hS D1 D2 hsg
  go_enter Tryd.func4, Tryd.ntmps4
  go_wp2_with fail
  refine CM.mono ?_
  rintro e w1 ⟨rfl, hw1⟩
  subst w1
  clear CM
  go_wp2_with fail
  refine CS.mono ?_
  rintro e w2 ⟨og, oc, K, H, rfl, h2, O2, k2⟩
  have hb2 := k2.heap HB.out (by have := HBS.out; omega)
  have b3 := below_box8' w2 (.cells #[.slice (some ⟨pg, 0, none⟩) 3 3, .int .i64 3, .int .i64 9, .slice (some ⟨og, 0, none⟩) 1 oc] 49)
  have hh := heap_alloc_new w2 (.cells #[.slice (some ⟨pg, 0, none⟩) 3 3, .int .i64 3, .int .i64 9, .slice (some ⟨og, 0, none⟩) 1 oc] 49)
  obtain ⟨w3, hw3⟩ : ∃ w3, w3 = w2.alloc (.cells #[.slice (some ⟨pg, 0, none⟩) 3 3, .int .i64 3, .int .i64 9, .slice (some ⟨og, 0, none⟩) 1 oc] 49) := ⟨_, rfl⟩
  have HE : Hid (Sw w3.drew b g S [97] K H 18 dl dd hd win 10 9 true ∧ w3.drew.heap[bs]? = some (.cells #[.pointer (some ⟨b, 0, none⟩)] 28 (0, 0)) ∧ w3.drew.ownsRow w.heap.size 5 1 (.slice (some ⟨og, 0, none⟩) 1 oc) 1 [.int .u8 97] ∧ Kp (fun k => k = b ∨ k = g ∨ k = dl ∨ k = dd) w w3.drew) := by
    rw [hw3]
    exact ⟨(h2.old b3).kp (Kp.refl (fun _ => False) _).drew (fun e => e) (fun e => e), (b3.block bs (Array.getElem?_eq_some_iff.1 hb2).1).trans hb2, own_kp (own_below O2 b3) (Kp.refl (fun _ => False) _).drew (fun _ _ e => e), (k2.trans (Kp.of_below (S := fun _ => False) b3) (fun _ _ e => e.elim)).drew⟩
  have HW3 : Hid (w2.alloc (.cells #[.slice (some ⟨pg, 0, none⟩) 3 3, .int .i64 3, .int .i64 9, .slice (some ⟨og, 0, none⟩) 1 oc] 49) = w3) := hw3.symm
  clear CS h2 O2 k2 hb2 b3 hh hw3
  go_wp2_with fail
  go_region
  go_wp2_with fail
  try rw [HW3.out]
  go_ret3
  exact ⟨og, oc, K, H, rfl, HE.out⟩
end
set_option maxRecDepth 100000 in
set_option maxHeartbeats 4000000 in
theorem plives11 (w : World) : Calls Tryd.prog 10 #[] w fun e w' => e = .returned (.bool true) ∧ Below w.heap.size w w' := by
  have CN : Calls Tryd.prog 18 #[.int .i64 100, .int .i64 10] w _ := pnew11 100 (by omega) (by omega) 10 (by omega) w
  go_enter Tryd.func10, Tryd.ntmps10
  go_wp2_with fail
  refine CN.mono ?_
  rintro e w1 ⟨bs, b, g, dl, dd, hd, rfl, hb, hS, D1, D2, hH, hz, b1⟩
  have ba := below_box8' w1 (.cells #[.int .u8 75, .int .u8 4, .int .u8 0] 5)
  have hbs := (Array.getElem?_eq_some_iff.1 hb).1
  have hsg : Seg (w1.alloc (.cells #[.int .u8 75, .int .u8 4, .int .u8 0] 5)) (some ⟨w1.heap.size, 0, none⟩) [75, 4, 0] := by
    have hh := heap_alloc_new w1 (.cells #[.int .u8 75, .int .u8 4, .int .u8 0] 5)
    refine ⟨fun i hi => ⟨w1.heap.size, 0, rfl, ?_⟩, by decide, getD_bd (by decide) (by intro z hz; simp at hz; omega)⟩
    simp only [List.length_cons, List.length_nil] at hi
    rw [Nat.zero_add, cell_of_row _ _ i _ _ _ hh]
    match i, hi with
    | 0, _ => rfl
    | 1, _ => rfl
    | 2, _ => rfl
  have CS := pstep11 (pg := w1.heap.size) (w1.alloc (.cells #[.int .u8 75, .int .u8 4, .int .u8 0] 5)) ((ba.block bs hbs).trans hb) (by omega) (by omega) (by omega) (hS.old ba) (D1.keep (ba.block dl (by omega))) (D2.keep (ba.block dd (by omega))) hsg
  have HZ : Hid (w.heap.size ≤ g ∧ g < dl ∧ dl < dd ∧ dd < hd ∧ hd < b ∧ b < bs) := hz
  have HB1 : Hid (Below w.heap.size w (w1.alloc (.cells #[.int .u8 75, .int .u8 4, .int .u8 0] 5))) := b1.trans (ba.mono b1.size)
  clear CN hb hS D1 D2 hH hz b1 ba hbs hsg
  go_wp2_with fail
  refine CS.mono ?_
  rintro e w2 ⟨og, oc, K, H, rfl, h2, hb2, O2, k2⟩
  have hz := HZ.out
  have B2 : Below w.heap.size w w2 := HB1.out.trans (k2.below (fun i e => by omega) HB1.out.size)
  obtain ⟨-, a3, c3, hv3, s3, -⟩ := own_seg (M := 255) (zs := [97]) O2 (by omega) (by intro z hz; simp at hz; omega)
  cases hv3
  have hst : strOfNums [97] = { data := #[97] } := by rfl
  have hcv : (convert 22 9 (.slice (some ⟨og, 0, none⟩) 1 oc)).run Tryd.prog w2 = .ok (.string { data := #[97] }) w2 := by
    have := run_conv_segS (P := Tryd.prog) oc s3 22 5 9 Tryd.underlying22 Tryd.underlying5 Tryd.underlying9
    rw [hst] at this
    exact this
  have CD := pdone11 hb2 h2
  have CT : Calls Tryd.prog 6 #[.pointer (some ⟨bs, 0, none⟩)] w2 fun e w' => e = .returned (.int .i64 1) ∧ w' = w2 := ptot11 hb2 h2
  have CE := pend11 hb2 h2
  have HB2 : Hid (Below w.heap.size w w2) := B2
  clear CS h2 hb2 O2 k2 s3 hz B2 hst
  go_wp2_with fail
  refine CD.mono ?_
  rintro e w3 ⟨rfl, hw3⟩
  subst w3
  go_wp2_with fail
  refine CT.mono ?_
  rintro e w3 ⟨rfl, hw3⟩
  subst w3
  go_wp2_with fail
  refine CE.mono ?_
  rintro e w3 ⟨rfl, hw3⟩
  subst w3
  go_wp2_with fail
  go_ret
  exact ⟨rfl, HB2.out⟩
end Go.Proofs.YtmddnmpldmdllaaDoor

namespace Go.Proofs.YtmddnmpldmdllaaDoor
open Go.RowKit
set_option linter.unusedVariables false

/-! SwellMade: those that no call made. -/
set_option maxRecDepth 100000 in
theorem nmad11 (w : World) : Calls Tryd.prog 11 #[.pointer none] w fun e w' => e = .returned (.bool false) ∧ w' = w := by
  go_enter Tryd.func11, Tryd.ntmps11
  go_wp2_with fail
  go_ret
  exact ⟨rfl, rfl⟩
set_option maxRecDepth 100000 in
theorem zmad11 (b : Nat) (w : World) (c : w.cell? ⟨b, 0, none⟩ = some (.pointer none)) : Calls Tryd.prog 11 #[.pointer (some ⟨b, 0, none⟩)] w fun e w' => e = .returned (.bool false) ∧ w' = w := by
  go_enter Tryd.func11, Tryd.ntmps11
  go_wp2_with fail
  go_ret
  exact ⟨rfl, rfl⟩
structure NoS11 (w : World) (v : Value) : Prop where
  md : ∀ W, Below w.heap.size w W → Calls Tryd.prog 11 #[v] W fun e w' => e = .returned (.bool false) ∧ w' = W
theorem NoS11.nil (w : World) : NoS11 w (.pointer none) := ⟨fun W _ => nmad11 W⟩
theorem NoS11.zero {w : World} {b : Nat} (h : w.cell? ⟨b, 0, none⟩ = some (.pointer none)) : NoS11 w (.pointer (some ⟨b, 0, none⟩)) :=
  ⟨fun W hW => zmad11 b W ((hW.cell (p := ⟨b, 0, none⟩) (World.block_lt_of_cell? w _ h)).trans h)⟩
theorem NoS11.old {w w' : World} {v : Value} (h : NoS11 w v) (hb : Below w.heap.size w w') : NoS11 w' v := ⟨fun W hW => h.md W (hb.trans (hW.mono hb.size))⟩
set_option maxRecDepth 100000 in
theorem nstp11 (v : Value) (ba : Option Addr) (bl bc : Nat) (m : Int) (w : World) (h : NoS11 w v) : Calls Tryd.prog 4 #[v, .slice ba bl bc, .int .i64 m] w fun e w' => e = .returned (.tuple #[.slice none 0 0, .int .i64 0, .int .i64 2]) ∧ w' = w := by
  have HMD := h.md w (Below.refl _ _)
  clear h
  go_enter Tryd.func4, Tryd.ntmps4
  go_wp2_with (first
    | (go_at_call 11; refine HMD.mono ?_; rintro e1 w1 ⟨rfl, hw1⟩; subst hw1))
  go_ret3
  exact ⟨rfl, rfl⟩
set_option maxRecDepth 100000 in
theorem ndon11 (v : Value) (w : World) (h : NoS11 w v) : Calls Tryd.prog 5 #[v] w fun e w' => e = .returned (.bool false) ∧ w' = w := by
  have HMD := h.md w (Below.refl _ _)
  clear h
  go_enter Tryd.func5, Tryd.ntmps5
  go_wp2_with (first
    | (go_at_call 11; refine HMD.mono ?_; rintro e1 w1 ⟨rfl, hw1⟩; subst hw1))
  go_ret
  exact ⟨rfl, rfl⟩
set_option maxRecDepth 100000 in
theorem ntot11 (v : Value) (w : World) (h : NoS11 w v) : Calls Tryd.prog 6 #[v] w fun e w' => e = .returned (.int .i64 0) ∧ w' = w := by
  have HMD := h.md w (Below.refl _ _)
  clear h
  go_enter Tryd.func6, Tryd.ntmps6
  go_wp2_with (first
    | (go_at_call 11; refine HMD.mono ?_; rintro e1 w1 ⟨rfl, hw1⟩; subst hw1))
  go_ret
  exact ⟨rfl, rfl⟩
set_option maxRecDepth 100000 in
theorem nend11 (v : Value) (w : World) (h : NoS11 w v) : Calls Tryd.prog 7 #[v] w fun e w' => e = .returned (.int .i64 2) ∧ w' = w := by
  have HMD := h.md w (Below.refl _ _)
  clear h
  go_enter Tryd.func7, Tryd.ntmps7
  go_wp2_with (first
    | (go_at_call 11; refine HMD.mono ?_; rintro e1 w1 ⟨rfl, hw1⟩; subst hw1))
  go_ret
  exact ⟨rfl, rfl⟩
set_option maxRecDepth 100000 in
theorem nrst11 (v : Value) (a b : Int) (w : World) (h : NoS11 w v) : Calls Tryd.prog 8 #[v, .int .i64 a, .int .i64 b] w fun e w' => e = .returned (.int .i64 2) ∧ w' = w := by
  have HMD := h.md w (Below.refl _ _)
  clear h
  go_enter Tryd.func8, Tryd.ntmps8
  go_wp2_with (first
    | (go_at_call 11; refine HMD.mono ?_; rintro e1 w1 ⟨rfl, hw1⟩; subst hw1))
  go_ret
  exact ⟨rfl, rfl⟩
set_option maxRecDepth 100000 in
theorem nroo11 (v : Value) (w : World) (h : NoS11 w v) : Calls Tryd.prog 9 #[v] w fun e w' => e = .returned (.int .i64 0) ∧ w' = w := by
  have HMD := h.md w (Below.refl _ _)
  clear h
  go_enter Tryd.func9, Tryd.ntmps9
  go_wp2_with (first
    | (go_at_call 11; refine HMD.mono ?_; rintro e1 w1 ⟨rfl, hw1⟩; subst hw1))
  go_ret
  exact ⟨rfl, rfl⟩
set_option maxRecDepth 100000 in
set_option maxHeartbeats 4000000 in
theorem swellMade_walk (w : World) (tab : True) (ba : Option Addr) (bl bc : Nat) (f1 : Int) (u2 u3 : Value) :
    Calls Tryd.prog 3 #[.agg #[.slice ba bl bc, .int .i64 f1, u2, u3]] w fun e w' => e = .returned (.bool true) ∧ Below w.heap.size w w' := by
  have b0 : Below w.heap.size w (w.alloc (.cells #[.slice ba bl bc, .int .i64 f1, u2, u3] 24)) := (Below.refl _ _).alloc (Nat.le_refl _) _
  have hx0 := heap_alloc_new w (.cells #[.slice ba bl bc, .int .i64 f1, u2, u3] 24)
  have z0 : (w.alloc (.cells #[.slice ba bl bc, .int .i64 f1, u2, u3] 24)).heap.size = w.heap.size + 1 := by simp
  go_enter Tryd.func3, Tryd.ntmps3
  go_wp2_with fail
  generalize w.alloc (.cells #[.slice ba bl bc, .int .i64 f1, u2, u3] 24) = w0 at *
  have b1 : Below w0.heap.size w0 (w0.alloc (.cells #[.pointer none] 28)) := (Below.refl _ _).alloc (Nat.le_refl _) _
  have hx1 := heap_alloc_new w0 (.cells #[.pointer none] 28)
  have z1 : (w0.alloc (.cells #[.pointer none] 28)).heap.size = w0.heap.size + 1 := by simp
  generalize w0.alloc (.cells #[.pointer none] 28) = w1 at *
  obtain ⟨bo, eo⟩ : ∃ bo, bo = w.heap.size := ⟨_, rfl⟩
  obtain ⟨bx, ex⟩ : ∃ bx, bx = bo + 1 := ⟨_, rfl⟩
  obtain ⟨bs, es⟩ : ∃ bs, bs = bx + 1 := ⟨_, rfl⟩
  rw [← eo] at hx0 z0
  rw [← ex] at z0
  rw [z0] at hx1 z1
  rw [← es] at z1
  have hn1 : NoS11 w1 (.pointer (some ⟨bx, 0, none⟩)) := NoS11.zero (by simp [World.cell?, hx1])
  have b2 : Below w1.heap.size w1 (w1.alloc (.cells #[.pointer none, .pointer (some ⟨bx, 0, none⟩)] 25)) := (Below.refl _ _).alloc (Nat.le_refl _) _
  have q0 : (w1.alloc (.cells #[.pointer none, .pointer (some ⟨bx, 0, none⟩)] 25)).cell? ⟨bs, 0, none⟩ = some (.pointer none) := by rw [← z1, World.cell?_alloc_mark]; rfl
  have q1 : (w1.alloc (.cells #[.pointer none, .pointer (some ⟨bx, 0, none⟩)] 25)).cell? ⟨bs, 1, none⟩ = some (.pointer (some ⟨bx, 0, none⟩)) := by rw [← z1, World.cell?_alloc_mark]; rfl
  rw [← eo, ← ex]
  have r0 := (b2.block bo (by omega)).trans ((b1.block bo (by omega)).trans hx0)
  have HB3 : Hid (Below w.heap.size w (w1.alloc (.cells #[.pointer none, .pointer (some ⟨bx, 0, none⟩)] 25))) := (b0.trans (b1.mono (by omega))).trans (b2.mono (by omega))
  have hz3 := hn1.old b2
  generalize w1.alloc (.cells #[.pointer none, .pointer (some ⟨bx, 0, none⟩)] 25) = w3 at *
  have hn3 : NoS11 w3 (.pointer none) := NoS11.nil w3
  have HQ1 : Hid (∀ W, Below w3.heap.size w3 W → W.cell? ⟨bs, 1, none⟩ = some (.pointer (some ⟨bx, 0, none⟩)) ∧ W.cell? ⟨bo, 0, none⟩ = some (.slice ba bl bc) ∧ W.cell? ⟨bo, 1, none⟩ = some (.int .i64 f1)) := fun W hW => by
    have r1 := (hW.block bo (Array.getElem?_eq_some_iff.1 r0).1).trans r0
    exact ⟨(hW.cell (p := ⟨bs, 1, none⟩) (World.block_lt_of_cell? w3 _ q1)).trans q1, by simp [World.cell?, r1], by simp [World.cell?, r1]⟩
  have B0 : Below w3.heap.size w3 w3 := Below.refl _ _
  obtain ⟨-, o0, o1⟩ := HQ1.out w3 B0
  have HSt : Hid (∀ v, NoS11 w3 v → ∀ W, Below w3.heap.size w3 W → Calls Tryd.prog 4 #[v, .slice ba bl bc, .int .i64 f1] W fun e w' => e = .returned (.tuple #[.slice none 0 0, .int .i64 0, .int .i64 2]) ∧ Below w3.heap.size w3 w') := fun v hv W hb => (nstp11 v ba bl bc f1 W (hv.old hb)).mono fun e w' ⟨he, hB⟩ => ⟨he, by rw [hB]; exact hb⟩
  have HDo : Hid (∀ v, NoS11 w3 v → ∀ W, Below w3.heap.size w3 W → Calls Tryd.prog 5 #[v] W fun e w' => e = .returned (.bool false) ∧ Below w3.heap.size w3 w') := fun v hv W hb => (ndon11 v W (hv.old hb)).mono fun e w' ⟨he, hB⟩ => ⟨he, by rw [hB]; exact hb⟩
  have HTo : Hid (∀ v, NoS11 w3 v → ∀ W, Below w3.heap.size w3 W → Calls Tryd.prog 6 #[v] W fun e w' => e = .returned (.int .i64 0) ∧ Below w3.heap.size w3 w') := fun v hv W hb => (ntot11 v W (hv.old hb)).mono fun e w' ⟨he, hB⟩ => ⟨he, by rw [hB]; exact hb⟩
  have HEn : Hid (∀ v, NoS11 w3 v → ∀ W, Below w3.heap.size w3 W → Calls Tryd.prog 7 #[v] W fun e w' => e = .returned (.int .i64 2) ∧ Below w3.heap.size w3 w') := fun v hv W hb => (nend11 v W (hv.old hb)).mono fun e w' ⟨he, hB⟩ => ⟨he, by rw [hB]; exact hb⟩
  have HRs : Hid (∀ v, NoS11 w3 v → ∀ W, Below w3.heap.size w3 W → Calls Tryd.prog 8 #[v, .int .i64 1, .int .i64 1] W fun e w' => e = .returned (.int .i64 2) ∧ Below w3.heap.size w3 w') := fun v hv W hb => (nrst11 v 1 1 W (hv.old hb)).mono fun e w' ⟨he, hB⟩ => ⟨he, by rw [hB]; exact hb⟩
  have HRo : Hid (∀ v, NoS11 w3 v → ∀ W, Below w3.heap.size w3 W → Calls Tryd.prog 9 #[v] W fun e w' => e = .returned (.int .i64 0) ∧ Below w3.heap.size w3 w') := fun v hv W hb => (nroo11 v W (hv.old hb)).mono fun e w' ⟨he, hB⟩ => ⟨he, by rw [hB]; exact hb⟩
  rw [← es]
  clear q1 hn1 hx0 hx1 z0 z1 eo ex es b0 b1 b2 r0
  refine wp_loop_rounds 3 ?_
  rw [rounds_succ]
  go_wp2_with (first
    | (go_at_call 4; refine (HSt.out _ (by assumption) _ (by assumption)).mono ?_; rintro e1 W1 ⟨rfl, B1⟩)
    | (go_at_call 5; refine (HDo.out _ (by assumption) _ (by assumption)).mono ?_; rintro e2 W2 ⟨rfl, B2⟩)
    | (go_at_call 6; refine (HTo.out _ (by assumption) _ (by assumption)).mono ?_; rintro e3 W3 ⟨rfl, B3⟩)
    | (go_at_call 7; refine (HEn.out _ (by assumption) _ (by assumption)).mono ?_; rintro e4 W4 ⟨rfl, B4⟩)
    | (go_at_call 8; refine (HRs.out _ (by assumption) _ (by assumption)).mono ?_; rintro e5 W5 ⟨rfl, B5⟩)
    | (go_at_call 9; refine (HRo.out _ (by assumption) _ (by assumption)).mono ?_; rintro e6 W6 ⟨rfl, B6⟩))
  obtain ⟨q1, o2, o3⟩ := HQ1.out W6 B6
  clear B0 B1 B2 B3 B4 B5 o0 o1
  rw [rounds_succ]
  go_wp2_with (first
    | (go_at_call 4; refine (HSt.out _ (by assumption) _ (by assumption)).mono ?_; rintro e1 X1 ⟨rfl, C1⟩)
    | (go_at_call 5; refine (HDo.out _ (by assumption) _ (by assumption)).mono ?_; rintro e2 X2 ⟨rfl, C2⟩)
    | (go_at_call 6; refine (HTo.out _ (by assumption) _ (by assumption)).mono ?_; rintro e3 X3 ⟨rfl, C3⟩)
    | (go_at_call 7; refine (HEn.out _ (by assumption) _ (by assumption)).mono ?_; rintro e4 X4 ⟨rfl, C4⟩)
    | (go_at_call 8; refine (HRs.out _ (by assumption) _ (by assumption)).mono ?_; rintro e5 X5 ⟨rfl, C5⟩)
    | (go_at_call 9; refine (HRo.out _ (by assumption) _ (by assumption)).mono ?_; rintro e6 X6 ⟨rfl, C6⟩))
  rw [rounds_succ]
  go_wp2_with (first
    | (go_at_call 10; refine (plives11 _).mono ?_; rintro e5 w5 ⟨rfl, D5⟩))
  go_ret
  exact ⟨rfl, HB3.out.trans ((C6.trans (D5.mono C6.size)).mono HB3.out.size)⟩
end Go.Proofs.YtmddnmpldmdllaaDoor

namespace Go.Proofs.YtmddnmpldmdllaaDoor
open Go.ChangeShapes Go.WideShapes Go.ChangeAt Go.RowKit
set_option linter.unusedVariables false

/-- A slice of whole numbers that came in: what lies there, and how it was read. -/
theorem open_seg {H : Type} {enc : TypeId × Value → H} {P : Program} {W : World} {T e : TypeId} {k : IntKind} {M : Int} {a : Option Addr} {len cap : Nat} {d : DataW H} {p : List MemPlace}
    (hT : P.underlying T = some (.slice e)) (he : P.underlying e = some (.int k)) (hc : P.cellsOf e = 1) (hM : 0 ≤ M) (hwf : ∀ n, (Lit.int k n).wf = true → 0 ≤ n ∧ n ≤ M)
    (h : DataW.Trod enc P W 0 (fun _ => true) true T (.slice a len cap) d p) :
    ∃ zs : List Int, zs.length = len ∧ SegK k M W a zs ∧ len ≤ cap ∧ (a = none → cap = 0) ∧ ((d = .nil ∧ len = 0) ∨ ∃ elems spare, d = .slice elems spare ∧ elems.length = len) := by
  obtain ⟨fuel, hf⟩ := h
  rcases open_ints hT he hc hf with ⟨hcs, hx⟩ | ⟨x, l, c, zs, hcs, _, hl, hm, hz, hx, hcell, hwz⟩
  · simp [Value.cells] at hcs
    obtain ⟨rfl, rfl, rfl⟩ := hcs
    simp only [Prod.mk.injEq] at hx
    exact ⟨[], rfl, SegK.nil hM _ _, Nat.le_refl _, fun _ => rfl, Or.inl ⟨hx.1, rfl⟩⟩
  · simp [Value.cells] at hcs
    obtain ⟨rfl, rfl, rfl⟩ := hcs
    simp only [Prod.mk.injEq] at hx
    simp only [if_true] at hz
    refine ⟨zs.take len, by simp; omega, ⟨fun i hi => ?_, hM, getD_bd hM ?_⟩, hl, (by intro h; cases h), Or.inr ⟨_, _, hx.1, by simp [ChangeShapes.lits]; omega⟩⟩
    · simp at hi
      have hi2 : i < len := by omega
      have h1 := hcell i (by omega)
      obtain ⟨b, off, spot⟩ := x
      have hs : spot = none := by
        have := hcell 0 (by omega)
        simpa [Addr.add] using World.cell?_spot this
      subst hs
      refine ⟨b, off, rfl, ?_⟩
      have hadd : (⟨b, off, none⟩ : Addr).add i = ⟨b, off + i, none⟩ := by unfold Addr.add; split <;> simp_all
      rw [hadd] at h1
      rw [h1]
      simp [List.getD, hi2]
    · intro z hz1
      exact hwf z (hwz z (List.mem_of_mem_take hz1))
end Go.Proofs.YtmddnmpldmdllaaDoor
