import Derived.Test.YtboangeopbblnaaPv
import Derived.Test.YtboangeopbblnaaProg
import Derived.Test.YtboangeopbblnaaPb
import Derived.WalkKit
import Derived.WalkSpells
import Derived.Laws.BytesArg
import Derived.BigQuiet
import Derived.Deep.QuietTactic
namespace Go.Proofs.Ytboangeopbblnaa
open Go.RowKit
set_option linter.unusedVariables false
section
variable {w w' : World} {bs b g S : Nat} {L K : List Int} {H : List Bool} {t dl dd hd : Nat} {win lim nx : Int} {last : Bool}
set_option maxRecDepth 100000 in
set_option maxHeartbeats 1000000 in
theorem pmay11 (win widest most : Int) (w : World) : Calls Try.prog 35 #[.int .i64 win, .int .i64 widest, .int .i64 most] w fun e w' => e = .returned (.bool (decide (1 ≤ win ∧ win ≤ widest ∧ 0 ≤ most ∧ most ≤ 268435456))) ∧ w' = w := by
  by_cases h1 : 1 ≤ win
  · by_cases h2 : win ≤ widest
    · by_cases h3 : 0 ≤ most
      · by_cases h4 : most ≤ 268435456
        · have e : decide (1 ≤ win ∧ win ≤ widest ∧ 0 ≤ most ∧ most ≤ 268435456) = true := decide_eq_true ⟨h1, h2, h3, h4⟩
          rw [e]
          clear e
          go_enter Try.func35, Try.ntmps35
          go_wp2_with fail
          go_ret
          exact ⟨rfl, rfl⟩
        · have e : decide (1 ≤ win ∧ win ≤ widest ∧ 0 ≤ most ∧ most ≤ 268435456) = false := decide_eq_false (fun q => h4 q.2.2.2)
          rw [e]
          clear e
          go_enter Try.func35, Try.ntmps35
          go_wp2_with fail
          go_ret
          exact ⟨rfl, rfl⟩
      · have e : decide (1 ≤ win ∧ win ≤ widest ∧ 0 ≤ most ∧ most ≤ 268435456) = false := decide_eq_false (fun q => h3 q.2.2.1)
        rw [e]
        clear e
        go_enter Try.func35, Try.ntmps35
        go_wp2_with fail
        go_ret
        exact ⟨rfl, rfl⟩
    · have e : decide (1 ≤ win ∧ win ≤ widest ∧ 0 ≤ most ∧ most ≤ 268435456) = false := decide_eq_false (fun q => h2 q.2.1)
      rw [e]
      clear e
      go_enter Try.func35, Try.ntmps35
      go_wp2_with fail
      go_ret
      exact ⟨rfl, rfl⟩
  · have e : decide (1 ≤ win ∧ win ≤ widest ∧ 0 ≤ most ∧ most ≤ 268435456) = false := decide_eq_false (fun q => h1 q.1)
    rw [e]
    clear e
    go_enter Try.func35, Try.ntmps35
    go_wp2_with fail
    go_ret
    exact ⟨rfl, rfl⟩
set_option maxRecDepth 100000 in
set_option maxHeartbeats 1000000 in
theorem pmade11 (w : World) (h : w.heap[bs]? = some (.cells #[.pointer (some ⟨b, 0, none⟩)] 72 (0, 0))) : Calls Try.prog 39 #[.pointer (some ⟨bs, 0, none⟩)] w fun e w' => e = .returned (.bool true) ∧ w' = w := by
  have c0 : w.cell? ⟨bs, 0, none⟩ = some (.pointer (some ⟨b, 0, none⟩)) := (cell_of_row w _ 0 _ _ _ h).trans rfl
  clear h
  go_enter Try.func39, Try.ntmps39
  go_wp2_with fail
  go_ret
  exact ⟨rfl, rfl⟩
end
set_option maxRecDepth 100000 in
set_option maxHeartbeats 4000000 in
theorem pnew11 (S : Nat) (h1 : 1 ≤ S) (h2 : S ≤ 32768) (lim : Int) (h3 : 0 ≤ lim ∧ lim ≤ 268435456) (w : World) :
    Calls Try.prog 20 #[.int .i64 (S : Int), .int .i64 lim] w fun e w' => ∃ bs b g dl dd hd, e = .returned (.tuple #[.pointer (some ⟨bs, 0, none⟩), .int .i64 0]) ∧ w'.heap[bs]? = some (.cells #[.pointer (some ⟨b, 0, none⟩)] 72 (0, 0)) ∧ Sw w' b g S [] (List.replicate S 0) [] 0 dl dd hd (S : Int) lim 0 false ∧ De w' dl 288 [] ∧ De w' dd 32 [] ∧ Hd11 w' hd ∧ (w.heap.size ≤ g ∧ g < dl ∧ dl < dd ∧ dd < hd ∧ hd < b ∧ b < bs) ∧ Below w.heap.size w w' := by
  have CM := pmay11 (S : Int) 32768 lim w
  rw [decide_eq_true (show 1 ≤ (S : Int) ∧ (S : Int) ≤ 32768 ∧ 0 ≤ lim ∧ lim ≤ 268435456 by omega)] at CM
  go_enter Try.func20, Try.ntmps20
  go_wp2_with fail
  refine CM.mono ?_
  rintro e w1 ⟨rfl, hw1⟩
  subst w1
  clear CM
  go_wp2_with fail
  refine (pnewS11 S h1 h2 w).mono ?_
  rintro e w2 ⟨b, g, dl, dd, hd, K, rfl, hS, D1, D2, hH, hz, b2⟩
  have CS := pstart11 (S : Int) lim hS
  have HD : Hid (De w2 dl 288 [] ∧ De w2 dd 32 [] ∧ Hd11 w2 hd) := ⟨D1, D2, hH⟩
  have HZ : Hid (w.heap.size ≤ g ∧ g < dl ∧ dl < dd ∧ dd < hd ∧ hd < b) := hz
  have HB2 : Hid (Below w.heap.size w w2) := b2
  have HLT : Hid (b < w2.heap.size) := hS.b_lt
  clear hS D1 D2 hH hz b2
  go_wp2_with fail
  refine CS.mono ?_
  rintro e w3 ⟨rfl, h4, k4⟩
  have hz := HZ.out
  have hlt := HLT.out
  have E1 := HD.out.1.kp11 k4 (by omega)
  have E2 := HD.out.2.1.kp11 k4 (by omega)
  have E3 := HD.out.2.2.keep (k4.block hd HD.out.2.2.lt (by omega))
  have B3 : Below w.heap.size w w3 := HB2.out.trans (k4.below (fun i e => by omega) HB2.out.size)
  have b5 := below_box8' w3 (.cells #[.pointer (some ⟨b, 0, none⟩)] 72)
  have hs3 := k4.size
  have HFIN : Hid ((w3.alloc (.cells #[.pointer (some ⟨b, 0, none⟩)] 72)).heap[w3.heap.size]? = some (.cells #[.pointer (some ⟨b, 0, none⟩)] 72 (0, 0)) ∧ Sw (w3.alloc (.cells #[.pointer (some ⟨b, 0, none⟩)] 72)) b g S [] (List.replicate S 0) [] 0 dl dd hd (S : Int) lim 0 false ∧ De (w3.alloc (.cells #[.pointer (some ⟨b, 0, none⟩)] 72)) dl 288 [] ∧ De (w3.alloc (.cells #[.pointer (some ⟨b, 0, none⟩)] 72)) dd 32 [] ∧ Hd11 (w3.alloc (.cells #[.pointer (some ⟨b, 0, none⟩)] 72)) hd ∧ (w.heap.size ≤ g ∧ g < dl ∧ dl < dd ∧ dd < hd ∧ hd < b ∧ b < w3.heap.size) ∧ Below w.heap.size w (w3.alloc (.cells #[.pointer (some ⟨b, 0, none⟩)] 72))) :=
    ⟨heap_alloc_new w3 _, h4.old b5, E1.keep (b5.block dl (by omega)), E2.keep (b5.block dd (by omega)), E3.keep (b5.block hd E3.lt), by omega, B3.trans (b5.mono B3.size)⟩
  clear CS h4 k4 E1 E2 E3 B3 b5
  go_wp2_with fail
  go_ret2
  exact ⟨w3.heap.size, b, g, dl, dd, hd, rfl, HFIN.out⟩
end Go.Proofs.Ytboangeopbblnaa

namespace Go.Proofs.Ytboangeopbblnaa
open Go.RowKit
set_option linter.unusedVariables false
set_option maxRecDepth 100000 in
set_option maxHeartbeats 1000000 in
theorem pdroom11 (b o : Nat) (w : World) (c : w.cell? ⟨b, o, none⟩ = some (.int .i64 19)) : Calls Try.prog 51 #[.pointer (some ⟨b, o, none⟩)] w fun e w' => e = .returned (.int .i64 408) ∧ w' = w := by
  go_enter Try.func51, Try.ntmps51
  go_wp2_with fail
  go_ret
  exact ⟨rfl, rfl⟩
set_option maxRecDepth 100000 in
set_option maxHeartbeats 1000000 in
theorem phroom11 (b : Nat) (w : World) (h : Hd11 w b) : Calls Try.prog 53 #[.pointer (some ⟨b, 0, none⟩)] w fun e w' => e = .returned (.int .i64 747) ∧ w' = w := by
  obtain ⟨cs, h1, h2, h3⟩ := h
  have c0 : w.cell? ⟨b, 0, none⟩ = some (.bool true) := (cell_of_row w _ 0 _ _ _ h1).trans h2
  have CD := pdroom11 b 347 w ((cell_of_row w _ 347 _ _ _ h1).trans h3)
  clear h1 h2 h3
  go_enter Try.func53, Try.ntmps53
  go_wp2_with fail
  refine CD.mono ?_
  rintro e w1 ⟨rfl, hw1⟩
  subst w1
  go_wp2_with fail
  go_ret
  exact ⟨rfl, rfl⟩
section
variable {w : World} {bs b g S : Nat} {L K : List Int} {H : List Bool} {t dl dd hd : Nat} {win lim nx : Int} {last : Bool} {z1 z2 : List Int}
set_option maxRecDepth 100000 in
set_option maxHeartbeats 4000000 in
theorem psroom11 (h : Sw w b g S L K H t dl dd hd win lim nx last) (D1 : De w dl 288 z1) (D2 : De w dd 32 z2) (hH : Hd11 w hd) : Calls Try.prog 40 #[.pointer (some ⟨b, 0, none⟩)] w fun e w' => e = .returned (.int .i64 (2560 + 512 + (S : Int) + 747)) ∧ Below w.heap.size w w' := by
  have hs := h.s2
  have c5 := h.cell 5 _ rfl
  have c6 := h.cell 6 _ rfl
  have c7 := h.cell 7 _ rfl
  have kn : ∀ n, Kp (fun _ => False) w (w.drewN n) := fun n => (Kp.refl _ w).drewN n
  have C1 : Hid (∀ n, Calls Try.prog 51 #[.pointer (some ⟨dl, 0, none⟩)] (w.drewN n) fun e w' => e = .returned (.int .i64 2560) ∧ w' = w.drewN n) := fun n => room_any dl 288 z1 (w.drewN n) (D1.kp11 (kn n) (fun e => e))
  have C2 : Hid (∀ n, Calls Try.prog 51 #[.pointer (some ⟨dd, 0, none⟩)] (w.drewN n) fun e w' => e = .returned (.int .i64 512) ∧ w' = w.drewN n) := fun n => room_any dd 32 z2 (w.drewN n) (D2.kp11 (kn n) (fun e => e))
  have C3 : Hid (∀ n, Calls Try.prog 52 #[.pointer (some ⟨b, 0, none⟩)] (w.drewN n) fun e w' => e = .returned (.int .i64 (S : Int)) ∧ w' = w.drewN n) := fun n => proom_o (h.kp (kn n) (fun e => e) (fun e => e)).ring
  have C4 : Hid (∀ n, Calls Try.prog 53 #[.pointer (some ⟨hd, 0, none⟩)] (w.drewN n) fun e w' => e = .returned (.int .i64 747) ∧ w' = w.drewN n) := fun n => phroom11 hd (w.drewN n) (hH.keep rfl)
  have i1 : IntKind.i64.wrap (3072 + (S : Int)) = 3072 + (S : Int) := IntWalk.i64_in _ (by omega)
  have i2 : IntKind.i64.wrap (3072 + (S : Int) + 747) = 3072 + (S : Int) + 747 := IntWalk.i64_in _ (by omega)
  have HDR : Hid (∀ n, Below w.heap.size w (w.drewN n)) := fun n => ⟨rfl, rfl, rfl, Nat.le_refl _, fun _ _ => rfl⟩
  have HV : Hid (3072 + (S : Int) + 747 = 2560 + 512 + (S : Int) + 747) := by show _ = _; omega
  clear h D1 D2 hH kn
  go_enter Try.func40, Try.ntmps40
  go_wp2_with fail
  go_quiet (first
    | (go_at_call_of 51 (Value.pointer (some ⟨dl, 0, none⟩)); exact Calls.quiet_of_same (C1.out _))
    | (go_at_call_of 51 (Value.pointer (some ⟨dd, 0, none⟩)); exact Calls.quiet_of_same (C2.out _))
    | (go_at_call 52; exact Calls.quiet_of_same (C3.out _))
    | (go_at_call 53; exact Calls.quiet_of_same (C4.out _)))
  go_wp2_with fail
  go_ret
  exact ⟨by rw [← HV.out]; rfl, HDR.out _⟩
end
end Go.Proofs.Ytboangeopbblnaa

namespace Go.Proofs.Ytboangeopbblnaa
open Go.RowKit
set_option linter.unusedVariables false
section
variable {w : World} {bs b g S : Nat} {L K : List Int} {H : List Bool} {t dl dd hd : Nat} {win lim nx : Int} {last : Bool} {z1 z2 : List Int}
set_option maxRecDepth 100000 in
set_option maxHeartbeats 1000000 in
theorem proom11 (hb : w.heap[bs]? = some (.cells #[.pointer (some ⟨b, 0, none⟩)] 72 (0, 0))) (h : Sw w b g S L K H t dl dd hd win lim nx last) (D1 : De w dl 288 z1) (D2 : De w dd 32 z2) (hH : Hd11 w hd) : Calls Try.prog 22 #[.pointer (some ⟨bs, 0, none⟩)] w fun e w' => e = .returned (.int .i64 (3835 + (S : Int))) ∧ Below w.heap.size w w' := by
  have c0 : w.cell? ⟨bs, 0, none⟩ = some (.pointer (some ⟨b, 0, none⟩)) := (cell_of_row w _ 0 _ _ _ hb).trans rfl
  have CM := pmade11 w hb
  have CR := psroom11 h D1 D2 hH
  have hs := h.s2
  obtain ⟨R, hR⟩ : ∃ R : Int, R = 2560 + 512 + (S : Int) + 747 := ⟨_, rfl⟩
  rw [← hR] at CR
  have iw : IntKind.i64.wrap (R + 16) = R + 16 := IntWalk.i64_in _ (by omega)
  have HV : Hid (R + 16 = 3835 + (S : Int)) := by show _ = _; omega
  clear hb h D1 D2 hH hR hs
  go_enter Try.func22, Try.ntmps22
  go_wp2_with fail
  refine CM.mono ?_
  rintro e w1 ⟨rfl, hw1⟩
  subst w1
  go_wp2_with fail
  refine CR.mono ?_
  rintro e w1 ⟨rfl, b1⟩
  go_wp2_with fail
  go_ret
  exact ⟨by rw [← HV.out]; rfl, b1⟩
end
end Go.Proofs.Ytboangeopbblnaa
