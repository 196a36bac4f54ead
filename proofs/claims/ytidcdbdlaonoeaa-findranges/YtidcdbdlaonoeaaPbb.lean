import Derived.Test.YtidcdbdlaonoeaaPba
import Derived.Test.YtidcdbdlaonoeaaPaa
import Derived.WalkKit
import Derived.ProofKit
import Derived.OpenShut
import Derived.SizedLaws
namespace Go.Proofs.Ytidcdbdlaonoeaa
open Go.RowKit
set_option linter.unusedVariables false
set_option linter.unusedSimpArgs false

/-! FindRanges: the walk. -/
set_option maxRecDepth 100000 in
set_option maxHeartbeats 4000000 in
theorem findRanges_walk (w : World) (a : Option Addr) (z : List Int) (ca : Nat) (hs : Seg w a z) (hc : z.length ≤ ca) (hnil : a = none → ca = 0) (hl : z.length ≤ 140737488351232) (pa : Option Addr) (p : List Int) (pc : Nat) (hp : Seg w pa p) (hpc : p.length ≤ pc) (hpn : pa = none → pc = 0) (hpl : p.length ≤ 140737488351232) :
    Calls Try.prog 3 #[.slice a z.length ca, .slice pa p.length pc] w fun e w' => e = .returned (.bool true) ∧ Below w.heap.size w w' := by
  generalize hn0 : z.length = n at *
  have hn : Hid (z.length = n) := hn0
  generalize hm0 : p.length = m at *
  have hm : Hid (p.length = m) := hm0
  clear hn0 hm0
  have HAW : Hid (∀ W, Below w.heap.size w W → Calls Try.prog 9 #[] W fun e w' => e = .returned (.bool true) ∧ Below w.heap.size w w') := fun W hb => awkW14 hb
  by_cases h24 : 16777216 < n
  · have HN := pidxn14 a n ca w h24 (by omega)
    have AW := HAW.out w (Below.refl _ _)
    clear hs hp
    go_enter Try.func3, Try.ntmps3
    go_wp2_with (first
      | (go_at_call 8; refine HN.mono ?_; rintro e1 w1 ⟨rfl, hw1⟩; subst hw1; clear HN)
      | (go_at_call 9; refine AW.mono ?_; rintro e2 w2 ⟨rfl, B2⟩))
    go_ret
    exact ⟨rfl, B2⟩
  · have HN := pidx14 a z n ca w hs hnil hn (by omega)
    have HLD : Hid (∀ W, Below w.heap.size w W → Calls Try.prog 10 #[.slice pa m pc] W fun e w' => ∃ g c, e = .returned (.slice (some ⟨g, 0, none⟩) (m + 3) c) ∧ Lt14 w' g c m p ∧ Below w.heap.size w w' ∧ Below W.heap.size W w') := fun W hb => lendW14 hp hm hpn hpl hb
    have HKP : Hid (∀ W g c, Below w.heap.size w W → Lt14 W g c m p → Calls Try.prog 13 #[.slice (some ⟨g, 0, none⟩) (m + 3) c, .slice pa m pc] W fun e w' => e = .returned (.bool true) ∧ Below w.heap.size w w' ∧ Below W.heap.size W w') := fun W g c hb hL => keptW14 hp hm hpn hpl hb hL
    have HRR : Hid (∀ W, Below w.heap.size w W → Calls Try.prog 12 #[.slice a n ca, .slice pa m pc] W fun e w' => e = .returned (.tuple #[.int .i64 ((lo14 z p : Nat) : Int), .int .i64 ((hi14 z p : Nat) : Int)]) ∧ Below w.heap.size w w' ∧ Below W.heap.size W w') := fun W hb => (rrange14 a z n ca pa p m pc W (hs.old hb) (hp.old hb) hn hm (by omega) (by omega)).mono fun e w' ⟨he, d, hd⟩ => ⟨he, by rw [hd]; exact hb.trans ((below_drewN14 W d).mono hb.size), by rw [hd]; exact below_drewN14 W d⟩
    have HCV : Hid (∀ W a2 c2, Seg W a2 z → (convert 22 9 (.slice a2 n c2)).run Try.prog W = .ok (.string (strOfNums z)) W) := fun W a2 c2 h => by
      have h8 := run_conv_segS (P := Try.prog) c2 h 22 5 9 Try.underlying22 Try.underlying5 Try.underlying9
      rw [hn.out] at h8
      exact h8
    have HSD : Hid (∀ W, Below w.heap.size w W → Seg W a z) := fun W b => hs.old b
    clear hs hp
    go_enter Try.func3, Try.ntmps3
    go_wp2_with (first
      | (go_at_call 8; refine HN.mono ?_; rintro e1 w1 ⟨b, A, rfl, hI, B1⟩; clear HN)
      | (go_at_call 10; refine (HLD.out w1 B1).mono ?_; rintro e2 w2 ⟨g, c, rfl, hL, B2, B12⟩; have hcc := hL.cap; have hcc2 : (m : Int) ≤ (c : Int) := (by omega); have hI2 := hI.old B12; clear hI B12)
      | (go_at_call 11; refine (prange14 b n z A _ p m c w2 hI2 hL.txt hm (by omega)).mono ?_; rintro e3 w3 ⟨rfl, B23⟩; have hI3 := hI2.old B23; have hL3 := hL.old B23; have B3 := B2.trans (B23.mono B2.size); clear hI2 hL B23)
      | (go_at_call 12; refine (HRR.out w3 B3).mono ?_; rintro e4 w4 ⟨rfl, B4, B34⟩; have hI4 := hI3.old B34; have hL4 := hL3.old B34; clear hI3 hL3 B34 HRR))
    have BD : Below w.heap.size w w4.drew := B4.drew
    have HK4 : Hid (Calls Try.prog 13 #[.slice (some ⟨g, 0, none⟩) (m + 3) c, .slice pa m pc] w4.drew fun e w' => e = .returned (.bool true) ∧ Below w.heap.size w w' ∧ Below w4.heap.size w4 w') := (HKP.out w4.drew g c BD (hL4.old (Below.refl _ _).drew)).mono fun e w' ⟨h1, h2, h3⟩ => ⟨h1, h2, ((Below.refl w4.heap.size w4).drew).trans h3⟩
    have HD5 : Hid (∀ W, Below w4.heap.size w4 W → Below w.heap.size w W → Calls Try.prog 14 #[.pointer (some ⟨b, 0, none⟩)] W fun e w' => ∃ ra rc, e = .returned (.slice ra n rc) ∧ Seg w' ra z ∧ Below w.heap.size w w') := fun W h1 h2 => (hI4.old h1).dat.mono fun e w' ⟨ra, rc, he, hsg, hB⟩ => ⟨ra, rc, he, hsg, h2.trans (hB.mono h2.size)⟩
    clear hI4 hL4 HKP HLD
    generalize strOfNums z = st at *
    generalize lo14 z p = lo at *
    generalize hi14 z p = hi at *
    refine wp_region_held_drew (S := fun W => (convert 22 9 (.slice a n ca)).run Try.prog W = .ok (.string st) W) (by kernel_rfl) (HCV.out _ a ca (HSD.out _ BD)) (fun hHeld => ?_)
    refine wpAnyH_take (i := 0) (v := .int .i64 0) rfl (by kernel_rfl) (by kernel_rfl) (by kernel_rfl) (fun _ _ _ h => h) (Or.inl ⟨by rfl, fun w hSw => by go_simp⟩) hHeld ?_
    simp only [List.getElem_toArray, List.getElem_cons_zero, List.getElem_cons_succ, Act.put, List.setIfInBounds_toArray, List.set_cons_zero, List.set_cons_succ]
    refine wpAnyH_take (i := 1) (v := .bool true) rfl (by kernel_rfl) (by kernel_rfl) (by kernel_rfl) (fun _ _ _ h => h) (Or.inl ⟨by rfl, fun w hSw => by go_simp⟩) hHeld ?_
    simp only [List.getElem_toArray, List.getElem_cons_zero, List.getElem_cons_succ, Act.put, List.setIfInBounds_toArray, List.set_cons_zero, List.set_cons_succ]
    refine wpAnyH_take (i := 2) (v := .bool true) rfl (by kernel_rfl) (by kernel_rfl) (by kernel_rfl) (fun _ _ _ h => h) (Or.inl ⟨by rfl, fun w hSw => by go_simp⟩) hHeld ?_
    simp only [List.getElem_toArray, List.getElem_cons_zero, List.getElem_cons_succ, Act.put, List.setIfInBounds_toArray, List.set_cons_zero, List.set_cons_succ]
    refine wpAnyH_take (i := 3) (v := .int .i64 (lo : Int)) rfl (by kernel_rfl) (by kernel_rfl) (by kernel_rfl) (fun _ _ _ h => h) (Or.inl ⟨by rfl, fun w hSw => by go_simp⟩) hHeld ?_
    simp only [List.getElem_toArray, List.getElem_cons_zero, List.getElem_cons_succ, Act.put, List.setIfInBounds_toArray, List.set_cons_zero, List.set_cons_succ]
    refine wpAnyH_take (i := 4) (v := .int .i64 (lo : Int)) rfl (by kernel_rfl) (by kernel_rfl) (by kernel_rfl) (fun _ _ _ h => h) (Or.inl ⟨by rfl, fun w hSw => by go_simp⟩) hHeld ?_
    simp only [List.getElem_toArray, List.getElem_cons_zero, List.getElem_cons_succ, Act.put, List.setIfInBounds_toArray, List.set_cons_zero, List.set_cons_succ]
    refine wpAnyH_take (i := 5) (v := .bool true) rfl (by kernel_rfl) (by kernel_rfl) (by kernel_rfl) (fun _ _ _ h => h) (Or.inl ⟨by rfl, fun w hSw => by go_simp⟩) hHeld ?_
    simp only [List.getElem_toArray, List.getElem_cons_zero, List.getElem_cons_succ, Act.put, List.setIfInBounds_toArray, List.set_cons_zero, List.set_cons_succ]
    refine wpAnyH_take (i := 6) (v := .bool true) rfl (by kernel_rfl) (by kernel_rfl) (by kernel_rfl) (fun _ _ _ h => h) (Or.inl ⟨by rfl, fun w hSw => by go_simp⟩) hHeld ?_
    simp only [List.getElem_toArray, List.getElem_cons_zero, List.getElem_cons_succ, Act.put, List.setIfInBounds_toArray, List.set_cons_zero, List.set_cons_succ]
    refine wpAnyH_take (i := 7) (v := .bool true) rfl (by kernel_rfl) (by kernel_rfl) (by kernel_rfl) (fun _ _ _ h => h) (Or.inl ⟨by rfl, fun w hSw => by go_simp⟩) hHeld ?_
    simp only [List.getElem_toArray, List.getElem_cons_zero, List.getElem_cons_succ, Act.put, List.setIfInBounds_toArray, List.set_cons_zero, List.set_cons_succ]
    refine wpAnyH_take (i := 8) (v := .int .i64 (hi : Int)) rfl (by kernel_rfl) (by kernel_rfl) (by kernel_rfl) (fun _ _ _ h => h) (Or.inl ⟨by rfl, fun w hSw => by go_simp⟩) hHeld ?_
    simp only [List.getElem_toArray, List.getElem_cons_zero, List.getElem_cons_succ, Act.put, List.setIfInBounds_toArray, List.set_cons_zero, List.set_cons_succ]
    refine wpAnyH_take (i := 9) (v := .int .i64 (hi : Int)) rfl (by kernel_rfl) (by kernel_rfl) (by kernel_rfl) (fun _ _ _ h => h) (Or.inl ⟨by rfl, fun w hSw => by go_simp⟩) hHeld ?_
    simp only [List.getElem_toArray, List.getElem_cons_zero, List.getElem_cons_succ, Act.put, List.setIfInBounds_toArray, List.set_cons_zero, List.set_cons_succ]
    refine wpAnyH_take (i := 10) (v := .bool true) rfl (by kernel_rfl) (by kernel_rfl) (by kernel_rfl) (fun _ _ _ h => h) (Or.inl ⟨by rfl, fun w hSw => by go_simp⟩) hHeld ?_
    simp only [List.getElem_toArray, List.getElem_cons_zero, List.getElem_cons_succ, Act.put, List.setIfInBounds_toArray, List.set_cons_zero, List.set_cons_succ]
    refine wpAnyH_take (i := 11) (v := .bool true) rfl (by kernel_rfl) (by kernel_rfl) (by kernel_rfl) (fun _ _ _ h => h) (Or.inl ⟨by rfl, fun w hSw => by go_simp⟩) hHeld ?_
    simp only [List.getElem_toArray, List.getElem_cons_zero, List.getElem_cons_succ, Act.put, List.setIfInBounds_toArray, List.set_cons_zero, List.set_cons_succ]
    refine wpAnyH_take (i := 12) (v := .bool true) rfl (by kernel_rfl) (by kernel_rfl) (by kernel_rfl) (fun _ _ _ h => h) (Or.inl ⟨by rfl, fun w hSw => by go_simp⟩) hHeld ?_
    simp only [List.getElem_toArray, List.getElem_cons_zero, List.getElem_cons_succ, Act.put, List.setIfInBounds_toArray, List.set_cons_zero, List.set_cons_succ]
    refine wpAnyH_take (i := 13) (v := .slice (some ⟨g, 0, none⟩) (m + 3) c) rfl (by kernel_rfl) (by kernel_rfl) (by kernel_rfl) (fun _ _ _ h => h) (Or.inl ⟨by rfl, fun w hSw => by go_simp⟩) hHeld ?_
    simp only [List.getElem_toArray, List.getElem_cons_zero, List.getElem_cons_succ, Act.put, List.setIfInBounds_toArray, List.set_cons_zero, List.set_cons_succ]
    refine wpAnyH_take (i := 14) (v := .slice pa m pc) rfl (by kernel_rfl) (by kernel_rfl) (by kernel_rfl) (fun _ _ _ h => h) (Or.inl ⟨by rfl, fun w hSw => by go_simp⟩) hHeld ?_
    simp only [List.getElem_toArray, List.getElem_cons_zero, List.getElem_cons_succ, Act.put, List.setIfInBounds_toArray, List.set_cons_zero, List.set_cons_succ]
    refine wpAnyH_ready (rs := [15]) (by kernel_rfl) (by simp) ?_
    refine AllReadyH.cons rfl (fun K hK => ?_) AllReadyH.nil
    (try simp only [List.getElem_toArray, List.getElem_cons_zero, List.getElem_cons_succ, Act.put, List.setIfInBounds_toArray, List.set_cons_zero, List.set_cons_succ])
    go_simp
    go_wp2_with (first | (go_at_call 13; refine HK4.out.mono ?_; rintro e5 w5 ⟨rfl, B5, B45⟩))
    refine hK.out _ _ ?_ (fun hHeld => ?_)
    · exact HCV.out _ a ca (HSD.out _ B5)
    clear hK K
    try simp only [List.getElem_toArray, List.getElem_cons_zero, List.getElem_cons_succ, Act.put, List.setIfInBounds_toArray, List.set_cons_zero, List.set_cons_succ]
    refine wpAnyH_take (i := 16) (v := .bool true) rfl (by kernel_rfl) (by kernel_rfl) (by kernel_rfl) (fun _ _ _ h => h) (Or.inl ⟨by rfl, fun w hSw => by go_simp⟩) hHeld ?_
    simp only [List.getElem_toArray, List.getElem_cons_zero, List.getElem_cons_succ, Act.put, List.setIfInBounds_toArray, List.set_cons_zero, List.set_cons_succ]
    refine wpAnyH_take (i := 17) (v := .bool true) rfl (by kernel_rfl) (by kernel_rfl) (by kernel_rfl) (fun _ _ _ h => h) (Or.inl ⟨by rfl, fun w hSw => by go_simp⟩) hHeld ?_
    simp only [List.getElem_toArray, List.getElem_cons_zero, List.getElem_cons_succ, Act.put, List.setIfInBounds_toArray, List.set_cons_zero, List.set_cons_succ]
    refine wpAnyH_take (i := 18) (v := .pointer (some ⟨b, 0, none⟩)) rfl (by kernel_rfl) (by kernel_rfl) (by kernel_rfl) (fun _ _ _ h => h) (Or.inl ⟨by rfl, fun w hSw => by go_simp⟩) hHeld ?_
    simp only [List.getElem_toArray, List.getElem_cons_zero, List.getElem_cons_succ, Act.put, List.setIfInBounds_toArray, List.set_cons_zero, List.set_cons_succ]
    refine wpAnyH_take (i := 21) (v := .slice a n ca) rfl (by kernel_rfl) (by kernel_rfl) (by kernel_rfl) (fun _ _ _ h => h) (Or.inl ⟨by rfl, fun w hSw => by go_simp⟩) hHeld ?_
    simp only [List.getElem_toArray, List.getElem_cons_zero, List.getElem_cons_succ, Act.put, List.setIfInBounds_toArray, List.set_cons_zero, List.set_cons_succ]
    refine wpAnyH_take (i := 22) (v := .string st) rfl (by kernel_rfl) (by kernel_rfl) (by kernel_rfl) (fun _ _ _ h => h) (Or.inl ⟨by rfl, fun w hSw => by go_simp⟩) hHeld ?_
    simp only [List.getElem_toArray, List.getElem_cons_zero, List.getElem_cons_succ, Act.put, List.setIfInBounds_toArray, List.set_cons_zero, List.set_cons_succ]
    refine wpAnyH_ready (rs := [19]) (by kernel_rfl) (by simp) ?_
    refine AllReadyH.cons rfl (fun K hK => ?_) AllReadyH.nil
    (try simp only [List.getElem_toArray, List.getElem_cons_zero, List.getElem_cons_succ, Act.put, List.setIfInBounds_toArray, List.set_cons_zero, List.set_cons_succ])
    go_simp
    go_wp2_with (first | (go_at_call 14; refine (HD5.out w5 B45 B5).mono ?_; rintro e6 w6 ⟨ra, rc, rfl, s6, B6⟩; have y3 := HCV.out w6 ra rc s6; clear s6))
    refine hK.out _ _ ?_ (fun hHeld => ?_)
    · exact HCV.out _ a ca (HSD.out _ B6)
    clear hK K
    try simp only [List.getElem_toArray, List.getElem_cons_zero, List.getElem_cons_succ, Act.put, List.setIfInBounds_toArray, List.set_cons_zero, List.set_cons_succ]
    refine wpAnyH_ready (rs := [20]) (by kernel_rfl) (by simp) ?_
    refine AllReadyH.cons rfl (fun K hK => ?_) AllReadyH.nil
    (try simp only [List.getElem_toArray, List.getElem_cons_zero, List.getElem_cons_succ, Act.put, List.setIfInBounds_toArray, List.set_cons_zero, List.set_cons_succ])
    go_simp
    try go_wp2_with fail
    refine hK.out _ _ ?_ (fun hHeld => ?_)
    · exact HCV.out _ a ca (HSD.out _ B6)
    clear hK K
    try simp only [List.getElem_toArray, List.getElem_cons_zero, List.getElem_cons_succ, Act.put, List.setIfInBounds_toArray, List.set_cons_zero, List.set_cons_succ]
    refine wpAnyH_take (i := 23) (v := .bool true) rfl (by kernel_rfl) (by kernel_rfl) (by kernel_rfl) (fun _ _ _ h => h) (Or.inl ⟨by rfl, fun w hSw => by go_simp⟩) hHeld ?_
    simp only [List.getElem_toArray, List.getElem_cons_zero, List.getElem_cons_succ, Act.put, List.setIfInBounds_toArray, List.set_cons_zero, List.set_cons_succ]
    refine wpAnyH_take (i := 24) (v := .bool true) rfl (by kernel_rfl) (by kernel_rfl) (by kernel_rfl) (fun _ _ _ h => h) (Or.inl ⟨by rfl, fun w hSw => by go_simp⟩) hHeld ?_
    simp only [List.getElem_toArray, List.getElem_cons_zero, List.getElem_cons_succ, Act.put, List.setIfInBounds_toArray, List.set_cons_zero, List.set_cons_succ]
    refine wpAnyH_take (i := 25) (v := .bool true) rfl (by kernel_rfl) (by kernel_rfl) (by kernel_rfl) (fun _ _ _ h => h) (Or.inl ⟨by rfl, fun w hSw => by go_simp⟩) hHeld ?_
    simp only [List.getElem_toArray, List.getElem_cons_zero, List.getElem_cons_succ, Act.put, List.setIfInBounds_toArray, List.set_cons_zero, List.set_cons_succ]
    refine wpAnyH_ready (rs := [26]) (by kernel_rfl) (by simp) ?_
    refine AllReadyH.cons rfl (fun K hK => ?_) AllReadyH.nil
    (try simp only [List.getElem_toArray, List.getElem_cons_zero, List.getElem_cons_succ, Act.put, List.setIfInBounds_toArray, List.set_cons_zero, List.set_cons_succ])
    go_simp
    go_wp2_with (first | (go_at_call 9; refine (HAW.out w6 B6).mono ?_; rintro e7 w7 ⟨rfl, B7⟩))
    refine hK.out _ _ ?_ (fun hHeld => ?_)
    · exact HCV.out _ a ca (HSD.out _ B7)
    clear hK K
    try simp only [List.getElem_toArray, List.getElem_cons_zero, List.getElem_cons_succ, Act.put, List.setIfInBounds_toArray, List.set_cons_zero, List.set_cons_succ]
    refine wpAnyH_take (i := 27) (v := .bool true) rfl (by kernel_rfl) (by kernel_rfl) (by kernel_rfl) (fun _ _ _ h => h) (Or.inl ⟨by rfl, fun w hSw => by go_simp⟩) hHeld ?_
    simp only [List.getElem_toArray, List.getElem_cons_zero, List.getElem_cons_succ, Act.put, List.setIfInBounds_toArray, List.set_cons_zero, List.set_cons_succ]
    refine wpAnyH_take (i := 28) (v := .bool true) rfl (by kernel_rfl) (by kernel_rfl) (by kernel_rfl) (fun _ _ _ h => h) (Or.inl ⟨by rfl, fun w hSw => by go_simp⟩) hHeld ?_
    simp only [List.getElem_toArray, List.getElem_cons_zero, List.getElem_cons_succ, Act.put, List.setIfInBounds_toArray, List.set_cons_zero, List.set_cons_succ]
    refine wpAnyH_done (by kernel_rfl) ?_ _
    all_goals
      go_wp2_with fail
      go_ret
      exact ⟨by first | rfl | simp, B7⟩
end Go.Proofs.Ytidcdbdlaonoeaa

namespace Go.Proofs.Ytidcdbdlaonoeaa
open Go.ChangeShapes Go.WideShapes Go.ChangeAt Go.RowKit
set_option linter.unusedVariables false

/-- A slice of whole numbers that came in: what lies there, and how it was read. -/
theorem open_seg {H : Type} {enc : TypeId × Value → H} {P : Program} {W : World} {T e : TypeId} {k : IntKind} {M : Int} {a : Option Addr} {len cap : Nat} {d : DataW H} {p : List MemPlace}
    (hT : P.underlying T = some (.slice e)) (he : P.underlying e = some (.int k)) (hc : P.cellsOf e = 1) (hM : 0 ≤ M) (hwf : ∀ n, (Lit.int k n).wf = true → 0 ≤ n ∧ n ≤ M)
    (h : DataW.Trod enc P W 0 (fun _ => true) true T (.slice a len cap) d p) :
    ∃ zs : List Int, zs.length = len ∧ SegK k M W a zs ∧ len ≤ cap ∧ (a = none → cap = 0) ∧ ((d = .nil ∧ len = 0) ∨ ∃ elems spare, d = .slice elems spare ∧ elems.length = len) := by
  obtain ⟨fuel, hf⟩ := h
  rcases open_ints hT he hc hf with ⟨hcs, hx⟩ | ⟨x, l, c, zs, hcs, _, hl, hm, hz, hx, hcell, hwz⟩
  · simp [Value.cells] at hcs
    obtain ⟨rfl, rfl, rfl⟩ := hcs
    simp only [Prod.mk.injEq] at hx
    exact ⟨[], rfl, SegK.nil hM _ _, Nat.le_refl _, fun _ => rfl, Or.inl ⟨hx.1, rfl⟩⟩
  · simp [Value.cells] at hcs
    obtain ⟨rfl, rfl, rfl⟩ := hcs
    simp only [Prod.mk.injEq] at hx
    simp only [if_true] at hz
    refine ⟨zs.take len, by simp; omega, ⟨fun i hi => ?_, hM, getD_bd hM ?_⟩, hl, (by intro h; cases h), Or.inr ⟨_, _, hx.1, by simp [ChangeShapes.lits]; omega⟩⟩
    · simp at hi
      have hi2 : i < len := by omega
      have h1 := hcell i (by omega)
      obtain ⟨b, off, spot⟩ := x
      have hs : spot = none := by
        have := hcell 0 (by omega)
        simpa [Addr.add] using World.cell?_spot this
      subst hs
      refine ⟨b, off, rfl, ?_⟩
      have hadd : (⟨b, off, none⟩ : Addr).add i = ⟨b, off + i, none⟩ := by unfold Addr.add; split <;> simp_all
      rw [hadd] at h1
      rw [h1]
      simp [List.getD, hi2]
    · intro z hz1
      exact hwf z (hwz z (List.mem_of_mem_take hz1))
end Go.Proofs.Ytidcdbdlaonoeaa
