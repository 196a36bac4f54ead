
import Derived.Test.YthebboppbebffaaRgRef2
namespace Go.Proofs.Ythebboppbebffaa
open Go.RowKit
set_option linter.unusedVariables false

/-- All bytes behind n copied ones, each of them so far back. -/
def cpyA (L : List Int) (d : Nat) : Nat → List Int
  | 0 => L
  | n + 1 => cpyA L d n ++ [(cpyA L d n).getD ((cpyA L d n).length - d) 0]
theorem cpyA_len (L : List Int) (d : Nat) : ∀ n, (cpyA L d n).length = L.length + n
  | 0 => rfl
  | n + 1 => by unfold cpyA; rw [List.length_append, cpyA_len L d n]; rfl
def cpyO (L : List Int) (d n : Nat) : List Int := (cpyA L d n).drop L.length
theorem cpyO_zero (L : List Int) (d : Nat) : cpyO L d 0 = [] := by simp [cpyO, cpyA]
theorem cpyO_succ (L : List Int) (d n : Nat) : cpyO L d (n + 1) = cpyO L d n ++ [(cpyA L d n).getD ((cpyA L d n).length - d) 0] := by
  unfold cpyO
  rw [cpyA, List.drop_append_of_le_length (by rw [cpyA_len]; omega)]
theorem cpyO_len (L : List Int) (d n : Nat) : (cpyO L d n).length = n := by unfold cpyO; rw [List.length_drop, cpyA_len]; omega
def copyOk (S : Nat) (L : List Int) (d n : Int) : Prop := 0 ≤ n ∧ n ≤ 258 ∧ 1 ≤ d ∧ d ≤ (heldN S L : Int)
theorem seg_one6 (w : World) (z : Int) (hz : 0 ≤ z ∧ z ≤ 255) : Seg (w.alloc (.cells #[.int .u8 z] 5)) (some ⟨w.heap.size, 0, none⟩) [z] := by
  refine ⟨fun i hi => ⟨w.heap.size, 0, rfl, ?_⟩, by decide, getD_bd (by decide) (by intro y hy; simp at hy; subst hy; exact hz)⟩
  simp only [List.length_cons, List.length_nil] at hi
  obtain rfl : i = 0 := by omega
  simp
set_option maxRecDepth 100000 in
theorem rcopy6_no (b B S : Nat) (v : Value) (L : List Int) (d n : Int) (w : World) (h : RgR w b B S v L) (hl : L.length ≤ 4611686018427387904) (hS : S ≤ 32768) (hno : ¬ copyOk S L d n) :
    Calls Try.prog 28 #[.pointer (some ⟨b, 0, none⟩), .int .i64 d, .int .i64 n] w fun e w' => e = .returned (.tuple #[.slice none 0 0, .int .i64 (if n < 0 ∨ 258 < n then 1 else 61)]) ∧ Below w.heap.size w w' := by
  have CH := rheld6_any b B S v L w h hl hS
  have HH : Hid ((min L.length S : Nat) = heldN S L) := rfl
  rw [HH.out] at CH
  have hcase : (n < 0) ∨ (¬ n < 0 ∧ 258 < n) ∨ (¬ n < 0 ∧ ¬ 258 < n ∧ d < 1) ∨ (¬ n < 0 ∧ ¬ 258 < n ∧ ¬ d < 1 ∧ (heldN S L : Int) < d) := by unfold copyOk at hno; omega
  have HE : Hid (∀ x : Int, x = (if n < 0 ∨ 258 < n then 1 else 61) → (if n < 0 ∨ 258 < n then (1 : Int) else 61) = x) := fun x h => h.symm
  clear hno
  obtain ⟨E, hE⟩ : ∃ E : Int, E = (if n < 0 ∨ 258 < n then 1 else 61) := ⟨_, rfl⟩
  rw [← hE]
  rcases hcase with h1 | ⟨h1, h2⟩ | ⟨h1, h2, h3⟩ | ⟨h1, h2, h3, h4⟩
  · have HEE : Hid (E = 1) := by show _ = _; rw [hE, if_pos (.inl h1)]
    clear hE HE
    go_enter Try.func28, Try.ntmps28
    go_wp2_with fail
    go_ret2
    exact ⟨by rw [HEE.out]; rfl, Below.refl _ _⟩
  · have HEE : Hid (E = 1) := by show _ = _; rw [hE, if_pos (.inr h2)]
    clear hE HE
    go_enter Try.func28, Try.ntmps28
    go_wp2_with fail
    go_ret2
    exact ⟨by rw [HEE.out]; rfl, Below.refl _ _⟩
  · have HEE : Hid (E = 61) := by show _ = _; rw [hE, if_neg (by omega)]
    clear hE HE
    go_enter Try.func28, Try.ntmps28
    go_wp2_with fail
    go_ret2
    exact ⟨by rw [HEE.out]; rfl, Below.refl _ _⟩
  · have HEE : Hid (E = 61) := by show _ = _; rw [hE, if_neg (by omega)]
    clear hE HE
    generalize heldN S L = hN at *
    go_enter Try.func28, Try.ntmps28
    go_wp2_with fail
    refine CH.mono ?_
    rintro e w1 ⟨rfl, B1⟩
    go_wp2_with fail
    go_ret2
    exact ⟨by rw [HEE.out]; rfl, B1⟩
set_option maxRecDepth 100000 in
set_option maxHeartbeats 4000000 in
theorem rcopy6_ok (b B S : Nat) (v : Value) (L : List Int) (D N : Nat) (w : World) (h : RgR w b B S v L) (hl : L.length ≤ 70368744177664) (hS : S ≤ 32768) (hok : copyOk S L D N) :
    Calls Try.prog 28 #[.pointer (some ⟨b, 0, none⟩), .int .i64 (D : Int), .int .i64 (N : Int)] w fun e w' => ∃ oa oc v', e = .returned (.tuple #[.slice oa N oc, .int .i64 0]) ∧ w'.ownsRow w.heap.size 5 1 (.slice oa N oc) N ((cpyO L D N).map (Value.int .u8)) ∧ RgR w' b B S v' (cpyA L D N) ∧ Kp (fun k => k = b) w w' ∧ (∀ k, (Value.slice oa N oc).ownBlock = some k → v'.ownBlock ≠ some k) ∧ (∀ k, v'.ownBlock = some k → v.ownBlock = some k ∨ w.heap.size ≤ k) := by
  obtain ⟨i0, hi, hz0, hz1, hz2⟩ := info_parts info_u8r
  have CH := rheld6_any b B S v L w h (by omega) hS
  have HH : Hid ((min L.length S : Nat) = heldN S L) := rfl
  rw [HH.out] at CH
  have hD1 : ¬ (D : Int) < 1 := by have := hok; unfold copyOk at this; omega
  have hD1n : 1 ≤ D := by omega
  have hN258 : N ≤ 258 := by have := hok; unfold copyOk at this; omega
  have hNi : ¬ (258 : Int) < (N : Int) := by omega
  have hN0 : ¬ (N : Int) < 0 := by omega
  have hDh : ¬ (heldN S L : Int) < (D : Int) := by have := hok; unfold copyOk at this; omega
  have HDL : Hid (D ≤ L.length) := by have h1 : heldN S L ≤ L.length := by unfold heldN; omega
                                      show _ ≤ _; omega
  have hlt := h.b_lt
  have HR : Hid (RgR w b B S v L) := h
  clear hok h HH
  generalize heldN S L = hN at *
  go_enter Try.func28, Try.ntmps28
  go_wp2_with fail
  refine CH.mono ?_
  rintro e w1 ⟨rfl, B1⟩
  have R1 : RgR w1 b B S v L := (show RgR w b B S v L from HR.out).old B1
  go_wp2_with fail
  rw [decide_eq_false (show ¬ hN < D by omega)]
  clear hN0 hNi hD1 hDh
  go_loopw [8, 9] (fun to ti wr => ∃ (i oc : Nat) (oa : Option Addr) (v' : Value), i ≤ N ∧ ti = .int .i64 (i : Int) ∧ to = .slice oa i oc ∧ wr.ownsRow w.heap.size 5 1 (.slice oa i oc) i ((cpyO L D i).map (Value.int .u8)) ∧ Hid (RgR wr b B S v' (cpyA L D i)) ∧ Kp (fun k => k = b) w wr ∧ Hid (∀ k, (Value.slice oa i oc).ownBlock = some k → v'.ownBlock ≠ some k) ∧ Hid (∀ k, v'.ownBlock = some k → v.ownBlock = some k ∨ w.heap.size ≤ k)) (fun _ ti _ => N - (intOf ti).toNat)
  case atStart => exact ⟨0, 0, none, v, by omega, rfl, rfl, by rw [cpyO_zero]; exact World.ownsRow_nil _ _ _ _, R1, Kp.of_below B1, (fun k e => by cases e), (fun k e => .inl e)⟩
  case round =>
    obtain ⟨i, oc, oa, v', hiN, rfl, rfl, OO, HRR, KK, HAP, HFR⟩ := hrel
    by_cases hlti : i < N
    · have hltI : (i : Int) < (N : Int) := by omega
      have RR : RgR wr b B S v' (cpyA L D i) := HRR.out
      have hAl := cpyA_len L D i
      have HO1 := cpyO_succ L D i
      have hcA : cpyA L D (i + 1) = cpyA L D i ++ [(cpyA L D i).getD ((cpyA L D i).length - D) 0] := rfl
      have HCA : Hid _ := hcA
      have HCO : Hid _ := HO1
      have hbdA := RR.bd
      have RC : Hid (RgR wr b B S v' (cpyA L D i)) := RR
      obtain ⟨a, cap, rfl, hA⟩ := RR
      have c1 : wr.cell? ⟨b, 1, none⟩ = some (.slice a (cpyA L D i).length cap) := two_cell1 hA.hp
      obtain ⟨_, a', cap', hv, sg, _, hcp, _⟩ := own_seg hA.own (M := 255) (by decide) hA.bd
      cases hv
      obtain ⟨g, off, rfl, cc⟩ := sg.at_ ((cpyA L D i).length - D) (by have := HDL.out; omega)
      obtain ⟨j, hj⟩ : ∃ j, j = (cpyA L D i).length - D := ⟨_, rfl⟩
      have hzb := getD_bd (by decide : (0 : Int) ≤ 255) hA.bd ((cpyA L D i).length - D)
      rw [← hj] at cc HCA HCO hzb
      obtain ⟨m, hm⟩ : ∃ m, m = (cpyA L D i).length := ⟨_, rfl⟩
      have HM : Hid ((cpyA L D i).length = m) := hm.symm
      rw [← hm] at c1 hj hAl
      have hDL := HDL.out
      have hjI : (m : Int) - (D : Int) = (j : Int) := by omega
      have hjn : (j : Int) < (m : Int) := by omega
      have HAL : Hid (m = L.length + i) := hAl
      have hmb : m ≤ 70368744177922 := by omega
      clear hAl
      generalize (cpyA L D i).getD j 0 = z at *
      generalize cpyA L D i = A at *
      clear hA sg hj hm hbdA hcA HO1 HRR
      go_wp2_with fail
      go_quiet (fail)
      have bq : Below wr.heap.size wr (wr.drewN nq) := ⟨rfl, rfl, rfl, Nat.le_refl _, fun _ _ => rfl⟩
      have Rq : RgR (wr.drewN nq) b B S (.slice (some ⟨g, off, none⟩) m cap) A := by
        have := (show RgR wr b B S _ A from RC.out).old bq
        rwa [HM.out] at this
      have Oq := own_below OO bq
      have Kq : Kp (fun k => k = b) w (wr.drewN nq) := KK.drewN nq
      have HAPq := HAP
      clear RC OO KK c1 cc bq
      generalize wr.drewN nq = wq at *
      rw [HM.out] at HAPq HFR
      have sq := seg_one6 wq z hzb
      have bA : Below wq.heap.size wq (wq.alloc (.cells #[.int .u8 z] 5)) := (Below.refl _ _).alloc (Nat.le_refl _) _
      have RA := Rq.old bA
      have OA := own_below Oq bA
      have hzA : (wq.alloc (.cells #[.int .u8 z] 5)).heap.size = wq.heap.size + 1 := by simp
      have CP := rput6_any b B S _ A (some ⟨wq.heap.size, 0, none⟩) [z] 1 1 rfl _ RA sq (by intro h; cases h) (by rw [HM.out]; omega)
      go_wp2_with fail
      refine CP.mono ?_
      rintro e w2 ⟨rfl, v2, R2, K2, F2⟩
      have O2 := own_kp OA K2 (fun k e e2 => by have := (Oq.lt k e).1; omega)
      have hs2 : w.heap.size ≤ w2.heap.size := by have := Kq.size; have := bA.size; have := K2.size; omega
      have hu2 := R2.own_lt
      clear CP RA OA
      go_wp2_with (at_builtin; refine wpList_app1 rfl (.tmp 47) (.tmp 49) 34 rfl w.heap.size 5 i0 (.int .u8 0) 1 Try.underlying34 hi hz0 hz1 hz2 rfl w2 (.int .u8 z) rfl O2 rfl rfl (by omega) (by omega) hs2 ?_; intro gg cap2 w3 own3 hg3 hf3)
      have hsA : wq.heap.size ≤ (wq.alloc (.cells #[.int .u8 z] 5)).heap.size := bA.size
      have hoq : ∀ k, (Value.slice oa i oc).ownBlock = some k → w.heap.size ≤ k ∧ k < wq.heap.size := fun k e => Oq.lt k e
      have K3 : Kp (fun k => (Value.slice oa i oc).ownBlock = some k) w2 w3 := Kp.grown hg3 (fun i e => e)
      have R3 : RgR w3 b B S v2 (A ++ [z]) := R2.kp K3 (fun e => by have := (hoq b e).1; omega) (fun k e e2 => by have h1 := F2 k e; have h2 := (hoq k e2).2; omega)
      go_roundw
      case rel =>
        refine ⟨i + 1, cap2, some ⟨gg, 0, none⟩, v2, by omega, by go_num, rfl, ?_, ?_, ?_, ?_, ?_⟩
        · rw [HCO.out, List.map_append]; exact own3
        · show RgR _ _ _ _ _ _; rw [HCA.out]; exact R3
        · exact ((Kq.trans (S' := fun _ => False) (Kp.of_below bA) (fun _ _ e => e.elim)).trans (S' := fun k => k = b) K2 (fun _ _ e => e)).trans (S' := fun k => (Value.slice oa i oc).ownBlock = some k) K3 (fun k hk e => by have := (hoq k e).1; omega)
        · intro k e1 e2
          have h1 := F2 k e2
          have h2 := (hu2 k e2).2.1
          rcases hf3 k e1 with h | h
          · have := (hoq k h).2; omega
          · omega
        · exact fun k e => .inr (by have h1 := F2 k e; have := Kq.size; omega)
      case measure => simp [intOf]; omega
    · obtain rfl : i = N := by omega
      have HOO : Hid _ := OO
      clear OO
      go_wp2_with fail
      go_ret2
      exact ⟨oa, oc, v', rfl, HOO.out, HRR.out, KK, HAP.out, HFR.out⟩
end Go.Proofs.Ythebboppbebffaa
