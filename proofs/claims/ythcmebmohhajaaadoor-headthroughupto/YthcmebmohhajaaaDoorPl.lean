import Derived.Test.YthcmebmohhajaaaDoorPk
import Derived.Deep.RegionHeld3
namespace Go.Proofs.YthcmebmohhajaaaDoor
open Go.RowKit
set_option linter.unusedVariables false

/-- A part of the lengths that are laid down. -/
theorem row_seg8 {w : World} {b : Nat} {s : S8} {zs0 : List Int} (h : Rb8 w b (rpre8 s) zs0) (szl : s.sz.length = 19) (ob : ∀ z ∈ s.out, 0 ≤ z ∧ z ≤ 15) (o n : Nat) (hn : o + n ≤ s.out.length) : Seg w (some ⟨b, 27 + o, none⟩) ((s.out.drop o).take n) := by
  refine ⟨fun i hi => ?_, by omega, fun i => ?_⟩
  rotate_left
  · by_cases hi : i < ((s.out.drop o).take n).length
    · have hm : ((s.out.drop o).take n).getD i 0 ∈ (s.out.drop o).take n := by simp only [List.getD, List.getElem?_eq_getElem hi, Option.getD_some]; exact List.getElem_mem hi
      have := ob _ (List.mem_of_mem_drop (List.mem_of_mem_take hm))
      omega
    · have : ((s.out.drop o).take n).getD i 0 = 0 := by simp only [List.getD, List.getElem?_eq_none (by omega : ((s.out.drop o).take n).length ≤ i), Option.getD_none]
      rw [this]; omega
  · have hin : i < n := by rw [List.length_take] at hi; omega
    refine ⟨b, 27 + o, rfl, h.cell ?_⟩
    have hg : ((s.out.drop o).take n).getD i 0 = s.out.getD (o + i) 0 := by
      simp [List.getD, hin]
    rw [hg]
    unfold rpre8
    rw [List.getElem?_append_right (by simp; omega), List.getElem?_append_right (by simp [szl]; omega)]
    have e : 27 + o + i - 8 - 19 = o + i := by omega
    have hl : o + i < s.out.length := by omega
    simp only [List.length_cons, List.length_nil, List.length_map, szl, e, List.map_append]
    rw [List.getElem?_append_left (by rw [List.length_map]; exact hl)]
    simp [List.getD, hl]
/-- What comes at a row's end. -/
def nxe8 (s : S8) : Nat := if tld8 errC (s.out.take s.lit) (s.out.drop s.lit) then 4 else 5
/-- The reader's cells that a row's end asks for. -/
theorem end_pre8 (s : S8) (n : Nat) : (rpre8 s).set 1 (.int .i64 (n : Int)) = rpre8 { s with nx := n } := rfl
set_option maxRecDepth 100000 in
set_option maxHeartbeats 1000000 in
theorem pend8 (b : Nat) (s : S8) (zs0 : List Int) (w : World) (h : Rb8 w b (rpre8 s) zs0) (szl : s.sz.length = 19) (ob : ∀ z ∈ s.out, 0 ≤ z ∧ z ≤ 15) (hl : s.lit ≤ 286) (hd : s.dist ≤ 30) (ho : s.out.length = s.lit + s.dist) :
    Calls Tryd.prog 65 #[.pointer (some ⟨b, 0, none⟩)] w fun e w' => e = .returned (.tuple #[]) ∧ Rb8 w' b (rpre8 { s with nx := nxe8 s }) zs0 ∧ Kp (fun k => k = b) w w' := by
  have c1 := h.cell (i := 1) rfl
  have f1 := h.free 1
  have h1 : Rb8 (w.setCell ⟨b, 1, none⟩ (.int .i64 5)) b (rpre8 { s with nx := 5 }) zs0 := h.set (i := 1) (by omega) (.int .i64 5)
  have k1 : Kp (fun k => k = b) w (w.setCell ⟨b, 1, none⟩ (.int .i64 5)) := (Kp.refl (fun k => k = b) w).set8 rfl 1 _
  have hs1 : Seg (w.setCell ⟨b, 1, none⟩ (.int .i64 5)) (some ⟨b, 27, none⟩) (s.out.take s.lit) := by
    have := row_seg8 (s := { s with nx := 5 }) h1 szl ob 0 s.lit (by show 0 + s.lit ≤ s.out.length; omega)
    simpa using this
  have hs2 : Seg (w.setCell ⟨b, 1, none⟩ (.int .i64 5)) (some ⟨b, 27 + s.lit, none⟩) (s.out.drop s.lit) := by
    have := row_seg8 (s := { s with nx := 5 }) h1 szl ob s.lit s.dist (by show s.lit + s.dist ≤ s.out.length; omega)
    rwa [List.take_of_length_le (by show (s.out.drop s.lit).length ≤ s.dist; rw [List.length_drop]; omega)] at this
  have CH := phalves8 b (s.out.take s.lit) (s.out.drop s.lit) s.lit s.dist _ (h1.cell (i := 2) rfl) (h1.cell (i := 3) rfl) ⟨by rw [List.length_take]; omega, hs1, by omega⟩ ⟨by rw [List.length_drop]; omega, hs2, by omega⟩ (by omega) (by omega)
  have HLN : Hid ((s.out.take s.lit).length = s.lit ∧ (s.out.drop s.lit).length = s.dist) := ⟨by rw [List.length_take]; omega, by rw [List.length_drop]; omega⟩
  have HBD : Hid (∀ z ∈ s.out, -9223372036854775808 ≤ z ∧ z ≤ 9223372036854775807) := fun z hz => by have := ob z hz; omega
  have H1 : Hid (Rb8 (w.setCell ⟨b, 1, none⟩ (.int .i64 5)) b (rpre8 { s with nx := 5 }) zs0) := h1
  have K1 : Hid (Kp (fun k => k = b) w (w.setCell ⟨b, 1, none⟩ (.int .i64 5))) := k1
  clear h h1 k1 hs1 hs2
  go_enter Tryd.func65, Tryd.ntmps65
  go_wp2_with fail
  generalize w.setCell ⟨b, 1, none⟩ (.int .i64 5) = w1 at *
  refine CH.mono ?_
  rintro e w2 ⟨g1, g2, rfl, o1, o2, hg, b2⟩
  have CT := ptell8 (s.out.take s.lit) (s.out.drop s.lit) (some ⟨g1, 0, none⟩) (some ⟨g2, 0, none⟩) s.lit s.dist s.lit s.dist HLN.out.1 HLN.out.2 w2 (own_segZ o1.own (fun z hz => HBD.out z (List.mem_of_mem_take hz))) (own_segZ o2.own (fun z hz => HBD.out z (List.mem_of_mem_drop hz)))
  clear CH
  go_wp2_with fail
  by_cases ht : tld8 errC (s.out.take s.lit) (s.out.drop s.lit)
  · have HT : Hid (tld8 errC (s.out.take s.lit) (s.out.drop s.lit)) := ht
    rw [decide_eq_true ht] at CT
    clear ht
    refine CT.mono ?_
    rintro e w3 ⟨rfl, b3⟩
    have b13 : Below w1.heap.size w1 w3 := b2.trans (b3.mono b2.size)
    have h3 := H1.out.keep (b13.block b H1.out.lt)
    have d1 := h3.cell (i := 1) rfl
    have e1 := h3.free 1
    have H3 : Hid (Rb8 w3 b (rpre8 { s with nx := 5 }) zs0) := h3
    clear h3
    go_wp2_with fail
    go_end0
    rw [show nxe8 s = 4 from if_pos HT.out]
    exact ⟨rfl, H3.out.set (i := 1) (by omega) (.int .i64 4), ((K1.out.trans (Kp.of_below (S := fun _ => False) b13) (fun _ _ e => e.elim))).set8 rfl 1 _⟩
  · have HT : Hid (¬ tld8 errC (s.out.take s.lit) (s.out.drop s.lit)) := ht
    rw [decide_eq_false ht] at CT
    clear ht
    refine CT.mono ?_
    rintro e w3 ⟨rfl, b3⟩
    have b13 : Below w1.heap.size w1 w3 := b2.trans (b3.mono b2.size)
    have h3 := H1.out.keep (b13.block b H1.out.lt)
    go_wp2_with fail
    go_end0
    rw [show nxe8 s = 5 from if_neg HT.out]
    exact ⟨rfl, h3, K1.out.trans (Kp.of_below (S := fun _ => False) b13) (fun _ _ e => e.elim)⟩
end Go.Proofs.YthcmebmohhajaaaDoor

namespace Go.Proofs.YthcmebmohhajaaaDoor
open Go.RowKit
set_option linter.unusedVariables false

theorem row_set8 (l : List Int) (v : Int) (h : l.length < 320) : ((l ++ List.replicate (320 - l.length) 0).map (Value.int .u8)).set l.length (.int .u8 v) = ((l ++ [v]) ++ List.replicate (320 - (l ++ [v]).length) 0).map (Value.int .u8) := by
  rw [← List.map_set]
  congr 1
  have e : 320 - l.length = (320 - (l ++ [v]).length) + 1 := by simp; omega
  rw [e, List.replicate_succ, List.set_append_right _ _ (Nat.le_refl _), Nat.sub_self, List.set_cons_zero, List.append_assoc]
  rfl
theorem set_abc8 {A B C : List Value} {x : Value} {k : Nat} (hA : A.length = 8) (hB : B.length = 19) : (A ++ (B ++ C)).set (27 + k) x = A ++ (B ++ C.set k x) := by
  rw [List.set_append_right _ _ (by omega), List.set_append_right _ _ (by omega)]
  congr 3
  omega
/-- A length more in the row. -/
theorem lay_pre8 (s : S8) (v : Int) (szl : s.sz.length = 19) (h : s.out.length < 320) : ((rpre8 s).set (27 + s.out.length) (.int .u8 v)).set 6 (.int .i64 ((s.out.length + 1 : Nat) : Int)) = rpre8 { s with out := s.out ++ [v] } := by
  unfold rpre8
  rw [set_abc8 rfl (by rw [List.length_map]; exact szl), row_set8 _ v h]
  simp only [List.cons_append, List.nil_append, List.set_cons_zero, List.set_cons_succ, List.length_append, List.length_cons, List.length_nil]
  try rfl
/-- A length is laid down. -/
theorem lay_rb8 {w : World} {b : Nat} {s : S8} {zs0 : List Int} (h : Rb8 w b (rpre8 s) zs0) (v : Int) (szl : s.sz.length = 19) (hl : s.out.length < 320) : Rb8 ((w.setCell ⟨b, 27 + s.out.length, none⟩ (.int .u8 v)).setCell ⟨b, 6, none⟩ (.int .i64 ((s.out.length + 1 : Nat) : Int))) b (rpre8 { s with out := s.out ++ [v] }) zs0 := by
  rw [← lay_pre8 s v szl hl]
  exact (h.set (i := 27 + s.out.length) (by omega) _).set (i := 6) (by omega) _
end Go.Proofs.YthcmebmohhajaaaDoor

namespace Go.Proofs.YthcmebmohhajaaaDoor
open Go.RowKit
set_option linter.unusedVariables false

set_option maxRecDepth 100000 in
set_option maxHeartbeats 2000000 in
theorem play8_far (b : Nat) (s : S8) (zs0 : List Int) (k : Nat) (w : World) (h : Rb8 w b (rpre8 s) zs0) (hl : s.lit ≤ 286) (hd : s.dist ≤ 30) (ho : s.out.length ≤ 316) (hk : k ≤ 1000) (hf : s.lit + s.dist < s.out.length + k) :
    Calls Tryd.prog 43 #[.pointer (some ⟨b, 0, none⟩), .int .i64 (k : Int)] w fun e w' => e = .returned (.tuple #[]) ∧ Rb8 w' b (rpre8 (lay8 s k)) zs0 ∧ Kp (fun k => k = b) w w' := by
  have c1 := h.cell (i := 1) rfl
  have c2 := h.cell (i := 2) rfl
  have c3 := h.cell (i := 3) rfl
  have c6 := h.cell (i := 6) rfl
  have f1 := h.free 1
  have HH : Hid (Rb8 w b (rpre8 s) zs0) := h
  have HL : Hid (lay8 s k = { s with nx := 5 }) := by show _ = _; unfold lay8; rw [if_pos hf]
  clear h
  obtain ⟨l, hl'⟩ : ∃ l, l = s.lit := ⟨_, rfl⟩
  obtain ⟨d, hd'⟩ : ∃ d, d = s.dist := ⟨_, rfl⟩
  obtain ⟨N, hN'⟩ : ∃ N, N = s.out.length := ⟨_, rfl⟩
  rw [← hl'] at c2 hl hf
  rw [← hd'] at c3 hd hf
  rw [← hN'] at c6 ho hf
  clear hl' hd' hN'
  have i5 : IntKind.i64.wrap ((l : Int) + (d : Int)) = (l : Int) + (d : Int) := IntWalk.i64_in _ (by omega)
  have i6 : (l : Int) + (d : Int) - (N : Int) < (k : Int) := by omega
  have i7 : IntKind.i64.wrap ((l : Int) + (d : Int) - (N : Int)) = (l : Int) + (d : Int) - (N : Int) := IntWalk.i64_in _ (by omega)
  go_enter Tryd.func43, Tryd.ntmps43
  go_wp2_with fail
  go_region_held3 (fun w' => w'.cell? ⟨b, 2, none⟩ = some (.int .i64 (l : Int)) ∧ w'.cell? ⟨b, 3, none⟩ = some (.int .i64 (d : Int))) (exact ⟨c2, c3⟩) (fail)
  go_wp2_with fail
  refine bodyPost_ret (results_none rfl _ _ _) rfl ?_
  rw [HL.out]
  exact ⟨rfl, (HH.out.keep (w' := w.drew) rfl).set (i := 1) (by omega) (.int .i64 5), ((Kp.of_below (S := fun k => k = b) ((Below.refl w.heap.size w).drew)).set8 rfl 1 _)⟩
end Go.Proofs.YthcmebmohhajaaaDoor

namespace Go.Proofs.YthcmebmohhajaaaDoor
open Go.RowKit
set_option linter.unusedVariables false

def lad8 (s : S8) (v : Int) (j : Nat) : S8 := { s with out := s.out ++ List.replicate j v }
theorem lad8_succ (s : S8) (v : Int) (j : Nat) : { lad8 s v j with out := (lad8 s v j).out ++ [v] } = lad8 s v (j + 1) := by
  unfold lad8
  simp [List.replicate_succ']
theorem lad8_len (s : S8) (v : Int) (j : Nat) : (lad8 s v j).out.length = s.out.length + j := by simp [lad8]
set_option maxRecDepth 100000 in
set_option maxHeartbeats 2000000 in
theorem play8_plain (b : Nat) (s : S8) (zs0 : List Int) (k : Nat) (w : World) (T : TabS w) (h : Rb8 w b (rpre8 s) zs0) (szl : s.sz.length = 19) (ob : ∀ z ∈ s.out, 0 ≤ z ∧ z ≤ 15) (hl : s.lit ≤ 286) (hd : s.dist ≤ 30) (hk : k ≤ 1000) (hf : ¬ s.lit + s.dist < s.out.length + k) (hs : s.sym ≤ 18) (h16 : s.sym ≠ 16) :
    Calls Tryd.prog 43 #[.pointer (some ⟨b, 0, none⟩), .int .i64 (k : Int)] w fun e w' => e = .returned (.tuple #[]) ∧ Rb8 w' b (rpre8 (lay8 s k)) zs0 ∧ Kp (fun k => k = b) w w' := by
  have c2 := h.cell (i := 2) rfl
  have c3 := h.cell (i := 3) rfl
  have c6 := h.cell (i := 6) rfl
  have c7 := h.cell (i := 7) rfl
  obtain ⟨t0, _, _⟩ := T.at8 s.sym (by omega)
  have HV : Hid (sln8 s.sym = vls8 s) := by
    show _ = _
    unfold sln8 vls8
    rw [if_neg (by omega), if_neg h16]
    by_cases c : 16 < s.sym
    · rw [if_pos (by omega), if_pos c]
    · rw [if_neg (by omega), if_neg c]
  rw [HV.out] at t0
  have hvb := vls8_bd ob hs
  have HH : Hid (Rb8 w b (rpre8 s) zs0) := h
  have HF : Hid (s.out.length + k ≤ s.lit + s.dist) := by show _ ≤ _; omega
  clear h
  obtain ⟨v, hv⟩ : ∃ v, v = vls8 s := ⟨_, rfl⟩
  rw [← hv] at t0 hvb
  have HVV : Hid (v = vls8 s) := hv
  obtain ⟨l, hl'⟩ : ∃ l, l = s.lit := ⟨_, rfl⟩
  obtain ⟨d, hd'⟩ : ∃ d, d = s.dist := ⟨_, rfl⟩
  obtain ⟨N, hN'⟩ : ∃ N, N = s.out.length := ⟨_, rfl⟩
  obtain ⟨y, hy'⟩ : ∃ y, y = s.sym := ⟨_, rfl⟩
  have HLE : Hid (l = s.lit ∧ d = s.dist ∧ N = s.out.length) := ⟨hl', hd', hN'⟩
  rw [← hl'] at c2 hl hf
  rw [← hd'] at c3 hd hf
  rw [← hN'] at c6 hf
  rw [← hy'] at c7 t0 hs h16
  clear hl' hd' hN' hy' hv
  have i5 : IntKind.i64.wrap ((l : Int) + (d : Int)) = (l : Int) + (d : Int) := IntWalk.i64_in _ (by omega)
  have i6 : ¬ (l : Int) + (d : Int) - (N : Int) < (k : Int) := by omega
  have i7 : IntKind.i64.wrap ((l : Int) + (d : Int) - (N : Int)) = (l : Int) + (d : Int) - (N : Int) := IntWalk.i64_in _ (by omega)
  have i8 : (y : Int) < 19 := by omega
  have i9 : ¬ v = -1 := by omega
  have i10 : (v == -1) = false := by simpa using i9
  go_enter Tryd.func43, Tryd.ntmps43
  go_wp2_with fail
  go_region_held3 (fun w' => w'.cell? ⟨b, 2, none⟩ = some (.int .i64 (l : Int)) ∧ w'.cell? ⟨b, 3, none⟩ = some (.int .i64 (d : Int))) (exact ⟨c2, c3⟩) (fail)
  go_wp2_with fail
  try rw [i10]
  have H0 : Hid (Rb8 w.drew b (rpre8 (lad8 s v 0)) zs0) := by
    have := HH.out.keep (w' := w.drew) rfl
    unfold lad8
    rw [List.replicate_zero, List.append_nil]
    exact this
  have K0 : Kp (fun k => k = b) w w.drew := Kp.of_below ((Below.refl w.heap.size w).drew)
  have HS : Hid (s.sz.length = 19) := szl
  go_loopw [47] (fun tj wr => ∃ j : Nat, j ≤ k ∧ tj = .int .i64 (j : Int) ∧ Rb8 wr b (rpre8 (lad8 s v j)) zs0 ∧ Kp (fun k => k = b) w wr) (fun tj _ => k - (intOf tj).toNat)
  case atStart => exact ⟨0, by omega, rfl, H0.out, K0⟩
  case round =>
    obtain ⟨j, hjk, rfl, RB, KJ⟩ := hrel
    clear K0
    by_cases hlt : j < k
    · have hlti : (j : Int) < (k : Int) := by omega
      have e6 : (lad8 s v j).out.length = N + j := by rw [lad8_len, HLE.out.2.2]
      have d6 := RB.cell (i := 6) rfl
      rw [e6] at d6
      obtain ⟨M, hM⟩ : ∃ M, M = N + j := ⟨_, rfl⟩
      rw [← hM] at d6 e6
      have hMb : M < 320 := by omega
      have hMi : (M : Int) < 320 := by omega
      have hM0 : (0 : Int) ≤ (M : Int) := by omega
      have f6 := RB.free 6
      have g6 := RB.free (27 + M)
      have HRS := lay_rb8 RB v HS.out (by rw [e6]; exact hMb)
      rw [e6, lad8_succ] at HRS
      have HR : Hid (Rb8 ((wr.setCell ⟨b, 27 + M, none⟩ (.int .u8 v)).setCell ⟨b, 6, none⟩ (.int .i64 ((M + 1 : Nat) : Int))) b (rpre8 (lad8 s v (j + 1))) zs0) := HRS
      obtain ⟨z, hz⟩ : ∃ z, wr.cell? ⟨b, 27 + M, none⟩ = some z := by
        obtain ⟨S, h1, h2, h3⟩ := RB.row
        rw [cell_of_row wr b (27 + M) _ _ _ h3, List.getElem?_toArray]
        have hq : 27 + M < (rpre8 (lad8 s v j) ++ (dl 19 zs0 S).map (Value.int .i64)).length := by rw [List.length_append, RB.len]; omega
        exact ⟨_, List.getElem?_eq_getElem hq⟩
      have RS := (RB.keep (w' := wr.drew) rfl).set (i := 27 + M) (by omega) (.int .u8 v)
      have s6 : (wr.setCell ⟨b, 27 + M, none⟩ (.int .u8 v)).drew.cell? ⟨b, 6, none⟩ = some (.int .i64 (M : Int)) := RS.cell (by rw [List.getElem?_set_ne (by omega), ← e6]; rfl)
      have sf6 := RS.free 6
      clear HRS e6 RB hM RS
      have hv0 : 0 ≤ v := hvb.1
      have hv1 : v ≤ 15 := hvb.2
      have hwv : IntKind.u8.wrap v = v := IntWalk.u8_in _ (by omega)
      have kk : Kp (fun k => k = b) w ((wr.drew.setCell ⟨b, 27 + M, none⟩ (.int .u8 v)).setCell ⟨b, 6, none⟩ (.int .i64 ((M + 1 : Nat) : Int))) := ((KJ.trans (Kp.of_below (S := fun _ => False) ((Below.refl wr.heap.size wr).drew)) (fun _ _ e => e.elim)).set8 rfl _ _).set8 rfl _ _
      have HK : Hid (Kp (fun k => k = b) w ((wr.drew.setCell ⟨b, 27 + M, none⟩ (.int .u8 v)).setCell ⟨b, 6, none⟩ (.int .i64 ((M + 1 : Nat) : Int)))) := kk
      clear kk
      have HR2 : Hid (Rb8 ((wr.drew.setCell ⟨b, 27 + M, none⟩ (.int .u8 v)).setCell ⟨b, 6, none⟩ (.int .i64 ((M + 1 : Nat) : Int))) b (rpre8 (lad8 s v (j + 1))) zs0) := HR.out.keep rfl
      go_wp2_with fail
      go_region_held3 (fun w' => w'.cell? ⟨b, 6, none⟩ = some (.int .i64 (M : Int))) (first | (exact d6) | (exact s6) | (rw [hwv]; exact s6)) (fail)
      go_wp2_with fail
      try rw [hwv]
      go_roundw
      case rel => exact ⟨j + 1, by omega, by go_num, HR2.out, HK.out⟩
      case measure => simp [intOf]; omega
    · obtain rfl : j = k := by omega
      have e6 : (lad8 s v j).out.length = N + j := by rw [lad8_len, HLE.out.2.2]
      have d6 := RB.cell (i := 6) rfl
      rw [e6] at d6
      have d1 := RB.cell (i := 1) rfl
      have f1 := RB.free 1
      have RS : Rb8 (wr.setCell ⟨b, 1, none⟩ (.int .i64 2)) b (rpre8 { lad8 s v j with nx := 2 }) zs0 := RB.set (i := 1) (by omega) (.int .i64 2)
      have KS := KJ.set8 rfl 1 (.int .i64 2)
      obtain ⟨M, hM⟩ : ∃ M, M = N + j := ⟨_, rfl⟩
      rw [← hM] at d6
      have hge : ¬ (j : Int) < (j : Int) := by omega
      by_cases hq : M = l + d
      · have CE := pend8 b { lad8 s v j with nx := 2 } zs0 _ RS HS.out (by
            intro z hz
            have hz : z ∈ s.out ++ List.replicate j v := hz
            rw [List.mem_append] at hz
            rcases hz with hz | hz
            · exact ob z hz
            · rw [(List.mem_replicate.1 hz).2]; exact hvb) (by show s.lit ≤ 286; rw [← HLE.out.1]; exact hl) (by show s.dist ≤ 30; rw [← HLE.out.2.1]; exact hd) (by show (lad8 s v j).out.length = s.lit + s.dist; rw [e6, ← HLE.out.1, ← HLE.out.2.1, ← hM]; exact hq)
        have HEQ : Hid ({ ({ lad8 s v j with nx := 2 } : S8) with nx := nxe8 { lad8 s v j with nx := 2 } } = lay8 s j) := by
          show _ = _
          unfold lay8
          rw [if_neg (by have := HF.out; omega), if_pos (by rw [← HLE.out.1, ← HLE.out.2.1, ← HLE.out.2.2, ← hM]; exact hq), ← HVV.out]
          rfl
        rw [HEQ.out] at CE
        have hqi : (M : Int) = (l : Int) + (d : Int) := by omega
        have KS2 : Hid (Kp (fun k => k = b) w (wr.setCell ⟨b, 1, none⟩ (.int .i64 2))) := KS
        clear RS KS e6 RB hM hq
        go_wp2_with fail
        refine CE.mono ?_
        rintro e w9 ⟨rfl, r9, k9⟩
        go_wp2_with fail
        go_end0
        exact ⟨rfl, r9, KS2.out.trans k9 (fun _ _ e => e)⟩
      · have HEQ : Hid ({ lad8 s v j with nx := 2 } = lay8 s j) := by
          show _ = _
          unfold lay8
          rw [if_neg (by have := HF.out; omega), if_neg (by rw [← HLE.out.1, ← HLE.out.2.1, ← HLE.out.2.2, ← hM]; exact hq), ← HVV.out]
          rfl
        have hqi : ¬ (M : Int) = (l : Int) + (d : Int) := by omega
        have RS2 : Hid (Rb8 (wr.setCell ⟨b, 1, none⟩ (.int .i64 2)) b (rpre8 { lad8 s v j with nx := 2 }) zs0) := RS
        have KS2 : Hid (Kp (fun k => k = b) w (wr.setCell ⟨b, 1, none⟩ (.int .i64 2))) := KS
        clear RS KS e6 RB hM hq
        go_wp2_with fail
        go_end0
        rw [← HEQ.out]
        exact ⟨rfl, RS2.out, KS2.out⟩
end Go.Proofs.YthcmebmohhajaaaDoor

namespace Go.Proofs.YthcmebmohhajaaaDoor
open Go.RowKit
set_option linter.unusedVariables false

set_option maxRecDepth 100000 in
set_option maxHeartbeats 2000000 in
theorem play8_copy (b : Nat) (s : S8) (zs0 : List Int) (k : Nat) (w : World) (T : TabS w) (h : Rb8 w b (rpre8 s) zs0) (szl : s.sz.length = 19) (ob : ∀ z ∈ s.out, 0 ≤ z ∧ z ≤ 15) (hl : s.lit ≤ 286) (hd : s.dist ≤ 30) (hk : k ≤ 1000) (hf : ¬ s.lit + s.dist < s.out.length + k) (hs : s.sym ≤ 18) (h16 : s.sym = 16) (hne : s.out ≠ []) :
    Calls Tryd.prog 43 #[.pointer (some ⟨b, 0, none⟩), .int .i64 (k : Int)] w fun e w' => e = .returned (.tuple #[]) ∧ Rb8 w' b (rpre8 (lay8 s k)) zs0 ∧ Kp (fun k => k = b) w w' := by
  have c2 := h.cell (i := 2) rfl
  have c3 := h.cell (i := 3) rfl
  have c6 := h.cell (i := 6) rfl
  have c7 := h.cell (i := 7) rfl
  obtain ⟨t0, _, _⟩ := T.at8 s.sym (by omega)
  have hP : 0 < s.out.length := List.length_pos_iff.2 hne
  have HVP : Hid (w.cell? ⟨b, 27 + (s.out.length - 1), none⟩ = some (.int .u8 (vls8 s))) := by
    obtain ⟨bb, oo, e, c⟩ := (row_seg8 h szl ob 0 s.out.length (by omega)).at_ (s.out.length - 1) (by simp; omega)
    cases e
    show _ = _
    rw [show 27 + 0 + (s.out.length - 1) = 27 + (s.out.length - 1) by omega] at c
    rw [c]
    congr 2
    unfold vls8
    rw [if_pos h16, List.getLastD_eq_getLast?, List.getLast?_eq_getElem?]
    simp [List.getD]
  have cv := HVP.out
  rw [show sln8 s.sym = -1 by unfold sln8; rw [if_pos (by omega)]] at t0
  have hvb := vls8_bd ob hs
  have HH : Hid (Rb8 w b (rpre8 s) zs0) := h
  have HF : Hid (s.out.length + k ≤ s.lit + s.dist) := by show _ ≤ _; omega
  clear h
  obtain ⟨v, hv⟩ : ∃ v, v = vls8 s := ⟨_, rfl⟩
  rw [← hv] at cv hvb
  have HVV : Hid (v = vls8 s) := hv
  obtain ⟨l, hl'⟩ : ∃ l, l = s.lit := ⟨_, rfl⟩
  obtain ⟨d, hd'⟩ : ∃ d, d = s.dist := ⟨_, rfl⟩
  obtain ⟨N, hN'⟩ : ∃ N, N = s.out.length := ⟨_, rfl⟩
  obtain ⟨y, hy'⟩ : ∃ y, y = s.sym := ⟨_, rfl⟩
  have HLE : Hid (l = s.lit ∧ d = s.dist ∧ N = s.out.length) := ⟨hl', hd', hN'⟩
  rw [← hl'] at c2 hl hf
  rw [← hd'] at c3 hd hf
  rw [← hN'] at c6 hf hP cv
  rw [← hy'] at c7 t0 hs h16
  obtain ⟨P, hPN⟩ : ∃ P, P = N - 1 := ⟨_, rfl⟩
  rw [← hPN] at cv
  have p1 : (N : Int) - 1 = (P : Int) := by omega
  have p2 : IntKind.i64.wrap ((N : Int) - 1) = (P : Int) := by rw [p1]; exact IntWalk.i64_in _ (by omega)
  have p3 : (P : Int) < 320 := by omega
  have p4 : IntKind.i64.wrap v = v := IntWalk.i64_in _ (by omega)
  clear hl' hd' hN' hy' hv hPN p1
  subst h16
  have i5 : IntKind.i64.wrap ((l : Int) + (d : Int)) = (l : Int) + (d : Int) := IntWalk.i64_in _ (by omega)
  have i6 : ¬ (l : Int) + (d : Int) - (N : Int) < (k : Int) := by omega
  have i7 : IntKind.i64.wrap ((l : Int) + (d : Int) - (N : Int)) = (l : Int) + (d : Int) - (N : Int) := IntWalk.i64_in _ (by omega)
  go_enter Tryd.func43, Tryd.ntmps43
  go_wp2_with fail
  go_region_held3 (fun w' => w'.cell? ⟨b, 2, none⟩ = some (.int .i64 (l : Int)) ∧ w'.cell? ⟨b, 3, none⟩ = some (.int .i64 (d : Int))) (exact ⟨c2, c3⟩) (fail)
  go_wp2_with fail
  go_region_held3 (fun w' => w'.cell? ⟨b, 6, none⟩ = some (.int .i64 (N : Int)) ∧ w'.cell? ⟨b, 27 + P, none⟩ = some (.int .u8 v)) (exact ⟨c6, cv⟩) (fail)
  go_wp2_with fail
  have H0 : Hid (Rb8 w.drew.drew b (rpre8 (lad8 s v 0)) zs0) := by
    have := HH.out.keep (w' := w.drew.drew) rfl
    unfold lad8
    rw [List.replicate_zero, List.append_nil]
    exact this
  have K0 : Kp (fun k => k = b) w w.drew.drew := Kp.of_below ((Below.refl w.heap.size w).drew.drew)
  have HS : Hid (s.sz.length = 19) := szl
  go_loopw [47] (fun tj wr => ∃ j : Nat, j ≤ k ∧ tj = .int .i64 (j : Int) ∧ Rb8 wr b (rpre8 (lad8 s v j)) zs0 ∧ Kp (fun k => k = b) w wr) (fun tj _ => k - (intOf tj).toNat)
  case atStart => exact ⟨0, by omega, rfl, H0.out, K0⟩
  case round =>
    obtain ⟨j, hjk, rfl, RB, KJ⟩ := hrel
    clear K0
    by_cases hlt : j < k
    · have hlti : (j : Int) < (k : Int) := by omega
      have e6 : (lad8 s v j).out.length = N + j := by rw [lad8_len, HLE.out.2.2]
      have d6 := RB.cell (i := 6) rfl
      rw [e6] at d6
      obtain ⟨M, hM⟩ : ∃ M, M = N + j := ⟨_, rfl⟩
      rw [← hM] at d6 e6
      have hMb : M < 320 := by omega
      have hMi : (M : Int) < 320 := by omega
      have hM0 : (0 : Int) ≤ (M : Int) := by omega
      have f6 := RB.free 6
      have g6 := RB.free (27 + M)
      have HRS := lay_rb8 RB v HS.out (by rw [e6]; exact hMb)
      rw [e6, lad8_succ] at HRS
      have HR : Hid (Rb8 ((wr.setCell ⟨b, 27 + M, none⟩ (.int .u8 v)).setCell ⟨b, 6, none⟩ (.int .i64 ((M + 1 : Nat) : Int))) b (rpre8 (lad8 s v (j + 1))) zs0) := HRS
      obtain ⟨z, hz⟩ : ∃ z, wr.cell? ⟨b, 27 + M, none⟩ = some z := by
        obtain ⟨S, h1, h2, h3⟩ := RB.row
        rw [cell_of_row wr b (27 + M) _ _ _ h3, List.getElem?_toArray]
        have hq : 27 + M < (rpre8 (lad8 s v j) ++ (dl 19 zs0 S).map (Value.int .i64)).length := by rw [List.length_append, RB.len]; omega
        exact ⟨_, List.getElem?_eq_getElem hq⟩
      have RS := (RB.keep (w' := wr.drew) rfl).set (i := 27 + M) (by omega) (.int .u8 v)
      have s6 : (wr.setCell ⟨b, 27 + M, none⟩ (.int .u8 v)).drew.cell? ⟨b, 6, none⟩ = some (.int .i64 (M : Int)) := RS.cell (by rw [List.getElem?_set_ne (by omega), ← e6]; rfl)
      have sf6 := RS.free 6
      clear HRS e6 RB hM RS
      have hv0 : 0 ≤ v := hvb.1
      have hv1 : v ≤ 15 := hvb.2
      have hwv : IntKind.u8.wrap v = v := IntWalk.u8_in _ (by omega)
      have kk : Kp (fun k => k = b) w ((wr.drew.setCell ⟨b, 27 + M, none⟩ (.int .u8 v)).setCell ⟨b, 6, none⟩ (.int .i64 ((M + 1 : Nat) : Int))) := ((KJ.trans (Kp.of_below (S := fun _ => False) ((Below.refl wr.heap.size wr).drew)) (fun _ _ e => e.elim)).set8 rfl _ _).set8 rfl _ _
      have HK : Hid (Kp (fun k => k = b) w ((wr.drew.setCell ⟨b, 27 + M, none⟩ (.int .u8 v)).setCell ⟨b, 6, none⟩ (.int .i64 ((M + 1 : Nat) : Int)))) := kk
      clear kk
      have HR2 : Hid (Rb8 ((wr.drew.setCell ⟨b, 27 + M, none⟩ (.int .u8 v)).setCell ⟨b, 6, none⟩ (.int .i64 ((M + 1 : Nat) : Int))) b (rpre8 (lad8 s v (j + 1))) zs0) := HR.out.keep rfl
      go_wp2_with fail
      go_region_held3 (fun w' => w'.cell? ⟨b, 6, none⟩ = some (.int .i64 (M : Int))) (first | (exact d6) | (exact s6) | (rw [hwv]; exact s6)) (fail)
      go_wp2_with fail
      try rw [hwv]
      go_roundw
      case rel => exact ⟨j + 1, by omega, by go_num, HR2.out, HK.out⟩
      case measure => simp [intOf]; omega
    · obtain rfl : j = k := by omega
      have e6 : (lad8 s v j).out.length = N + j := by rw [lad8_len, HLE.out.2.2]
      have d6 := RB.cell (i := 6) rfl
      rw [e6] at d6
      have d1 := RB.cell (i := 1) rfl
      have f1 := RB.free 1
      have RS : Rb8 (wr.setCell ⟨b, 1, none⟩ (.int .i64 2)) b (rpre8 { lad8 s v j with nx := 2 }) zs0 := RB.set (i := 1) (by omega) (.int .i64 2)
      have KS := KJ.set8 rfl 1 (.int .i64 2)
      obtain ⟨M, hM⟩ : ∃ M, M = N + j := ⟨_, rfl⟩
      rw [← hM] at d6
      have hge : ¬ (j : Int) < (j : Int) := by omega
      by_cases hq : M = l + d
      · have CE := pend8 b { lad8 s v j with nx := 2 } zs0 _ RS HS.out (by
            intro z hz
            have hz : z ∈ s.out ++ List.replicate j v := hz
            rw [List.mem_append] at hz
            rcases hz with hz | hz
            · exact ob z hz
            · rw [(List.mem_replicate.1 hz).2]; exact hvb) (by show s.lit ≤ 286; rw [← HLE.out.1]; exact hl) (by show s.dist ≤ 30; rw [← HLE.out.2.1]; exact hd) (by show (lad8 s v j).out.length = s.lit + s.dist; rw [e6, ← HLE.out.1, ← HLE.out.2.1, ← hM]; exact hq)
        have HEQ : Hid ({ ({ lad8 s v j with nx := 2 } : S8) with nx := nxe8 { lad8 s v j with nx := 2 } } = lay8 s j) := by
          show _ = _
          unfold lay8
          rw [if_neg (by have := HF.out; omega), if_pos (by rw [← HLE.out.1, ← HLE.out.2.1, ← HLE.out.2.2, ← hM]; exact hq), ← HVV.out]
          rfl
        rw [HEQ.out] at CE
        have hqi : (M : Int) = (l : Int) + (d : Int) := by omega
        have KS2 : Hid (Kp (fun k => k = b) w (wr.setCell ⟨b, 1, none⟩ (.int .i64 2))) := KS
        clear RS KS e6 RB hM hq
        go_wp2_with fail
        refine CE.mono ?_
        rintro e w9 ⟨rfl, r9, k9⟩
        go_wp2_with fail
        go_end0
        exact ⟨rfl, r9, KS2.out.trans k9 (fun _ _ e => e)⟩
      · have HEQ : Hid ({ lad8 s v j with nx := 2 } = lay8 s j) := by
          show _ = _
          unfold lay8
          rw [if_neg (by have := HF.out; omega), if_neg (by rw [← HLE.out.1, ← HLE.out.2.1, ← HLE.out.2.2, ← hM]; exact hq), ← HVV.out]
          rfl
        have hqi : ¬ (M : Int) = (l : Int) + (d : Int) := by omega
        have RS2 : Hid (Rb8 (wr.setCell ⟨b, 1, none⟩ (.int .i64 2)) b (rpre8 { lad8 s v j with nx := 2 }) zs0) := RS
        have KS2 : Hid (Kp (fun k => k = b) w (wr.setCell ⟨b, 1, none⟩ (.int .i64 2))) := KS
        clear RS KS e6 RB hM hq
        go_wp2_with fail
        go_end0
        rw [← HEQ.out]
        exact ⟨rfl, RS2.out, KS2.out⟩
end Go.Proofs.YthcmebmohhajaaaDoor

namespace Go.Proofs.YthcmebmohhajaaaDoor
open Go.RowKit
set_option linter.unusedVariables false

/-- lay. -/
theorem play8 (b : Nat) (s : S8) (zs0 : List Int) (k : Nat) (w : World) (T : TabS w) (h : Rb8 w b (rpre8 s) zs0) (szl : s.sz.length = 19) (ob : ∀ z ∈ s.out, 0 ≤ z ∧ z ≤ 15) (hl : s.lit ≤ 286) (hd : s.dist ≤ 30) (ho : s.out.length ≤ 316) (hk : k ≤ 1000) (hs : s.sym ≤ 18) (h16 : s.sym = 16 → s.out ≠ []) :
    Calls Tryd.prog 43 #[.pointer (some ⟨b, 0, none⟩), .int .i64 (k : Int)] w fun e w' => e = .returned (.tuple #[]) ∧ Rb8 w' b (rpre8 (lay8 s k)) zs0 ∧ Kp (fun k => k = b) w w' := by
  by_cases hf : s.lit + s.dist < s.out.length + k
  · exact play8_far b s zs0 k w h hl hd ho hk hf
  · by_cases h6 : s.sym = 16
    · exact play8_copy b s zs0 k w T h szl ob hl hd hk hf hs h6 (h16 h6)
    · exact play8_plain b s zs0 k w T h szl ob hl hd hk hf hs h6
end Go.Proofs.YthcmebmohhajaaaDoor

namespace Go.Proofs.YthcmebmohhajaaaDoor
open Go.RowKit
set_option linter.unusedVariables false

set_option maxRecDepth 100000 in
set_option maxHeartbeats 2000000 in
theorem tmore8 (b br : Nat) (s : S8) (H : List Bool) (t : Nat) (w : World) (T : TabS w) (hne : b ≠ br) (hb0 : b ≠ 0) (hr0 : br ≠ 0) (h0 : s.nx = 3) (ok : Ok8 s) (hR : RdH w b s) (hr : Rd w br H t) (ht : t ≤ 4611686018427387000) :
    Calls Tryd.prog 28 #[.pointer (some ⟨b, 0, none⟩), .pointer (some ⟨br, 0, none⟩)] w (TkQ w b br s H t) := by
  obtain ⟨zs0, hB, hz⟩ := hR.row
  have c7 := hB.cell (i := 7) rfl
  have a3 := ok.at3 h0
  obtain ⟨t0, t1, t2⟩ := T.at8 s.sym (by omega)
  obtain ⟨y, hy⟩ : ∃ y, y = s.sym := ⟨_, rfl⟩
  rw [← hy] at c7 t0 t1 t2
  have hy19 : (y : Int) < 19 := by omega
  have HY : Hid (y = s.sym) := hy
  have HB : Hid (Rb8 w b (rpre8 s) zs0) := hB
  have A3 : Hid (16 ≤ s.sym ∧ s.sym ≤ 18 ∧ (s.sym = 16 → s.out ≠ [])) := a3
  clear hy hB a3
  generalize sln8 (y : Int) = e0 at *
  obtain ⟨e1, he1⟩ : ∃ e1, e1 = lst8 (y : Int) := ⟨_, rfl⟩
  obtain ⟨e2, he2⟩ : ∃ e2, e2 = mor8 (y : Int) := ⟨_, rfl⟩
  rw [← he1] at t1
  rw [← he2] at t2
  have HE : Hid (e1 = lst8 (y : Int) ∧ e2 = mor8 (y : Int)) := ⟨he1, he2⟩
  clear he1 he2
  go_enter Tryd.func28, Tryd.ntmps28
  go_wp2_with fail
  have B1 := below_box8 w (.cells #[.int .i64 e0, .int .i64 e1, .int .i64 (e2 : Int)] 92)
  have q1 := heap_alloc_new w (.cells #[.int .i64 e0, .int .i64 e1, .int .i64 (e2 : Int)] 92)
  generalize w.alloc (.cells #[.int .i64 e0, .int .i64 e1, .int .i64 (e2 : Int)] 92) = W1 at *
  have r1 : Rd W1 br H t := hr.kp (Kp.of_below (S := fun _ => False) B1) (fun e => e)
  have CT := take_any br H t (e2 : Int) W1 r1 (by omega)
  have hbr := hr.b_lt
  have hbl := HB.out.lt
  have hws : w.heap.size < W1.heap.size := (Array.getElem?_eq_some_iff.1 q1).1
  have he27 : e2 ≤ 7 := by rw [HE.out.2]; unfold mor8; split <;> (try split) <;> (try split) <;> omega
  by_cases hl : e2 ≤ H.length
  · have hth : there H (e2 : Int) = true := there_of (by omega) hl
    unfold takeV takeL takeT at CT
    simp only [hth, if_true, Int.toNat_natCast] at CT
    have hv := num_lt8 H e2
    have hp : 2 ^ e2 ≤ 2 ^ 7 := Nat.pow_le_pow_right (by omega) he27
    have HO : Hid (One8 s H (lay8 s ((lst8 s.sym).toNat + num (H.take e2))) e2) := by
      have := One8.mor (s := s) (H := H) h0 (by rw [← HY.out, ← HE.out.2]; exact hl)
      rw [← HY.out, ← HE.out.2, HY.out] at this
      exact this
    generalize num (H.take e2) = v at *
    have hvb : v < 128 := by omega
    have hl0 : 1 ≤ e1 ∧ e1 ≤ 11 := by rw [HE.out.1]; unfold lst8; split <;> (try split) <;> omega
    obtain ⟨k, hk⟩ : ∃ k, k = (lst8 s.sym).toNat + v := ⟨_, rfl⟩
    have hke : e1 + (v : Int) = (k : Int) := by rw [hk, ← HY.out, ← HE.out.1]; omega
    rw [← hk] at HO
    have hk2 : k ≤ 1000 := by omega
    clear hk hp hv
    refine CT.mono ?_
    rintro e w2 ⟨rfl, r2, g2⟩
    have q2 := (g2.block w.heap.size hws (by simp; omega)).trans q1
    have c8 : w2.cell? ⟨w.heap.size, 1, none⟩ = some (.int .i64 e1) := (cell_of_row w2 _ 1 _ _ _ q2).trans rfl
    have T2 : TabS w2 := (SegZ.old T B1).kp (Kp.grown (S := fun k => k = br) g2 (fun j e => by cases e; rfl)) (fun g o e _ => by cases e; exact fun e => hr0 e.symm)
    have hB2 : Rb8 w2 b (rpre8 s) zs0 := (HB.out.keep (B1.block b hbl)).keep (g2.block b (by have := B1.size; omega) (fun e => hne (by cases e; rfl)))
    have a2 := ok.at2 (.inr h0)
    have CL := play8 b s zs0 k w2 T2 hB2 ok.szl ok.ob a2.2.2.1 a2.2.2.2.1 ok.ol hk2 A3.out.2.1 A3.out.2.2
    have KW : Hid (Kp (fun k => k = b ∨ k = br) w w2) := (Kp.of_below (S := fun k => k = b ∨ k = br) B1).trans (Kp.grown (S := fun k => k = br) g2 (fun j e => by cases e; rfl)) (fun _ _ e => .inr e)
    have HZ : Hid (zs0 = s.sz) := hz (.inr h0)
    clear hB2 T2 a2 CT hz
    go_wp2_with fail
    refine CL.mono ?_
    rintro e w3 ⟨rfl, r3, k3⟩
    have R3 : Hid (Rb8 w3 b (rpre8 (lay8 s k)) zs0) := r3
    have R4 : Hid (Rd w3 br (H.drop e2) (t + e2)) := r2.kp k3 (fun e => hne e.symm)
    have K3 : Hid (Kp (fun k => k = b ∨ k = br) w w3) := KW.out.trans k3 (fun _ _ e => .inl e)
    have Z3 : Hid ((lay8 s k).nx = 2 ∨ (lay8 s k).nx = 3 → zs0 = (lay8 s k).sz) := fun _ => by rw [HZ.out]; unfold lay8; split <;> rfl
    clear r3 r2 k3 CL c8 q2 g2 hk2
    go_wp2_with fail
    go_ret
    exact ⟨K3.out, .inl ⟨rfl, _, _, HO.out, ⟨zs0, R3.out, Z3.out⟩, R4.out⟩⟩
  · have hth : there H (e2 : Int) = false := there_lt (by omega)
    unfold takeV takeL takeT at CT
    simp only [hth, Bool.false_eq_true, if_false] at CT
    have HW : Hid (Wait8 s H) := .inr (.inr (.inr (.inl ⟨h0, by rw [← HY.out, ← HE.out.2]; omega⟩)))
    refine CT.mono ?_
    rintro e w2 ⟨rfl, r2, g2⟩
    have hR2 : RdH w2 b s := (hR.keep (B1.block b hbl)).keep (g2.block b (by have := B1.size; omega) (fun e => hne (by cases e; rfl)))
    go_wp2_with fail
    go_ret
    exact ⟨(Kp.of_below (S := fun k => k = b ∨ k = br) B1).trans (Kp.grown (S := fun k => k = br) g2 (fun j e => by cases e; rfl)) (fun _ _ e => .inr e), .inr ⟨rfl, HW.out, hR2, r2⟩⟩
end Go.Proofs.YthcmebmohhajaaaDoor

namespace Go.Proofs.YthcmebmohhajaaaDoor
open Go.RowKit
set_option linter.unusedVariables false

theorem sym_pre8 (s : S8) (x n : Nat) : ((rpre8 s).set 7 (.int .i64 (x : Int))).set 1 (.int .i64 (n : Int)) = rpre8 { s with sym := x, nx := n } := rfl
theorem sym_pre81 (s : S8) (x : Nat) : (rpre8 s).set 7 (.int .i64 (x : Int)) = rpre8 { s with sym := x } := rfl
theorem keep_alloc8 {w : World} {b : Nat} {pre : List Value} {zs : List Int} (h : Rb8 w b pre zs) (o : Obj) : Rb8 (w.alloc o) b pre zs := h.keep (((Below.refl w.heap.size w).alloc (Nat.le_refl _) o).block b h.lt)
theorem rd_alloc8 {w : World} {b : Nat} {H : List Bool} {t : Nat} (h : Rd w b H t) (o : Obj) : Rd (w.alloc o) b H t := h.kp (Kp.alloc (S := fun _ => False) w o) (fun e => e)
theorem rd_set8 {w : World} {b br i : Nat} {H : List Bool} {t : Nat} (h : Rd w br H t) (hne : b ≠ br) (v : Value) : Rd (w.setCell ⟨b, i, none⟩ v) br H t := h.kp (Kp.set (S := fun k => k = b) rfl v) (fun e => hne e.symm)
theorem sym_kp8 {w w1 : World} {b br : Nat} (k1 : Kp (fun k => k = br) w w1) (x : Value) (o : Obj) : Kp (fun k => k = b ∨ k = br) w ((w1.setCell ⟨b, 7, none⟩ x).alloc o) :=
  ((k1.mono (S' := fun k => k = b ∨ k = br) (fun _ _ e => .inr e)).set8 (.inl rfl) 7 x).trans (Kp.alloc (S := fun _ => False) _ o) (fun _ _ e => e.elim)
theorem sym_kp82 {w w1 : World} {b br : Nat} (k1 : Kp (fun k => k = br) w w1) (x y : Value) (o : Obj) : Kp (fun k => k = b ∨ k = br) w (((w1.setCell ⟨b, 7, none⟩ x).setCell ⟨b, 1, none⟩ y).alloc o) :=
  (((k1.mono (S' := fun k => k = b ∨ k = br) (fun _ _ e => .inr e)).set8 (.inl rfl) 7 x).set8 (.inl rfl) 1 y).trans (Kp.alloc (S := fun _ => False) _ o) (fun _ _ e => e.elim)
theorem tabs_set8 {w : World} {b i : Nat} (h : TabS w) (hb : b ≠ 0) (v : Value) : TabS (w.setCell ⟨b, i, none⟩ v) := SegZ.kp h (Kp.set (S := fun k => k = b) rfl v) (fun g o e _ => by cases e; exact fun e => hb e.symm)

set_option maxRecDepth 100000 in
set_option maxHeartbeats 2000000 in
theorem tsym8 (b br : Nat) (s : S8) (H : List Bool) (t : Nat) (w : World) (T : TabS w) (hne : b ≠ br) (hb0 : b ≠ 0) (hr0 : br ≠ 0) (h0 : s.nx = 2) (ok : Ok8 s) (hR : RdH w b s) (hr : Rd w br H t) (ht : t ≤ 4611686018427387000) :
    Calls Tryd.prog 27 #[.pointer (some ⟨b, 0, none⟩), .pointer (some ⟨br, 0, none⟩)] w (TkQ w b br s H t) := by
  obtain ⟨zs0, hB, hz⟩ := hR.row
  have hz2 := hz (.inl h0)
  rw [hz2] at hB
  clear hz hz2
  have hbl := hB.lt
  have CN := next8 b 19 s.sz br H t w hB.de hr ht
  have HB : Hid (Rb8 w b (rpre8 s) s.sz) := hB
  have HOK : Hid (Ok8 s) := ok
  clear hB ok
  go_enter Tryd.func27, Tryd.ntmps27
  go_wp2_with fail
  refine CN.mono ?_
  rintro e w1 ⟨hc, k1⟩
  clear CN
  have hB1 : Rb8 w1 b (rpre8 s) s.sz := HB.out.keep (k1.block b hbl hne)
  have c1 := hB1.cell (i := 1) rfl
  have c6 := hB1.cell (i := 6) rfl
  have c7 := hB1.cell (i := 7) rfl
  have f1 := hB1.free 1
  have f7 := hB1.free 7
  have HB1 : Hid (Rb8 w1 b (rpre8 s) s.sz) := hB1
  have hbl1 : b < w1.heap.size := hB1.lt
  have hbn1 : ¬ b = w1.heap.size := by omega
  clear hB1
  rcases hc with ⟨x, hx, rfl, r1⟩ | ⟨hx, hm, rfl, r1⟩ | ⟨hx, hm, rfl, r1⟩
  · have hx19 : x < 19 := by have := hx.1; rw [HOK.out.szl] at this; exact this
    have hx19i : (x : Int) < 19 := by omega
    have T1 : TabS w1 := SegZ.kp T k1 (fun g o e _ => by cases e; exact fun e => hr0 e.symm)
    obtain ⟨t0, t1, t2⟩ := T1.at8 x hx19
    have HO : Hid (One8 s H (sym8 s x) (ln s.sz x)) := One8.sym h0 hx
    have HR1 : Hid (Rd w1 br (H.drop (ln s.sz x)) (t + ln s.sz x)) := r1
    have HK1 : Hid (Kp (fun k => k = br) w w1) := k1
    have HT1 : Hid (TabS w1) := T1
    obtain ⟨N, hN⟩ : ∃ N, N = s.out.length := ⟨_, rfl⟩
    rw [← hN] at c6
    have HN : Hid (N = s.out.length) := hN
    clear hN hx r1 k1 T1 hR hr T
    by_cases h16 : 16 ≤ x
    · have e2p : (0 : Int) < (mor8 (x : Int) : Int) := by unfold mor8; split <;> (try split) <;> (try split) <;> omega
      generalize lst8 (x : Int) = e1 at *
      generalize mor8 (x : Int) = e2 at *
      by_cases hem : x = 16 ∧ s.out = []
      · have hs0 : sln8 (x : Int) = -1 := by unfold sln8; rw [if_pos (by omega)]
        have hN0 : N = 0 := by rw [HN.out, hem.2]; rfl
        have HS : Hid (sym8 s x = { s with sym := x, nx := 5 }) := by show _ = _; unfold sym8; rw [if_pos hem]
        rw [hs0] at t0
        subst hN0
        clear hs0 hem
        go_wp2_with fail
        go_ret
        refine ⟨?_, .inl ⟨rfl, sym8 s x, _, HO.out, ⟨s.sz, ?_, ?_⟩, ?_⟩⟩
        · exact sym_kp82 HK1.out _ _ _
        · rw [HS.out, ← sym_pre8]
          exact keep_alloc8 ((HB1.out.set (i := 7) (by omega) _).set (i := 1) (by omega) _) _
        · intro _
          rw [HS.out]
        · exact rd_alloc8 (rd_set8 (rd_set8 HR1.out hne _) hne _) _
      · have HS : Hid (sym8 s x = { s with sym := x, nx := 3 }) := by show _ = _; unfold sym8; rw [if_neg hem, if_pos h16]
        have hor : x = 16 ∧ N ≠ 0 ∨ x ≠ 16 := by
          by_cases h : x = 16
          · left; refine ⟨h, fun h2 => hem ⟨h, ?_⟩⟩
            rw [HN.out] at h2
            exact List.length_eq_zero_iff.1 h2
          · exact .inr h
        rcases hor with ⟨h6, hN0⟩ | h6
        · have hs0 : sln8 (x : Int) = -1 := by unfold sln8; rw [if_pos (by omega)]
          have hN1 : ¬ (N : Int) = 0 := by omega
          rw [hs0] at t0
          clear hs0 hem h6 h16
          go_wp2_with fail
          go_ret
          refine ⟨?_, .inl ⟨rfl, sym8 s x, _, HO.out, ⟨s.sz, ?_, ?_⟩, ?_⟩⟩
          · exact sym_kp82 HK1.out _ _ _
          · rw [HS.out, ← sym_pre8]
            exact keep_alloc8 ((HB1.out.set (i := 7) (by omega) _).set (i := 1) (by omega) _) _
          · intro _
            rw [HS.out]
          · exact rd_alloc8 (rd_set8 (rd_set8 HR1.out hne _) hne _) _
        · have hs0 : sln8 (x : Int) = 0 := by unfold sln8; rw [if_neg (by omega), if_pos (by omega)]
          rw [hs0] at t0
          clear hs0 hem h6 h16
          go_wp2_with fail
          go_ret
          refine ⟨?_, .inl ⟨rfl, sym8 s x, _, HO.out, ⟨s.sz, ?_, ?_⟩, ?_⟩⟩
          · exact sym_kp82 HK1.out _ _ _
          · rw [HS.out, ← sym_pre8]
            exact keep_alloc8 ((HB1.out.set (i := 7) (by omega) _).set (i := 1) (by omega) _) _
          · intro _
            rw [HS.out]
          · exact rd_alloc8 (rd_set8 (rd_set8 HR1.out hne _) hne _) _
    · have hs0 : sln8 (x : Int) = x := by unfold sln8; rw [if_neg (by omega), if_neg (by omega)]
      have hm0 : mor8 (x : Int) = 0 := by unfold mor8; rw [if_neg (by omega), if_neg (by omega), if_neg (by omega)]
      have hl0 : lst8 (x : Int) = 1 := by unfold lst8; rw [if_neg (by omega), if_neg (by omega)]
      rw [hs0] at t0
      rw [hm0] at t2
      rw [hl0] at t1
      have hxn : ¬ (x : Int) = -1 := by omega
      have HS : Hid (sym8 s x = lay8 { s with sym := x } 1) := by show _ = _; unfold sym8; rw [if_neg (by omega), if_neg h16]
      obtain ⟨W, hW⟩ : ∃ W, W = (w1.setCell ⟨b, 7, none⟩ (.int .i64 (x : Int))).alloc (.cells #[.int .i64 (x : Int), .int .i64 1, .int .i64 0] 92) := ⟨_, rfl⟩
      have a2 := HOK.out.at2 (.inl h0)
      have CL := play8 b { s with sym := x } s.sz 1 W (by rw [hW]; exact SegZ.old (tabs_set8 HT1.out hb0 _) ((Below.refl _ _).alloc (Nat.le_refl _) _)) (by rw [hW]; exact keep_alloc8 (HB1.out.set (i := 7) (by omega) _) _) HOK.out.szl HOK.out.ob a2.2.2.1 a2.2.2.2.1 HOK.out.ol (by omega) (show x ≤ 18 by omega) (fun e => absurd (show x = 16 from e) (by omega))
      have HK : Hid (Kp (fun k => k = b ∨ k = br) w W) := by rw [hW]; exact sym_kp8 HK1.out _ _
      have HRW : Hid (Rd W br (H.drop (ln s.sz x)) (t + ln s.sz x)) := by rw [hW]; exact rd_alloc8 (rd_set8 HR1.out hne _) _
      have HP : Hid (∀ Q, Calls Tryd.prog 43 #[.pointer (some ⟨b, 0, none⟩), .int .i64 1] W Q → Calls Tryd.prog 43 #[.pointer (some ⟨b, 0, none⟩), .int .i64 1] ((w1.setCell ⟨b, 7, none⟩ (.int .i64 (x : Int))).alloc (.cells #[.int .i64 (x : Int), .int .i64 1, .int .i64 0] 92)) Q) := by rw [hW]; exact fun _ h => h
      have HCL : Hid (Calls Tryd.prog 43 #[.pointer (some ⟨b, 0, none⟩), .int .i64 1] W fun e w' => e = .returned (.tuple #[]) ∧ Rb8 w' b (rpre8 (lay8 { s with sym := x } 1)) s.sz ∧ Kp (fun k => k = b) W w') := CL
      clear CL hW a2 hs0 hm0 hl0 h16
      go_wp2_with fail
      refine HP.out _ (HCL.out.mono ?_)
      rintro e w3 ⟨rfl, r3, k3⟩
      have R3 : Hid (Rb8 w3 b (rpre8 (sym8 s x)) s.sz) := by rw [HS.out]; exact r3
      have R4 : Hid (Rd w3 br (H.drop (ln s.sz x)) (t + ln s.sz x)) := HRW.out.kp k3 (fun e => hne e.symm)
      have K3 : Hid (Kp (fun k => k = b ∨ k = br) w w3) := HK.out.trans k3 (fun _ _ e => .inl e)
      have Z3 : Hid ((sym8 s x).nx = 2 ∨ (sym8 s x).nx = 3 → s.sz = (sym8 s x).sz) := fun _ => by rw [HS.out]; unfold lay8; split <;> rfl
      clear r3 k3
      go_wp2_with fail
      go_ret
      exact ⟨K3.out, .inl ⟨rfl, _, _, HO.out, ⟨s.sz, R3.out, Z3.out⟩, R4.out⟩⟩
  · have HW : Hid (Wait8 s H) := .inr (.inr (.inl ⟨h0, hx, hm⟩))
    have HR : Hid (RdH w1 b s) := ⟨s.sz, HB1.out, fun _ => rfl⟩
    clear hx hm
    go_wp2_with fail
    go_ret
    exact ⟨k1.mono (fun _ _ e => .inr e), .inr ⟨rfl, HW.out, HR.out, r1⟩⟩
  · have HO : Hid (One8 s H { s with nx := 5 } 0) := One8.bad h0 hx hm
    clear hx hm
    go_wp2_with fail
    go_ret
    refine ⟨(k1.mono (S' := fun k => k = b ∨ k = br) (fun _ _ e => .inr e)).set8 (.inl rfl) 1 _, .inl ⟨rfl, _, 0, HO.out, ⟨s.sz, ?_, fun _ => rfl⟩, rd_set8 r1 hne _⟩⟩
    exact HB1.out.set (i := 1) (by omega) (.int .i64 5)
end Go.Proofs.YthcmebmohhajaaaDoor

namespace Go.Proofs.YthcmebmohhajaaaDoor
open Go.RowKit
set_option linter.unusedVariables false

theorem take_eq_succ8 {A B : List Int} {j : Nat} (hA : j < A.length) (hB : j < B.length) (h : A.take j = B.take j) (he : A.getD j 0 = B.getD j 0) : A.take (j + 1) = B.take (j + 1) := by
  rw [List.take_add_one, List.take_add_one, h]
  simp only [List.getD, List.getElem?_eq_getElem hA, List.getElem?_eq_getElem hB, Option.getD_some] at he
  simp [hA, hB, he]
theorem run_part8 {P : Program} (w : World) (e : TypeId) (k : IntKind) (A : List Int) (i : Nat) (hi : i < A.length) (he : P.underlying e = some (.int k)) :
    (part e (A.map (Value.int k)).toArray i).run P w = .ok (.int k (A.getD i 0)) w := by
  have hagg : (isAgg e).run P w = .ok false w := by
    unfold isAgg
    rw [Sem.run_bind, run_underlying he w]
    simp
  have hc : (A.map (Value.int k)).toArray[i]? = some (.int k (A.getD i 0)) := by simp [List.getD, hi]
  simp [part, Sem.run_bind, hagg, hc]
/-- Two arrays of ints are held against each other. -/
theorem run_equalIn_arr8 {P : Program} (w : World) (d : Nat) (t e : TypeId) (n : Nat) (k : IntKind) (A B : List Int) (hA : A.length = n) (hB : B.length = n) (ht : P.underlying t = some (.array n e)) (he : P.underlying e = some (.int k)) (hi : (P.info? e).map (·.size) = some 1) :
    (Op.equalIn (d + 2) t (.agg (A.map (Value.int k)).toArray) (.agg (B.map (Value.int k)).toArray)).run P w = .ok (decide (A = B)) w := by
  have E : ∀ (w : World) (x y : Int), (Op.equalIn (d + 1) e (.int k x) (.int k y)).run P w = .ok (x == y) w := fun w x y => run_equalIn_int w d e k k x y he
  show (Op.equalIn ((d + 1) + 1) t (.agg (A.map (Value.int k)).toArray) (.agg (B.map (Value.int k)).toArray)).run P w = _
  generalize d + 1 = d1 at *
  cases hq : P.info? e with
  | none => simp [hq] at hi
  | some i =>
    have hs : i.size = 1 := by simpa [hq] using hi
    have hsz : (sizeOf e).run P w = .ok 1 w := by simp [sizeOf, typeInfo, hq, hs]
    simp only [Op.equalIn, Sem.run_bind, run_underlying ht, Result.andThen_ok, hsz, Std.Legacy.Range.forIn_eq_forIn_range', Std.Legacy.Range.size]
    have hL : ∃ j, List.range' 0 ((n - 0 + 1 - 1) / 1) 1 = List.range' j (n - j) 1 ∧ j ≤ n ∧ A.take j = B.take j := ⟨0, by simp, by omega, by simp⟩
    generalize List.range' 0 ((n - 0 + 1 - 1) / 1) 1 = L at hL ⊢
    induction L with
    | nil =>
      obtain ⟨j, h1, h2, h3⟩ := hL
      have hj : n - j = 0 := by have := congrArg List.length h1; simpa using this.symm
      have hj : j = n := by omega
      subst hj
      rw [List.take_of_length_le (by omega), List.take_of_length_le (by omega)] at h3
      simp [h3]
    | cons a L ih =>
      obtain ⟨j, h1, h2, h3⟩ := hL
      obtain ⟨m, hm⟩ : ∃ m, n - j = m + 1 := by
        cases hn : n - j with
        | zero => rw [hn] at h1; simp at h1
        | succ m => exact ⟨m, rfl⟩
      rw [hm, List.range'_succ] at h1
      injection h1 with h4 h5
      subst h4
      have hjA : a < A.length := by omega
      have hjB : a < B.length := by omega
      simp only [List.forIn_cons, Sem.run_bind, Nat.mul_one, run_part8 w e k A a hjA he, run_part8 w e k B a hjB he, Result.andThen_ok, E]
      by_cases heq : A.getD a 0 = B.getD a 0
      · have := ih ⟨a + 1, by rw [h5]; congr 1; omega, by omega, take_eq_succ8 hjA hjB h3 heq⟩
        rw [heq]
        generalize B.getD a 0 = y at *
        simpa using this
      · have hne : A ≠ B := fun h => heq (by rw [h])
        generalize A.getD a 0 = x at *
        generalize B.getD a 0 = y at *
        simp [heq, hne]
end Go.Proofs.YthcmebmohhajaaaDoor
