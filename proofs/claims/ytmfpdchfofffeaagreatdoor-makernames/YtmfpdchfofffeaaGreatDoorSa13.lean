import Derived.Test.YtmfpdchfofffeaaGreatDoorSa11
import Derived.Test.YtmfpdchfofffeaaGreatDoorSaM5
import Derived.Laws.MakeOwn
namespace Go.Proofs.YtmfpdchfofffeaaGreatDoor
open Go.RowKit
set_option linter.unusedVariables false
set_option maxRecDepth 100000 in
set_option maxHeartbeats 4000000 in
theorem pto12 (b : Nat) (a : Option Addr) (n cap : Nat) (s : List Int) (K gs gf gn gr : Nat) (nx : List Int) (A : List Nat) (m : Nat) (w : World) (h : Li12 w b a n cap s K gs gf gn nx) (hW : Wf12 s n K) (hr : Rz12 w gr (nz12 A)) (hA : A.length = n) (hAl : ∀ j ∈ A, j < n) (hm : m ≤ 16777216) :
    Calls Tryz.prog 198 #[.pointer (some ⟨b, 0, none⟩), .slice (some ⟨gr, 0, none⟩) n n, .int .i64 (m : Int)] w (AnsZ12 w (nz12 (by12 (sm12 s) A))) := by
  have n24 := hW.n24
  have hn : Hid (s.length = n) := hW.len
  obtain ⟨i0, hi, hz0, hz1, hz2⟩ := info_parts info_i12
  have HC0 : Hid (∀ w', Below w.heap.size w w' → w'.cell? ⟨b, 1, none⟩ = some (.slice (some ⟨gs, 0, none⟩) n n)) := fun w' hb => by
    have q := (hb.block b h.lt).trans h.hp
    simp [World.cell?, q]
  have HSM : Hid (∀ w', Below w.heap.size w w' → Rb12 w' gs (typ12 s)) := fun w' hb => h.sm.old hb
  have HRO : Hid (∀ w', Below w.heap.size w w' → Rz12 w' gr (nz12 A)) := fun w' hb => hr.old hb
  have HTI : Hid (∀ w' j, Below w.heap.size w w' → j < n → Calls Tryz.prog 226 #[.slice (some ⟨gs, 0, none⟩) n n, .int .i64 (j : Int)] w' fun e w2 => e = .returned (.bool (tb12 (sm12 s) j)) ∧ Below w'.heap.size w' w2) := by
    intro w' j hb hj
    have := pist12 (some ⟨gs, 0, none⟩) (typ12 s) n n j w' (HSM.out w' hb).seg (by show _ = _; rw [typ12_len, hn.out]) hj (by omega)
    rw [show gb12 (typ12 s) = sm12 s from funext (typ12_get s)] at this
    exact this
  have HLE : Hid (∀ k, ((A.take k).filter (tb12 (sm12 s))).length ≤ k) := fun k => Nat.le_trans (List.length_filter_le _ _) (List.length_take_le k A)
  have HST : Hid (∀ k, k < n → (A.take (k + 1)).filter (tb12 (sm12 s)) = if tb12 (sm12 s) (A.getD k 0) = true then (A.take k).filter (tb12 (sm12 s)) ++ [A.getD k 0] else (A.take k).filter (tb12 (sm12 s))) := by
    intro k hk
    have hk2 : k < A.length := by rw [hA]; exact hk
    have e : A.take (k + 1) = A.take k ++ [A.getD k 0] := by rw [List.take_add_one]; simp [List.getD, hk2]
    rw [e, List.filter_append]
    by_cases ht : tb12 (sm12 s) (A.getD k 0) = true
    · simp only [List.filter_cons, ht, if_true, List.filter_nil]
    · simp only [List.filter_cons, ht, List.filter_nil]; simp
  have HEL : Hid (∀ k, k < n → A.getD k 0 < n ∧ (nz12 A).getD k 0 = ((A.getD k 0 : Nat) : Int)) := fun k hk => ⟨by
    have hk2 : k < A.length := by rw [hA]; exact hk
    have : A.getD k 0 = A[k] := by simp [List.getD, hk2]
    rw [this]; exact hAl _ (List.getElem_mem hk2), nz12_get A k 0 (by rw [hA]; exact hk)⟩
  have HFA : Hid ((A.take n).filter (tb12 (sm12 s)) = by12 (sm12 s) A) := by show _ = _; rw [List.take_of_length_le (by rw [hA]; exact Nat.le_refl n)]; rfl
  obtain ⟨w1, HM1, own1, g1⟩ := run_make_own (P := Tryz.prog) (w := w) w.heap.size 95 3 i0 (.int .i64 0) 1 Tryz.underlying95 hi hz0 hz1 .i64 .i64 m (by rw [hz2]; omega) (by unfold maxLen; omega) (Nat.le_refl _)
  have hb1 : Below w.heap.size w w1 := (Below.refl _ _).grown g1 (Nat.le_refl _) (fun k hk => by cases hk)
  have HNL : Hid ((nz12 A).length = n) := by show _ = _; rw [nz12_len, hA]
  clear h hW hr hA hAl g1
  go_enter Tryz.func198, Tryz.ntmps198
  go_wp2_with fail
  go_loopw [7, 14] (fun to ti wr => ∃ (k c rc : Nat) (ra : Option Addr), k ≤ n ∧ ti = .int .i64 k ∧ to = .slice ra c rc ∧ Hid (((A.take k).filter (tb12 (sm12 s))).length = c) ∧ wr.ownsRow w.heap.size 3 1 (.slice ra c rc) c ((nz12 ((A.take k).filter (tb12 (sm12 s)))).map (Value.int .i64)) ∧ Below w.heap.size w wr) (fun _ ti _ => n - (intOf ti).toNat)
  case atStart => exact ⟨0, 0, m, _, Nat.zero_le _, rfl, rfl, (by simp : _ = _), own1, hb1⟩
  case round =>
    obtain ⟨k, c, rc, ra, hk, rfl, rfl, HM, hown, hb2⟩ := hrel
    have hsz : w.heap.size ≤ wr.heap.size := hb2.size
    have hck : c ≤ k := by rw [← HM.out]; exact HLE.out k
    by_cases h1 : k < n
    · have h1i : (k : Int) < (n : Int) := by omega
      obtain ⟨hj, ej⟩ := HEL.out k h1
      have c1 := (HRO.out wr hb2).cell (i := k) (by rw [HNL.out]; exact h1)
      rw [ej] at c1
      have q1 := HC0.out wr hb2
      have HC := HTI.out wr (A.getD k 0) hb2 hj
      have HS := HST.out k h1
      have HS2 : Hid _ := HS
      clear HS ej
      generalize A.getD k 0 = j at *
      generalize tb12 (sm12 s) j = t at *
      generalize (A.take k).filter (tb12 (sm12 s)) = T at *
      cases t
      · go_wp2_with (first | (go_at_call 226; refine HC.mono ?_; rintro e1 w2 ⟨rfl, B1⟩))
        go_roundw
        case rel => exact ⟨k + 1, c, rc, ra, by omega, by go_num, rfl, (by rw [HS2.out]; exact HM.out : _ = _), by rw [HS2.out]; exact own_below hown B1, hb2.trans (B1.mono hsz)⟩
        case measure => simp [intOf]; omega
      · have hown2 : ∀ w2, Below wr.heap.size wr w2 → w2.ownsRow w.heap.size 3 1 (.slice ra c rc) c ((nz12 T).map (Value.int .i64)) := fun w2 B1 => own_below hown B1
        go_wp2_with (first
          | (go_at_call 226; refine HC.mono ?_; rintro e1 w2 ⟨rfl, B1⟩; have OX := hown2 w2 B1; have hsz1 : w.heap.size ≤ w2.heap.size := Nat.le_trans hsz B1.size)
          | (at_builtin; refine wpList_ap12 rfl (.tmp 24) (.tmp 26) 95 rfl w.heap.size 3 i0 (.int .i64 0) 8 Tryz.underlying95 hi hz0 hz1 hz2 rfl w2 _ OX rfl rfl (by omega) (by omega) hsz1 ?_; intro ga gc w3 own3 hk3 hat3))
        have B3 : Below w.heap.size w w3 := (hb2.trans (B1.mono hsz)).trans (hk3.below (fun q e => (OX.lt q e).1) hsz1)
        go_roundw
        case rel => exact ⟨k + 1, c + 1, gc, some ⟨ga, 0, none⟩, by omega, by go_num, rfl, (by rw [HS2.out]; simp [HM.out] : _ = _), by rw [HS2.out]; simpa [nz12] using own3, B3⟩
        case measure => simp [intOf]; omega
    · have h1i : ¬ (k : Int) < (n : Int) := by omega
      obtain rfl : k = n := by omega
      rw [HFA.out] at HM hown
      go_wp2_with fail
      go_ret
      refine ⟨ra, rc, ?_, ?_, hb2⟩
      · (try rw [nz12_len]); rw [HM.out]; rfl
      · (try rw [nz12_len]); rw [HM.out]; exact hown
end Go.Proofs.YtmfpdchfofffeaaGreatDoor
