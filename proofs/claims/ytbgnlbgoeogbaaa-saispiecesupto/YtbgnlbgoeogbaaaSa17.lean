
import Derived.Test.YtbgnlbgoeogbaaaSaL1
namespace Go.Proofs.Ytbgnlbgoeogbaaa
open Go.RowKit
set_option linter.unusedVariables false

/-! The landed areTurns and Induce, of an order of the turns. -/
def se12 (n : Nat) (A : List Nat) (k : Nat) : List Bool := (List.range n).map (fun q => decide (q ∈ A.take k))
theorem se12_len (n : Nat) (A : List Nat) (k : Nat) : (se12 n A k).length = n := by simp [se12]
theorem se12_get (n : Nat) (A : List Nat) (k q : Nat) (h : q < n) : (se12 n A k).getD q false = decide (q ∈ A.take k) := by simp [se12, List.getD, h]
theorem se12_zero (n : Nat) (A : List Nat) : se12 n A 0 = List.replicate n false := by
  refine ext12 (d := false) (by simp [se12]) fun i hi => ?_
  rw [se12_len] at hi
  rw [se12_get n A 0 i hi]
  simp [List.getD, hi]
theorem se12_set (n : Nat) (A : List Nat) (k : Nat) (h : k < A.length) (hn : A.getD k 0 < n) : (se12 n A k).set (A.getD k 0) true = se12 n A (k + 1) := by
  have e : A.take (k + 1) = A.take k ++ [A.getD k 0] := by rw [List.take_add_one]; simp [List.getD, h]
  refine ext12 (d := false) (by simp [se12]) fun q hq => ?_
  rw [List.length_set, se12_len] at hq
  rw [getD_set12 _ _ _ _ (by rw [se12_len]; exact hn), se12_get n A k q hq, se12_get n A (k + 1) q hq, e]
  by_cases c : q = A.getD k 0
  · subst c; rw [if_pos rfl]; simp
  · rw [if_neg c]
    simp only [List.mem_append, List.mem_singleton, c, or_false]
theorem se12_new {A : List Nat} (hA : A.Nodup) {k : Nat} (h : k < A.length) : A.getD k 0 ∉ A.take k := by
  intro hm
  obtain ⟨q, hq, e⟩ := List.mem_iff_getElem.1 hm
  simp only [List.length_take] at hq
  rw [List.getElem_take] at e
  have e2 : A.getD k 0 = A[k] := by simp [List.getD, h]
  rw [e2] at e
  exact List.pairwise_iff_getElem.1 hA q k (by omega) h (by omega) e
set_option maxRecDepth 100000 in
set_option maxHeartbeats 2000000 in
theorem pat12 (b : Nat) (a : Option Addr) (n cap : Nat) (s : List Int) (K gs gf gn : Nat) (nx : List Int) (oa : Option Addr) (o : List Nat) (m oc : Nat) (w : World) (h : Li12 w b a n cap s K gs gf gn nx) (hW : Wf12 s n K) (ho : Or12 n (sm12 s) o) (hm : Hid (o.length = m)) (hseg : SegZ w oa (nz12 o)) :
    Calls Try.prog 39 #[.pointer (some ⟨b, 0, none⟩), .slice oa m oc] w fun e w' => e = .returned (.bool true) ∧ Below w.heap.size w w' := by
  have n24 := hW.n24
  have hn : Hid (s.length = n) := hW.len
  have HOR : Or12 n (sm12 s) (tns12 s) := by have := tns12_or s; rw [hn.out] at this; exact this
  have HLN : Hid ((nz12 (tns12 s)).length = m) := by show _ = _; rw [nz12_len, HOR.len ho, hm.out]
  have hmn : m ≤ n := by
    have h5 : (tns12 s).length ≤ n := by rw [← tu12_tns s hn.out]; exact tu12_le _ _
    rw [HOR.len ho, hm.out] at h5
    exact h5
  have HM := run_make_b12 n (by omega) w
  have hal : Below w.heap.size w (w.alloc (.cells (vb12 (List.replicate n false)) 4)) := (Below.refl _ _).alloc (Nat.le_refl _) _
  have hr0 : Rb12 (w.alloc (.cells (vb12 (List.replicate n false)) 4)) w.heap.size (se12 n o 0) := by rw [se12_zero]; exact Rb12.new w _
  have q0 := h.c0
  have HL : Hid (∀ w', Below w.heap.size w w' → Li12 w' b a n cap s K gs gf gn nx) := fun w' hb => h.old hb
  have HSG : Hid (∀ w', Below w.heap.size w w' → SegZ w' oa (nz12 o)) := fun w' hb => hseg.old hb
  have HEL : Hid (∀ k, k < m → o.getD k 0 < n ∧ (nz12 o).getD k 0 = ((o.getD k 0 : Nat) : Int) ∧ tb12 (sm12 s) (o.getD k 0) = true ∧ (se12 n o k).getD (o.getD k 0) false = false ∧ (se12 n o k).set (o.getD k 0) true = se12 n o (k + 1)) := fun k hk => by
    have hk2 : k < o.length := by rw [hm.out]; exact hk
    have h5 := (ho.mem _).1 (getD_mem12 (d := 0) hk2)
    refine ⟨h5.1, nz12_get o k 0 hk2, tb12_iff.2 h5.2, ?_, se12_set n o k hk2 h5.1⟩
    rw [se12_get n o k _ h5.1]
    exact decide_eq_false (se12_new ho.nd hk2)
  have HTI : Hid (∀ w' j, Below w.heap.size w w' → j < n → Calls Try.prog 51 #[.slice (some ⟨gs, 0, none⟩) n n, .int .i64 (j : Int)] w' fun e w2 => e = .returned (.bool (tb12 (sm12 s) j)) ∧ Below w'.heap.size w' w2) := by
    intro w' j hb hj
    have := pist12 (some ⟨gs, 0, none⟩) (typ12 s) n n j w' (h.sm.old hb).seg (by show _ = _; rw [typ12_len, hn.out]) hj (by omega)
    rw [typ12_gb] at this
    exact this
  have HTN : Hid (∀ w', Below w.heap.size w w' → Calls Try.prog 41 #[.slice (some ⟨gs, 0, none⟩) n n] w' fun e w2 => ∃ ra rc, e = .returned (.slice ra m rc) ∧ Below w'.heap.size w' w2) := fun w' hb => by
    have h5 := ptns12 (some ⟨gs, 0, none⟩) (typ12 s) n n w' (h.sm.old hb).seg (by show _ = _; rw [typ12_len, hn.out]) (by omega)
    rw [tu12_tns s hn.out] at h5
    refine h5.mono ?_
    rintro e w2 ⟨ra, rc, he, _, b2⟩
    rw [HLN.out] at he
    exact ⟨ra, rc, he, b2⟩
  have HNO : Hid ((nz12 o).length = m) := by show _ = _; rw [nz12_len, hm.out]
  clear h hW ho hseg HOR
  generalize hg : w.heap.size = g at *
  generalize hw1 : w.alloc (.cells (vb12 (List.replicate n false)) 4) = w1 at *
  have HG : Hid (w.heap.size = g) := hg
  clear hg hw1
  go_enter Try.func39, Try.ntmps39
  go_wp2_with fail
  go_loopw [16] (fun ti wr => ∃ k : Nat, k ≤ m ∧ ti = .int .i64 k ∧ Rb12 wr g (se12 n o k) ∧ Below g w wr) (fun ti _ => m - (intOf ti).toNat)
  case atStart => exact ⟨0, Nat.zero_le _, rfl, hr0, hal⟩
  case round =>
    obtain ⟨k, hk, rfl, hR, hb⟩ := hrel
    by_cases h1 : k < m
    · have h1i : (k : Int) < (m : Int) := by omega
      obtain ⟨hj, ej, et, es, eset⟩ := HEL.out k h1
      obtain ⟨ob, off, rfl, c1⟩ := (HSG.out wr hb).at_ k (by rw [HNO.out]; exact h1)
      rw [ej] at c1
      have q1 := (HL.out wr hb).c1
      have c2 := hR.cell (i := o.getD k 0) (by rw [se12_len]; exact hj)
      rw [es] at c2
      have HC := HTI.out wr (o.getD k 0) hb hj
      rw [et] at HC
      have HST : Hid (∀ w2, Below wr.heap.size wr w2 → w2.cell? ⟨g, o.getD k 0, none⟩ = some (.bool false) ∧ w2.frozen? ⟨g, o.getD k 0, none⟩ = false ∧ Rb12 (w2.setCell ⟨g, o.getD k 0, none⟩ (.bool true)) g (se12 n o (k + 1)) ∧ Below g w (w2.setCell ⟨g, o.getD k 0, none⟩ (.bool true))) := by
        intro w2 b2
        have hR2 := hR.old b2
        have c3 := hR2.cell (i := o.getD k 0) (by rw [se12_len]; exact hj)
        rw [es] at c3
        have h5 := hR2.set (o.getD k 0) true
        rw [eset] at h5
        have hsz : g ≤ wr.heap.size := by have := hR.lt; omega
        exact ⟨c3, hR2.free _, h5, (hb.trans (b2.mono hsz)).trans ((Kp.set (S := fun j => j = g) rfl _).below (fun j h => by omega) (Nat.le_trans hsz b2.size))⟩
      have hj1 : ¬ ((o.getD k 0 : Nat) : Int) < 0 := by omega
      have hj2 : ¬ (n : Int) ≤ ((o.getD k 0 : Nat) : Int) := by omega
      have hj3 : ((o.getD k 0 : Nat) : Int) < (n : Int) := by omega
      have hjm : ¬ n ≤ o.getD k 0 := by omega
      clear ej et es eset hR
      generalize o.getD k 0 = j at *
      go_wp2_with (first | (go_at_call 51; refine HC.mono ?_; rintro e2 w2 ⟨rfl, B2⟩; obtain ⟨k1, k2, s1, s2⟩ := HST.out w2 B2))
      go_roundw
      case rel => exact ⟨k + 1, by omega, by go_num, s1, s2⟩
      case measure => simp [intOf]; omega
    · have h1i : ¬ (k : Int) < (m : Int) := by omega
      have q1 := (HL.out wr hb).c1
      have HT := HTN.out wr hb
      go_wp2_with (first | (go_at_call 41; refine HT.mono ?_; rintro e2 w2 ⟨ra, rc, rfl, B2⟩))
      go_ret
      exact ⟨rfl, hb.trans (B2.mono (by have := hb.size; have := HG.out; omega))⟩
def IdQ12 (w : World) (s : List Int) (o : List Nat) (n : Nat) (e : Ending) (w' : World) : Prop := ∃ g, e = .returned (.tuple #[.slice (some ⟨g, 0, none⟩) n n, .int .i64 0]) ∧ Rz12 w' g (il12 s o) ∧ w.heap.size ≤ g ∧ Below w.heap.size w w'
set_option maxRecDepth 100000 in
set_option maxHeartbeats 2000000 in
theorem pidu12 (k : Int) (a oa : Option Addr) (s : List Int) (o : List Nat) (n cap m oc : Nat) (w : World) (hs : SegZ w a s) (hn : Hid (s.length = n)) (hk : -9223372036854775808 ≤ k ∧ k ≤ 9223372036854775807) (hr : Hid (ref12 k s = 0)) (ho : Or12 n (sm12 s) o) (hm : Hid (o.length = m)) (hseg : SegZ w oa (nz12 o)) :
    Calls Try.prog 17 #[.int .i64 k, .slice a n cap, .slice oa m oc] w (IdQ12 w s o n) := by
  have hW := ref12_ok hn.out hr.out
  have n24 := hW.n24
  have HR := pref12 k a s n cap w hs hn (by omega) hk
  rw [hr.out] at HR
  have HN : Hid (∀ w1, Below w.heap.size w w1 → Calls Try.prog 38 #[.slice a n cap] w1 fun e w' => ∃ b gs gf gn, e = .returned (.pointer (some ⟨b, 0, none⟩)) ∧ Li12 w' b a n cap s (mx12 s) gs gf gn (List.replicate (mx12 s) 0) ∧ w1.heap.size ≤ gn ∧ Below w1.heap.size w1 w') := fun w1 b1 => pnl12 a s n cap _ w1 (hs.old b1) hW
  have hmn : m ≤ 16777216 := by
    have h5 := nodup_len12 o (List.range n) ho.nd (fun j hj => List.mem_range.2 (ho.small j hj).1)
    rw [hm.out] at h5
    simp at h5
    omega
  have HA : Hid (∀ w2 b gs gf gn nx, Li12 w2 b a n cap s (mx12 s) gs gf gn nx → Below w.heap.size w w2 → Calls Try.prog 39 #[.pointer (some ⟨b, 0, none⟩), .slice oa m oc] w2 fun e w' => e = .returned (.bool true) ∧ Below w2.heap.size w2 w') := fun w2 b gs gf gn nx L b2 => pat12 b a n cap s (mx12 s) gs gf gn nx oa o m oc w2 L hW.mx ho hm (hseg.old b2)
  have HI : Hid (∀ w2 b gs gf gn nx, Li12 w2 b a n cap s (mx12 s) gs gf gn nx → Below w.heap.size w w2 → w.heap.size ≤ gn → Calls Try.prog 40 #[.pointer (some ⟨b, 0, none⟩), .slice oa m oc] w2 fun e w' => e = .returned (.slice (some ⟨w2.heap.size, 0, none⟩) n n) ∧ Rz12 w' w2.heap.size (il12 s o) ∧ (∃ nx', Li12 w' b a n cap s (mx12 s) gs gf gn nx') ∧ Kp (fun k => k = gn) w2 w') := fun w2 b gs gf gn nx L b2 hg => pind12 b a n cap s (mx12 s) gs gf gn nx oa o m oc w2 L hW.mx ho hm hmn (hseg.old b2) (fun x off hx hp => by have := hseg.lt x off hx hp; omega)
  clear hW ho hseg
  go_enter Try.func17, Try.ntmps17
  go_wp2_with (first
    | (go_at_call 33; refine HR.mono ?_; rintro e1 w1 ⟨rfl, B1⟩)
    | (go_at_call 38; refine (HN.out w1 B1).mono ?_; rintro e2 w2 ⟨b, gs, gf, gn, rfl, L2, hgn, B2⟩; have C2 := B1.trans (B2.mono B1.size); have hgw := Nat.le_trans B1.size hgn)
    | (go_at_call 39; refine (HA.out w2 b gs gf gn _ L2 C2).mono ?_; rintro e3 w3 ⟨rfl, B3⟩; have C3 := C2.trans (B3.mono C2.size))
    | (go_at_call 40; refine (HI.out w3 b gs gf gn _ (L2.old B3) C3 hgw).mono ?_; rintro e4 w4 ⟨rfl, R4, _, K4⟩))
  refine bodyPost_ret (results_tmp2 rfl _ _ _) rfl ?_
  exact ⟨w3.heap.size, rfl, R4, C3.size, C3.trans (K4.below (fun i e => by omega) C3.size)⟩
end Go.Proofs.Ytbgnlbgoeogbaaa
