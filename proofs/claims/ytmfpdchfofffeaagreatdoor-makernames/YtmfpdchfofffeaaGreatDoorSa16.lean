import Derived.Test.YtmfpdchfofffeaaGreatDoorSa15
namespace Go.Proofs.YtmfpdchfofffeaaGreatDoor
open Go.RowKit
set_option linter.unusedVariables false
set_option maxRecDepth 100000 in
set_option maxHeartbeats 2000000 in
theorem psrt12 (n : Nat) : ∀ (a : Option Addr) (s : List Int) (cap M : Nat) (w : World), SegZ w a s → Wf12 s n M → Calls Tryz.prog 122 #[.slice a n cap] w (SrtQ12 w s n) := by
  induction n using Nat.strongRecOn with
  | ind n ih =>
    intro a s cap M w hs hW
    have hn : Hid (s.length = n) := hW.len
    have hty : Ty12 n (S12 s) (sm12 s) := by have := ty12 s; rw [hn.out] at this; exact this
    have HNL := pnl12 a s n cap M w hs hW
    have HRK : Hid (∀ w1 b gs gf gn, Li12 w1 b a n cap s (mx12 s) gs gf gn (List.replicate (mx12 s) 0) → Calls Tryz.prog 165 #[.pointer (some ⟨b, 0, none⟩)] w1 (RkQ12 w1 b a n cap s (mx12 s) gs gf gn)) :=
      fun w1 b gs gf gn L => prk12 b a n cap s (mx12 s) gs gf gn _ w1 L hW.mx (fun a' s' n' c' M' w' hlt h1 h2 => ih n' hlt a' s' c' M' w' h1 h2)
    have HIN : Hid (∀ w2 b gs gf gn nx2 ra o m rc, Li12 w2 b a n cap s (mx12 s) gs gf gn nx2 → Or12 n (sm12 s) o → Hid (o.length = m) → m ≤ 16777216 → SegZ w2 ra (nz12 o) → (∀ x off, ra = some ⟨x, off, none⟩ → 0 < (nz12 o).length → x ≠ gn) → Calls Tryz.prog 164 #[.pointer (some ⟨b, 0, none⟩), .slice ra m rc] w2 fun e w' => e = .returned (.slice (some ⟨w2.heap.size, 0, none⟩) n n) ∧ Rz12 w' w2.heap.size (il12 s o) ∧ (∃ nx', Li12 w' b a n cap s (mx12 s) gs gf gn nx') ∧ Kp (fun k => k = gn) w2 w') :=
      fun w2 b gs gf gn nx2 ra o m rc L ho hm hmb hsg hne => pind12 b a n cap s (mx12 s) gs gf gn nx2 ra o m rc w2 L hW.mx ho hm hmb hsg hne
    have HFI : Hid (∀ w3 g o, Or12 n (sm12 s) o → o.Pairwise (Ls12 n (S12 s)) → Rz12 w3 g (il12 s o) → ∃ A, Rz12 w3 g (nz12 A) ∧ Ar12 n (S12 s) A) := by
      intro w3 g o ho hso R3
      have hpm := ind12_pm (S := S12 s) hty ho
      refine ⟨row12 n (ind12 n (S12 s) (sm12 s) o), ?_, ar12_ind hty ho hso⟩
      have e : il12 s o = nz12 (row12 n (ind12 n (S12 s) (sm12 s) o)) := by
        unfold il12 nz12
        rw [hn.out, row12_ints hpm]
      rw [← e]; exact R3
    clear ih hW
    go_enter Tryz.func122, Tryz.ntmps122
    go_wp2_with (first
      | (go_at_call 163; refine HNL.mono ?_; rintro e1 w1 ⟨b, gs, gf, gn, rfl, L1, hgn, B1⟩)
      | (go_at_call 165; refine (HRK.out w1 b gs gf gn L1).mono ?_; rintro e2 w2 ⟨ra, o, m, rc, rfl, hm, hmb, RK⟩; obtain ⟨nx2, L2⟩ := RK.li)
      | (go_at_call 164; refine (HIN.out w2 b gs gf gn nx2 ra o m rc L2 RK.or hm hmb RK.seg RK.ne).mono ?_; rintro e3 w3 ⟨rfl, R3, _, K3⟩))
    go_ret
    obtain ⟨A, RA, hA⟩ := HFI.out w3 _ o RK.or RK.so R3
    have B2 : Below w.heap.size w1 w2 := RK.kp.below (fun i e => by omega) B1.size
    have B3 : Below w.heap.size w2 w3 := K3.below (fun i e => by omega) (Nat.le_trans B1.size B2.size)
    exact ⟨w2.heap.size, A, rfl, RA, Nat.le_trans B1.size B2.size, hA, (B1.trans B2).trans B3⟩
theorem ref12_ok {k : Int} {s : List Int} {n : Nat} (hn : s.length = n) (h : ref12 k s = 0) : Wf12 s n k.toNat := by
  unfold ref12 at h
  split at h
  · omega
  · split at h
    · omega
    · rename_i h1 h2
      unfold rv12 at h
      split at h
      · rename_i h3
        refine ⟨hn, by omega, by omega, fun i hi => ?_⟩
        unfold vals12 at h3
        rw [List.all_eq_true] at h3
        have hl : i < s.length := by omega
        have := h3 s[i] (List.getElem_mem hl)
        have e : s.getD i 0 = s[i] := by simp [List.getD, hl]
        rw [e]
        simp only [Bool.and_eq_true, decide_eq_true_eq] at this
        omega
      · omega
def ArrQ12 (w : World) (s : List Int) (n : Nat) (e : Ending) (w' : World) : Prop := ∃ g A, e = .returned (.tuple #[.slice (some ⟨g, 0, none⟩) n n, .int .i64 0]) ∧ Rz12 w' g (nz12 A) ∧ w.heap.size ≤ g ∧ Ar12 n (S12 s) A ∧ Below w.heap.size w w'
set_option maxRecDepth 100000 in
set_option maxHeartbeats 2000000 in
theorem parr12 (k : Int) (a : Option Addr) (s : List Int) (n cap : Nat) (w : World) (hs : SegZ w a s) (hn : Hid (s.length = n)) (hk : -9223372036854775808 ≤ k ∧ k ≤ 9223372036854775807) (hr : Hid (ref12 k s = 0)) :
    Calls Tryz.prog 82 #[.int .i64 k, .slice a n cap] w (ArrQ12 w s n) := by
  have hW := ref12_ok hn.out hr.out
  have HR := pref12 k a s n cap w hs hn (by have := hW.n24; omega) hk
  rw [hr.out] at HR
  have HS : Hid (∀ w1, Below w.heap.size w w1 → Calls Tryz.prog 122 #[.slice a n cap] w1 (SrtQ12 w1 s n)) := fun w1 b1 => psrt12 n a s cap _ w1 (hs.old b1) hW
  clear hW
  go_enter Tryz.func82, Tryz.ntmps82
  go_wp2_with (first
    | (go_at_call 121; refine HR.mono ?_; rintro e1 w1 ⟨rfl, B1⟩)
    | (go_at_call 122; refine (HS.out w1 B1).mono ?_; rintro e2 w2 ⟨g, A, rfl, RA, hg, hA, B2⟩))
  refine bodyPost_ret (results_tmp2 rfl _ _ _) rfl ?_
  exact ⟨g, A, rfl, RA, Nat.le_trans B1.size hg, hA, B1.trans (B2.mono B1.size)⟩
end Go.Proofs.YtmfpdchfofffeaaGreatDoor
