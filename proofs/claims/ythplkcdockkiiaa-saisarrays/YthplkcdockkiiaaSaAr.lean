
import Derived.Test.YthplkcdockkiiaaSaL2
import Derived.Test.YthplkcdockkiiaaSaR4
namespace Go.Proofs.Ythplkcdockkiiaa
open Go.RowKit
set_option linter.unusedVariables false

/-! SaisArrays. -/
set_option maxRecDepth 100000 in
set_option maxHeartbeats 2000000 in
theorem rarr12 (k : Int) (a : Option Addr) (s : List Int) (n cap : Nat) (w : World) (hs : SegZ w a s) (hn : Hid (s.length = n)) (hk : -9223372036854775808 ≤ k ∧ k ≤ 9223372036854775807) (hr : Hid (ref12 k s = 0)) :
    Calls Try.prog 23 #[.int .i64 k, .slice a n cap] w fun e w' => ∃ ra rc L, e = .returned (.tuple #[.slice ra n rc, .int .i64 0]) ∧ SegZ w' ra (nz12 L) ∧ Ar12 n (S12 s) L ∧ Below w.heap.size w w' := by
  have hW := ref12_ok hn.out hr.out
  have n24 := hW.n24
  have HR := rwrg12 k a s n cap w hs hn (by omega) hk
  rw [hr.out] at HR
  have HS : Hid (∀ w1, Below w.heap.size w w1 → Calls Try.prog 36 #[.slice a n cap, .int .i64 0, .int .i64 (n : Int)] w1 fun e w' => ∃ ra rc L, e = .returned (.slice ra n rc) ∧ SegZ w' ra (nz12 L) ∧ Ar12 n (S12 s) L ∧ Below w1.heap.size w1 w') := fun w1 b1 => by
    have h5 := rsd12 a s n cap hn n24 n 0 n w1 (by omega) (Nat.zero_le _) (Nat.le_refl _) (hs.old b1)
    refine Calls.mono (show Calls Try.prog 36 #[.slice a n cap, .int .i64 0, .int .i64 (n : Int)] w1 (SdQ12 w1 s n 0 n) from h5) ?_
    rintro e w' ⟨ra, m, rc, L, rfl, hm, o, _, hL, b⟩
    obtain rfl : m = n := by have := hm.out; omega
    exact ⟨ra, rc, L, rfl, own_segZ o (nz12_bd (n := m) (fun j hj => ((hL.mem j).1 hj).2) n24), hL.ar, b⟩
  clear hW
  go_enter Try.func23, Try.ntmps23
  go_wp2_with (first
    | (go_at_call 29; refine HR.mono ?_; rintro e1 w1 ⟨rfl, B1⟩)
    | (go_at_call 36; refine (HS.out w1 B1).mono ?_; rintro e2 w2 ⟨ra, rc, L, rfl, sg, hL, B2⟩))
  refine bodyPost_ret (results_tmp2 rfl _ _ _) rfl ?_
  exact ⟨ra, rc, L, rfl, sg, hL, B1.trans (B2.mono B1.size)⟩
set_option maxRecDepth 100000 in
set_option maxHeartbeats 2000000 in
theorem rarrn12 (k : Int) (a : Option Addr) (s : List Int) (n cap : Nat) (w : World) (hs : SegZ w a s) (hn : Hid (s.length = n)) (hb : n ≤ 9223372036854775807) (hk : -9223372036854775808 ≤ k ∧ k ≤ 9223372036854775807) (hr : ¬ ref12 k s = 0) :
    Calls Try.prog 23 #[.int .i64 k, .slice a n cap] w fun e w' => e = .returned (.tuple #[.slice none 0 0, .int .i64 (ref12 k s)]) ∧ Below w.heap.size w w' := by
  have HR := rwrg12 k a s n cap w hs hn hb hk
  have bd := ref12_bd k s
  generalize ref12 k s = v at *
  go_enter Try.func23, Try.ntmps23
  go_wp2_with (first
    | (go_at_call 29; refine HR.mono ?_; rintro e1 w1 ⟨rfl, B1⟩))
  refine bodyPost_ret (results_tmp2 rfl _ _ _) rfl ?_
  exact ⟨rfl, B1⟩
theorem lent12_len4 (s : List Int) (n : Nat) (h : s.length = n) : (lent12 s).length = n + 4 := by simp [lent12, h]
set_option maxRecDepth 100000 in
set_option maxHeartbeats 4000000 in
theorem saisArrays_walk (w : World) (k : Int) (hlo : -9223372036854775808 ≤ k) (hhi : k ≤ 9223372036854775807) (a : Option Addr) (s : List Int) (ca : Nat) (hx : SegZ w a s) (hc : s.length ≤ ca) (hna : a = none → ca = 0) (hl : s.length * 8 ≤ 140737488351232) :
    Calls Try.prog 7 #[.int .i64 k, .slice a s.length ca] w fun e w' => e = .returned (.bool true) ∧ Below w.heap.size w w' := by
  generalize hn0 : s.length = n at *
  have hn : Hid (s.length = n) := hn0
  have HLD : Hid (∀ w1, Below w.heap.size w w1 → Calls Try.prog 15 #[.slice a n ca] w1 fun e w' => ∃ g cap', e = .returned (.slice (some ⟨g, 0, none⟩) (n + 4) cap') ∧ SegZ w' (some ⟨g, 0, none⟩) (lent12 s) ∧ n + 4 ≤ cap' ∧ Below w1.heap.size w1 w') := fun w1 b1 => by
    have h5 := lend12 a s ca w1 (hx.old b1) hna (by rw [hn0]; exact hl)
    rw [lent12_len4 s n hn0, hn0] at h5
    refine h5.mono ?_
    rintro e w' ⟨g, cap', rfl, o5, h6, b5⟩
    exact ⟨g, cap', rfl, own_segZ o5 (lent12_bd hx.mem), h6, b5⟩
  have HSA : Hid (∀ w5 g g2 c c2, SegZ w5 (some ⟨g, 0, none⟩) (lent12 s) → SegZ w5 (some ⟨g2, 0, none⟩) (lent12 s) → Calls Try.prog 12 #[.slice (some ⟨g, 0, none⟩) (n + 4) c, .slice (some ⟨g2, 0, none⟩) (n + 4) c2] w5 fun e w' => e = .returned (.bool true) ∧ Below w5.heap.size w5 w') := fun w5 g g2 c c2 s1 s2 => by
    have h5 := same12 (some ⟨g, 0, none⟩) (some ⟨g2, 0, none⟩) (lent12 s) (lent12 s) c c2 w5 s1 s2 (by rw [lent12_len4 s n hn0]; omega) (by rw [lent12_len4 s n hn0]; omega)
    rw [lent12_len4 s n hn0] at h5
    exact h5.mono (fun e w' ⟨he, hB⟩ => ⟨by rw [he]; simp, hB⟩)
  clear hn0 hc hna
  have HLDa := HLD
  by_cases h0 : ref12 k s = 0
  · have n24 := (ref12_ok hn.out h0).n24
    have HR := rarr12 k a s n ca w hx hn ⟨hlo, hhi⟩ h0
    have HA : Hid (∀ w1 g c, SegZ w1 (some ⟨g, 0, none⟩) (lent12 s) → Calls Try.prog 9 #[.int .i64 k, .slice (some ⟨g, 0, none⟩) n c] w1 (ArrQ12 w1 s n)) := fun w1 g c sg => parr12 k _ s n c w1 sg.left hn ⟨hlo, hhi⟩ h0
    have HAa := HA
    clear h0
    go_enter Try.func7, Try.ntmps7
    go_wp2_with (first
      | (go_at_call 23; refine HR.mono ?_; rintro e1 w1 ⟨ra, rc, L, rfl, sR, hL, B1⟩)
      | (go_at_call 15; refine (HLDa.out w1 B1).mono ?_; rintro e2 w2 ⟨gL, cL, rfl, sL, hcL, B2⟩; clear HLDa; have hcL2 : n ≤ cL := (by omega); have C2 := B1.trans (B2.mono B1.size))
      | (go_at_call 9; refine (HAa.out w2 gL cL sL).mono ?_; rintro e3 w3 ⟨gA, A1, rfl, RA, hgA, hA1, B3⟩; clear HAa; have C3 := C2.trans (B3.mono C2.size))
      | (go_at_call 9; refine (HA.out w3 gL cL (sL.old B3)).mono ?_; rintro e4 w4 ⟨gB, A2, rfl, RB, hgB, hA2, B4⟩; have C4 := C3.trans (B4.mono C3.size))
      | (go_at_call 10; refine (pnum12 _ _).mono ?_; rintro e5 w5 ⟨rfl, hw5⟩; subst hw5)
      | (go_at_call 17; fail))
    have eA := hA1.unique hL
    have eB := hA2.unique hL
    rw [eA] at RA
    rw [eB] at RB
    have hLl : (nz12 L).length = n := by rw [nz12_len, hL.len]
    have hLb : ∀ z ∈ nz12 L, -9223372036854775808 ≤ z ∧ z ≤ 9223372036854775807 := nz12_bd (n := n) hL.lt n24
    have oA : w5.ownsRow w2.heap.size 3 1 (.slice (some ⟨gA, 0, none⟩) n n) n ((nz12 L).map (Value.int .i64)) := by
      have h5 := (RA.old B4).own hgA (by omega)
      rw [hLl] at h5
      exact h5
    have S2 := B2.size
    have S3 := B3.size
    have S4 := B4.size
    have lA := RA.lt
    have HOWN := pown12 w2.heap.size (some ⟨gA, 0, none⟩) (some ⟨gB, 0, none⟩) ra (nz12 L) n n n rc w5 (by omega) hLl hl oA hLb (RB.seg hLb) (((sR.old B2).old B3).old B4) (fun x off hx' hp he => by
      cases hx'
      have he2 : gA = gB := by simpa [Value.ownBlock] using he
      omega) (fun x off hx' hp he => by
      have he2 : gA = x := by simpa [Value.ownBlock] using he
      have := sR.lt x off hx' hp
      omega)
    refine HOWN.mono ?_
    rintro e6 w6 ⟨rfl, B6⟩
    have D6 : Below w.heap.size w w6 := C4.trans (B6.mono C2.size)
    have sL6 : SegZ w6 (some ⟨gL, 0, none⟩) (lent12 s) := sL.old ((B3.trans (B4.mono B3.size)).trans B6)
    clear HOWN oA RA RB eA eB hA1 hA2 sR
    go_wp2_with (first
      | (go_at_call 15; refine (HLD.out w6 D6).mono ?_; rintro e7 w7 ⟨gM, cM, rfl, sM, hcM, B7⟩; have D7 := D6.trans (B7.mono D6.size); have sL7 := sL6.old B7)
      | (go_at_call 12; refine (HSA.out w7 gL gM cL cM sL7 sM).mono ?_; rintro e8 w8 ⟨rfl, B8⟩; have D8 := D7.trans (B8.mono D7.size))
      | (go_at_call 11; refine (pawk12 w8).mono ?_; rintro e9 w9 ⟨rfl, B9⟩))
    go_ret
    exact ⟨rfl, D8.trans (B9.mono D8.size)⟩
  · have HR := rarrn12 k a s n ca w hx hn (by omega) ⟨hlo, hhi⟩ h0
    have HA : Hid (∀ w1 g c, SegZ w1 (some ⟨g, 0, none⟩) (lent12 s) → Calls Try.prog 9 #[.int .i64 k, .slice (some ⟨g, 0, none⟩) n c] w1 fun e w' => e = .returned (.tuple #[.slice none 0 0, .int .i64 (ref12 k s)]) ∧ Below w1.heap.size w1 w') := fun w1 g c sg => parrn12 k _ s n c w1 sg.left hn (by omega) ⟨hlo, hhi⟩ h0
    have HAa := HA
    have bd := ref12_bd k s
    generalize ref12 k s = v at *
    go_enter Try.func7, Try.ntmps7
    go_wp2_with (first
      | (go_at_call 23; refine HR.mono ?_; rintro e1 w1 ⟨rfl, B1⟩)
      | (go_at_call 15; refine (HLDa.out w1 B1).mono ?_; rintro e2 w2 ⟨gL, cL, rfl, sL, hcL, B2⟩; clear HLDa; have hcL2 : n ≤ cL := (by omega); have C2 := B1.trans (B2.mono B1.size))
      | (go_at_call 9; refine (HAa.out w2 gL cL sL).mono ?_; rintro e3 w3 ⟨rfl, B3⟩; clear HAa; have C3 := C2.trans (B3.mono C2.size))
      | (go_at_call 9; refine (HA.out w3 gL cL (sL.old B3)).mono ?_; rintro e4 w4 ⟨rfl, B4⟩; have C4 := C3.trans (B4.mono C3.size))
      | (go_at_call 10; refine (pnum12 _ _).mono ?_; rintro e5 w5 ⟨rfl, hw5⟩; subst hw5)
      | (go_at_call 17; fail))
    have HOWN := pown12 w5.heap.size none none none [] 0 0 0 0 w5 (Nat.le_refl _) (rfl : _ = _) (by omega) (World.ownsRow_nil _ _ _ _) (fun z hz => by simp at hz) (SegZ.nil _ _) (SegZ.nil _ _) (fun x off hx' hp => by simp at hp) (fun x off hx' hp => by simp at hp)
    refine HOWN.mono ?_
    rintro e6 w6 ⟨rfl, B6⟩
    have D6 : Below w.heap.size w w6 := C4.trans (B6.mono C4.size)
    have sL6 : SegZ w6 (some ⟨gL, 0, none⟩) (lent12 s) := ((sL.old B3).old B4).old B6
    clear HOWN
    go_wp2_with (first
      | (go_at_call 15; refine (HLD.out w6 D6).mono ?_; rintro e7 w7 ⟨gM, cM, rfl, sM, hcM, B7⟩; have D7 := D6.trans (B7.mono D6.size); have sL7 := sL6.old B7)
      | (go_at_call 12; refine (HSA.out w7 gL gM cL cM sL7 sM).mono ?_; rintro e8 w8 ⟨rfl, B8⟩; have D8 := D7.trans (B8.mono D7.size))
      | (go_at_call 11; refine (pawk12 w8).mono ?_; rintro e9 w9 ⟨rfl, B9⟩))
    go_ret
    exact ⟨rfl, D8.trans (B9.mono D8.size)⟩
end Go.Proofs.Ythplkcdockkiiaa
