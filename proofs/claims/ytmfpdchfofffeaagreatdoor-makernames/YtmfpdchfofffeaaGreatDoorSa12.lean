import Derived.Test.YtmfpdchfofffeaaGreatDoorSa11
import Derived.Test.YtmfpdchfofffeaaGreatDoorSaM5
import Derived.Laws.MakeOwn
namespace Go.Proofs.YtmfpdchfofffeaaGreatDoor
open Go.RowKit
set_option linter.unusedVariables false
def AlQ12 (w : World) (P : Prop) (e : Ending) (w' : World) : Prop := ∃ B : Bool, e = .returned (.bool B) ∧ (B = true ↔ P) ∧ Below w.heap.size w w'
set_option maxRecDepth 100000 in
set_option maxHeartbeats 4000000 in
theorem pal12 (b : Nat) (a : Option Addr) (n cap : Nat) (s : List Int) (K gs gf gn : Nat) (nx : List Int) (x y : Nat) (w : World) (h : Li12 w b a n cap s K gs gf gn nx) (hW : Wf12 s n K) (hx : x < n) (hy : y < n) (hne : x ≠ y) :
    Calls Tryz.prog 227 #[.pointer (some ⟨b, 0, none⟩), .int .i64 (x : Int), .int .i64 (y : Int)] w (AlQ12 w (key12 n (S12 s) (sm12 s) x = key12 n (S12 s) (sm12 s) y)) := by
  have n24 := hW.n24
  have hn : Hid (s.length = n) := hW.len
  have HC0 : Hid (∀ w', Below w.heap.size w w' → w'.cell? ⟨b, 0, none⟩ = some (.slice a n cap) ∧ w'.cell? ⟨b, 1, none⟩ = some (.slice (some ⟨gs, 0, none⟩) n n)) := fun w' hb => by
    have q := (hb.block b h.lt).trans h.hp
    exact ⟨by simp [World.cell?, q], by simp [World.cell?, q]⟩
  have HSG : Hid (∀ w', Below w.heap.size w w' → SegZ w' a s) := fun w' hb => h.seg.old hb
  have HSM : Hid (∀ w', Below w.heap.size w w' → Rb12 w' gs (typ12 s)) := fun w' hb => h.sm.old hb
  obtain ⟨q0, q1⟩ := HC0.out w (Below.refl _ _)
  have HTI : Hid (∀ w' i, Below w.heap.size w w' → x + i < n → Calls Tryz.prog 226 #[.slice (some ⟨gs, 0, none⟩) n n, .int .i64 ((x : Int) + (i : Int))] w' fun e w2 => e = .returned (.bool (tb12 (sm12 s) (x + i))) ∧ Below w'.heap.size w' w2) := by
    intro w' i hb hi
    have := pist12 (some ⟨gs, 0, none⟩) (typ12 s) n n (x + i) w' (HSM.out w' hb).seg (by show _ = _; rw [typ12_len, hn.out]) hi (by omega)
    rw [show (((x + i : Nat)) : Int) = (x : Int) + (i : Int) by omega, show gb12 (typ12 s) = sm12 s from funext (typ12_get s)] at this
    exact this
  have hxi : (x : Int) < 16777216 := by omega
  have hyi : (y : Int) < 16777216 := by omega
  clear h hW
  rcases Nat.lt_trichotomy x y with hxy | hxy | hxy
  · have hxyi : (x : Int) < (y : Int) := by omega
    go_enter Tryz.func227, Tryz.ntmps227
    go_wp2_with fail
    go_loopw [17] (fun ti wr => ∃ i : Nat, i + y ≤ n ∧ ti = .int .i64 i ∧ Hid (Al12 n (S12 s) (sm12 s) x y i) ∧ Below w.heap.size w wr) (fun ti _ => n - (intOf ti).toNat)
    case atStart => exact ⟨0, by omega, rfl, Al12.zero _ _ _ _ _, Below.refl _ _⟩
    case round =>
      obtain ⟨i, hi, rfl, HA, hb⟩ := hrel
      by_cases h1 : i + y < n
      · have h1i : (i : Int) < (n : Int) - (y : Int) := by omega
        have hxi2 : (x : Int) + (i : Int) < (n : Int) := by omega
        have hyi2 : (y : Int) + (i : Int) < (n : Int) := by omega
        obtain ⟨r0, r1⟩ := HC0.out wr hb
        have hsg := HSG.out wr hb
        have hsm := HSM.out wr hb
        obtain ⟨ab, off, rfl, c1⟩ := hsg.at_ (x + i) (by rw [hn.out]; omega)
        have c2 : wr.cell? ⟨ab, off + (y + i), none⟩ = some (.int .i64 (s.getD (y + i) 0)) := by
          obtain ⟨b', off', ha, c⟩ := hsg.at_ (y + i) (by rw [hn.out]; omega)
          cases ha
          exact c
        have c3 := hsm.cell (i := x + i) (by rw [typ12_len, hn.out]; omega)
        have c4 := hsm.cell (i := y + i) (by rw [typ12_len, hn.out]; omega)
        rw [typ12_get] at c3 c4
        have bd1 := hsg.bd (x + i)
        have bd2 := hsg.bd (y + i)
        have HDF : Hid (¬ (S12 s (x + i) = S12 s (y + i) ∧ sm12 s (x + i) = sm12 s (y + i)) → ¬ key12 n (S12 s) (sm12 s) x = key12 n (S12 s) (sm12 s) y) := HA.out.diff (by omega) (by omega)
        have HEQ : Hid (S12 s (x + i) = s.getD (x + i) 0 ∧ S12 s (y + i) = s.getD (y + i) 0) := ⟨rfl, rfl⟩
        clear hsg hsm
        generalize s.getD (x + i) 0 = v1 at *
        generalize s.getD (y + i) 0 = v2 at *
        by_cases hv : v1 = v2
        · subst hv
          by_cases ht : sm12 s (x + i) = sm12 s (y + i)
          · have HST : Hid ((0 < i → ¬ tn12 (sm12 s) (x + i)) → Al12 n (S12 s) (sm12 s) x y (i + 1)) := HA.out.step (by omega) (by omega) (by rw [HEQ.out.1, HEQ.out.2]) ht
            have HTN : Hid (0 < i → tn12 (sm12 s) (x + i) → key12 n (S12 s) (sm12 s) x = key12 n (S12 s) (sm12 s) y) := fun p q => HA.out.turn p (by omega) (by omega) (by rw [HEQ.out.1, HEQ.out.2]) ht q
            rw [← ht] at c4
            have HT2 := HTI.out wr.drew i hb.drew (by omega)
            clear ht
            have HTB : Hid (tb12 (sm12 s) (x + i) = true ↔ tn12 (sm12 s) (x + i)) := tb12_iff
            generalize sm12 s (x + i) = t1 at c3 c4
            by_cases h0 : i = 0
            · subst h0
              have c1b : wr.cell? ⟨ab, off + x, none⟩ = some (.int .i64 v1) := c1
              have c2b : wr.cell? ⟨ab, off + y, none⟩ = some (.int .i64 v1) := c2
              have c3b : wr.cell? ⟨gs, x, none⟩ = some (.bool t1) := c3
              have c4b : wr.cell? ⟨gs, y, none⟩ = some (.bool t1) := c4
              cases t1 <;>
              · go_wp2_with fail
                go_region
                go_wp2_with fail
                go_roundw
                case rel => exact ⟨1, by omega, by go_num, HST.out (fun q => by omega), hb.drew⟩
                case measure => simp [intOf]; omega
            · have h0i : (0 : Int) < (i : Int) := by omega
              have h0n : 0 < i := by omega
              generalize tb12 (sm12 s) (x + i) = t2 at *
              cases t2
              · cases t1 <;>
                · go_wp2_with fail
                  go_region
                  go_wp2_with fail
                  refine HT2.mono ?_
                  rintro e2 w2 ⟨rfl, B2⟩
                  go_wp2_with fail
                  go_roundw
                  case rel => exact ⟨i + 1, by omega, by go_num, HST.out (fun _ q => by have := HTB.out.2 q; cases this), hb.drew.trans (B2.mono hb.drew.size)⟩
                  case measure => simp [intOf]; omega
              · cases t1 <;>
                · go_wp2_with fail
                  go_region
                  go_wp2_with fail
                  refine HT2.mono ?_
                  rintro e2 w2 ⟨rfl, B2⟩
                  go_wp2_with fail
                  go_ret
                  exact ⟨true, rfl, ⟨fun _ => HTN.out (by omega) (HTB.out.1 (by first | trivial | rfl)), fun _ => rfl⟩, hb.drew.trans (B2.mono hb.drew.size)⟩
          · have HNO : Hid (¬ key12 n (S12 s) (sm12 s) x = key12 n (S12 s) (sm12 s) y) := HDF.out (fun q => ht q.2)
            generalize sm12 s (x + i) = t1 at *
            generalize sm12 s (y + i) = t2 at *
            cases t1 <;> cases t2 <;> first
              | exact absurd rfl ht
              | (go_wp2_with fail
                 go_region
                 go_wp2_with fail
                 go_ret
                 exact ⟨false, rfl, ⟨fun q => (by cases q), fun q => absurd q HNO.out⟩, hb.drew⟩)
        · have HNO : Hid (¬ key12 n (S12 s) (sm12 s) x = key12 n (S12 s) (sm12 s) y) := HDF.out (fun q => hv (by rw [← HEQ.out.1, ← HEQ.out.2]; exact q.1))
          have hv2 : (v1 == v2) = false := by simp [hv]
          have hv3 : decide (v1 = v2) = false := by simp [hv]
          have hv4 : (v1 != v2) = true := by simp [hv]
          have hv5 : decide (¬ v1 = v2) = true := by simp [hv]
          go_wp2_with fail
          go_region
          go_wp2_with fail
          go_ret
          exact ⟨false, rfl, ⟨fun q => (by cases q), fun q => absurd q HNO.out⟩, hb.drew⟩
      · have h1i : ¬ (i : Int) < (n : Int) - (y : Int) := by omega
        have HNO : Hid (¬ key12 n (S12 s) (sm12 s) x = key12 n (S12 s) (sm12 s) y) := HA.out.fin hx hy hne (by omega) (by omega) (by omega)
        go_wp2_with fail
        go_ret
        exact ⟨false, rfl, ⟨fun q => (by cases q), fun q => absurd q HNO.out⟩, hb⟩
  · exact absurd hxy hne
  · have hxyi : (y : Int) < (x : Int) := by omega
    go_enter Tryz.func227, Tryz.ntmps227
    go_wp2_with fail
    go_loopw [17] (fun ti wr => ∃ i : Nat, i + x ≤ n ∧ ti = .int .i64 i ∧ Hid (Al12 n (S12 s) (sm12 s) x y i) ∧ Below w.heap.size w wr) (fun ti _ => n - (intOf ti).toNat)
    case atStart => exact ⟨0, by omega, rfl, Al12.zero _ _ _ _ _, Below.refl _ _⟩
    case round =>
      obtain ⟨i, hi, rfl, HA, hb⟩ := hrel
      by_cases h1 : i + x < n
      · have h1i : (i : Int) < (n : Int) - (x : Int) := by omega
        have hxi2 : (x : Int) + (i : Int) < (n : Int) := by omega
        have hyi2 : (y : Int) + (i : Int) < (n : Int) := by omega
        obtain ⟨r0, r1⟩ := HC0.out wr hb
        have hsg := HSG.out wr hb
        have hsm := HSM.out wr hb
        obtain ⟨ab, off, rfl, c1⟩ := hsg.at_ (x + i) (by rw [hn.out]; omega)
        have c2 : wr.cell? ⟨ab, off + (y + i), none⟩ = some (.int .i64 (s.getD (y + i) 0)) := by
          obtain ⟨b', off', ha, c⟩ := hsg.at_ (y + i) (by rw [hn.out]; omega)
          cases ha
          exact c
        have c3 := hsm.cell (i := x + i) (by rw [typ12_len, hn.out]; omega)
        have c4 := hsm.cell (i := y + i) (by rw [typ12_len, hn.out]; omega)
        rw [typ12_get] at c3 c4
        have bd1 := hsg.bd (x + i)
        have bd2 := hsg.bd (y + i)
        have HDF : Hid (¬ (S12 s (x + i) = S12 s (y + i) ∧ sm12 s (x + i) = sm12 s (y + i)) → ¬ key12 n (S12 s) (sm12 s) x = key12 n (S12 s) (sm12 s) y) := HA.out.diff (by omega) (by omega)
        have HEQ : Hid (S12 s (x + i) = s.getD (x + i) 0 ∧ S12 s (y + i) = s.getD (y + i) 0) := ⟨rfl, rfl⟩
        clear hsg hsm
        generalize s.getD (x + i) 0 = v1 at *
        generalize s.getD (y + i) 0 = v2 at *
        by_cases hv : v1 = v2
        · subst hv
          by_cases ht : sm12 s (x + i) = sm12 s (y + i)
          · have HST : Hid ((0 < i → ¬ tn12 (sm12 s) (x + i)) → Al12 n (S12 s) (sm12 s) x y (i + 1)) := HA.out.step (by omega) (by omega) (by rw [HEQ.out.1, HEQ.out.2]) ht
            have HTN : Hid (0 < i → tn12 (sm12 s) (x + i) → key12 n (S12 s) (sm12 s) x = key12 n (S12 s) (sm12 s) y) := fun p q => HA.out.turn p (by omega) (by omega) (by rw [HEQ.out.1, HEQ.out.2]) ht q
            rw [← ht] at c4
            have HT2 := HTI.out wr.drew i hb.drew (by omega)
            clear ht
            have HTB : Hid (tb12 (sm12 s) (x + i) = true ↔ tn12 (sm12 s) (x + i)) := tb12_iff
            generalize sm12 s (x + i) = t1 at c3 c4
            by_cases h0 : i = 0
            · subst h0
              have c1b : wr.cell? ⟨ab, off + x, none⟩ = some (.int .i64 v1) := c1
              have c2b : wr.cell? ⟨ab, off + y, none⟩ = some (.int .i64 v1) := c2
              have c3b : wr.cell? ⟨gs, x, none⟩ = some (.bool t1) := c3
              have c4b : wr.cell? ⟨gs, y, none⟩ = some (.bool t1) := c4
              cases t1 <;>
              · go_wp2_with fail
                go_region
                go_wp2_with fail
                go_roundw
                case rel => exact ⟨1, by omega, by go_num, HST.out (fun q => by omega), hb.drew⟩
                case measure => simp [intOf]; omega
            · have h0i : (0 : Int) < (i : Int) := by omega
              have h0n : 0 < i := by omega
              generalize tb12 (sm12 s) (x + i) = t2 at *
              cases t2
              · cases t1 <;>
                · go_wp2_with fail
                  go_region
                  go_wp2_with fail
                  refine HT2.mono ?_
                  rintro e2 w2 ⟨rfl, B2⟩
                  go_wp2_with fail
                  go_roundw
                  case rel => exact ⟨i + 1, by omega, by go_num, HST.out (fun _ q => by have := HTB.out.2 q; cases this), hb.drew.trans (B2.mono hb.drew.size)⟩
                  case measure => simp [intOf]; omega
              · cases t1 <;>
                · go_wp2_with fail
                  go_region
                  go_wp2_with fail
                  refine HT2.mono ?_
                  rintro e2 w2 ⟨rfl, B2⟩
                  go_wp2_with fail
                  go_ret
                  exact ⟨true, rfl, ⟨fun _ => HTN.out (by omega) (HTB.out.1 (by first | trivial | rfl)), fun _ => rfl⟩, hb.drew.trans (B2.mono hb.drew.size)⟩
          · have HNO : Hid (¬ key12 n (S12 s) (sm12 s) x = key12 n (S12 s) (sm12 s) y) := HDF.out (fun q => ht q.2)
            generalize sm12 s (x + i) = t1 at *
            generalize sm12 s (y + i) = t2 at *
            cases t1 <;> cases t2 <;> first
              | exact absurd rfl ht
              | (go_wp2_with fail
                 go_region
                 go_wp2_with fail
                 go_ret
                 exact ⟨false, rfl, ⟨fun q => (by cases q), fun q => absurd q HNO.out⟩, hb.drew⟩)
        · have HNO : Hid (¬ key12 n (S12 s) (sm12 s) x = key12 n (S12 s) (sm12 s) y) := HDF.out (fun q => hv (by rw [← HEQ.out.1, ← HEQ.out.2]; exact q.1))
          have hv2 : (v1 == v2) = false := by simp [hv]
          have hv3 : decide (v1 = v2) = false := by simp [hv]
          have hv4 : (v1 != v2) = true := by simp [hv]
          have hv5 : decide (¬ v1 = v2) = true := by simp [hv]
          go_wp2_with fail
          go_region
          go_wp2_with fail
          go_ret
          exact ⟨false, rfl, ⟨fun q => (by cases q), fun q => absurd q HNO.out⟩, hb.drew⟩
      · have h1i : ¬ (i : Int) < (n : Int) - (x : Int) := by omega
        have HNO : Hid (¬ key12 n (S12 s) (sm12 s) x = key12 n (S12 s) (sm12 s) y) := HA.out.fin hx hy hne (by omega) (by omega) (by omega)
        go_wp2_with fail
        go_ret
        exact ⟨false, rfl, ⟨fun q => (by cases q), fun q => absurd q HNO.out⟩, hb⟩
end Go.Proofs.YtmfpdchfofffeaaGreatDoor
