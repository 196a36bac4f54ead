import Derived.Test.YtmfpdchfofffeaaGreatDoorPd
import Derived.Lib.SliceRun
namespace Go.Proofs.YtmfpdchfofffeaaGreatDoor
open Go.RowKit
set_option linter.unusedVariables false
theorem nodup_len12 : ∀ (a b : List Nat), a.Nodup → (∀ x ∈ a, x ∈ b) → a.length ≤ b.length
  | [], b, _, _ => by simp
  | x :: a, b, hn, hs => by
    have hx := hs x (by simp)
    have h1 := nodup_len12 a (b.erase x) (List.nodup_cons.1 hn).2 (fun y hy => (List.mem_erase_of_ne (by rintro rfl; exact (List.nodup_cons.1 hn).1 hy)).2 (hs y (by simp [hy])))
    rw [List.length_erase_of_mem hx] at h1
    have h2 : 0 < b.length := List.length_pos_of_mem hx
    simp; omega
theorem Or12.len {n : Nat} {sm : Nat → Bool} {a b : List Nat} (ha : Or12 n sm a) (hb : Or12 n sm b) : a.length = b.length :=
  Nat.le_antisymm (nodup_len12 a b ha.nd (fun x hx => (hb.mem x).2 ((ha.mem x).1 hx))) (nodup_len12 b a hb.nd (fun x hx => (ha.mem x).2 ((hb.mem x).1 hx)))
theorem getD_mem12 {l : List Nat} {i d : Nat} (h : i < l.length) : l.getD i d ∈ l := by
  have : l.getD i d = l[i] := by simp [List.getD, h]
  rw [this]; exact List.getElem_mem h
theorem getD_inj12 {l : List Nat} {i j d : Nat} (hn : l.Nodup) (hi : i < l.length) (hj : j < l.length) (e : l.getD i d = l.getD j d) : i = j := by
  have e1 : l.getD i d = l[i] := by simp [List.getD, hi]
  have e2 : l.getD j d = l[j] := by simp [List.getD, hj]
  rw [e1, e2] at e
  rcases Nat.lt_trichotomy i j with k | k | k
  · exact absurd e (List.pairwise_iff_getElem.1 hn i j hi hj k)
  · exact k
  · exact absurd e.symm (List.pairwise_iff_getElem.1 hn j i hj hi k)
theorem cr12_inc {K : Nat → List Int} {b : List Nat} {r : Nat} (h : r = 0 ∨ ¬ K (b.getD (r - 1) 0) = K (b.getD r 0)) : cr12 K b (r + 1) = cr12 K b r + 1 := by rw [cr12, if_pos h]
theorem cr12_keep {K : Nat → List Int} {b : List Nat} {r : Nat} (h0 : r ≠ 0) (h : K (b.getD (r - 1) 0) = K (b.getD r 0)) : cr12 K b (r + 1) = cr12 K b r := by
  rw [cr12, if_neg, Nat.add_zero]
  rintro (k | k)
  · exact h0 k
  · exact k h
/-- What 'of' holds. -/
def Of12 (K : Nat → List Int) (b : List Nat) (r : Nat) (O : List Int) : Prop := ∀ r', r' < r → O.getD (b.getD r' 0 / 2) 0 = ((cr12 K b (r' + 1) : Nat) : Int) - 1
theorem Of12.set {n : Nat} {sm : Nat → Bool} {K : Nat → List Int} {b : List Nat} {r : Nat} {O : List Int} (h : Of12 K b r O) (ho : Or12 n sm b) (hr : r < b.length) (hO : b.getD r 0 / 2 < O.length) : Of12 K b (r + 1) (O.set (b.getD r 0 / 2) (((cr12 K b (r + 1) : Nat) : Int) - 1)) := by
  intro r' hr'
  rw [getD_set12 _ _ _ _ hO]
  by_cases e : r' = r
  · subst e; rw [if_pos rfl]
  · rw [if_neg, h r' (by omega)]
    intro k
    have h1 := (ho.mem _).1 (getD_mem12 (d := 0) hr)
    have h2 := (ho.mem _).1 (getD_mem12 (d := 0) (show r' < b.length by omega))
    exact e (getD_inj12 ho.nd (by omega) hr (tn12_two h2.2 h1.2 k))
theorem Of12.names {n : Nat} {S : Nat → Int} {sm : Nat → Bool} {b t : List Nat} {O N : List Int} {m : Nat} (h : Of12 (key12 n S sm) b m O) (ho : Or12 n sm b) (ht : Or12 n sm t) (hk : b.Pairwise (fun i j => LE12 (key12 n S sm i) (key12 n S sm j))) (hb : b.length = m) (htm : t.length = m) (hN : N.length = m) (hv : ∀ a, a < m → N.getD a 0 = O.getD (t.getD a 0 / 2) 0) :
    Nm12 n S sm t N ∧ ∀ a, a < m → 0 ≤ N.getD a 0 ∧ N.getD a 0 < (m : Int) := by
  have hr : ∀ a, a < m → ∃ r, r < m ∧ b.getD r 0 = t.getD a n ∧ N.getD a 0 = ((cr12 (key12 n S sm) b (r + 1) : Nat) : Int) - 1 := by
    intro a ha
    have h1 : t.getD a 0 ∈ b := (ho.mem _).2 ((ht.mem _).1 (getD_mem12 (by omega)))
    obtain ⟨r, hr, e⟩ := List.mem_iff_getElem.1 h1
    have e2 : b.getD r 0 = t.getD a 0 := by rw [← e]; simp [List.getD, hr]
    have e3 : t.getD a n = t.getD a 0 := by have : a < t.length := by omega
                                            simp [List.getD, this]
    refine ⟨r, by omega, by rw [e2, e3], ?_⟩
    rw [hv a ha, ← e2, h r (by omega)]
  refine ⟨⟨by omega, fun a a' ha ha' hlt => ?_, fun a a' ha ha' he => ?_⟩, fun a ha => ?_⟩
  · obtain ⟨r, h1, h2, h3⟩ := hr a (by omega)
    obtain ⟨r', h4, h5, h6⟩ := hr a' (by omega)
    rw [← h2, ← h5]
    exact (cr12_lt hk (by omega) (by omega)).1 (by omega)
  · obtain ⟨r, h1, h2, h3⟩ := hr a (by omega)
    obtain ⟨r', h4, h5, h6⟩ := hr a' (by omega)
    rw [← h2, ← h5]
    exact (cr12_lt hk (by omega) (by omega)).2.1 (by omega)
  · obtain ⟨r, h1, h2, h3⟩ := hr a ha
    have := cr12_pos (K := key12 n S sm) (b := b) r
    have := cr12_le (K := key12 n S sm) (b := b) (r + 1)
    omega
set_option maxRecDepth 100000 in
set_option maxHeartbeats 4000000 in
theorem pnm12 (b : Nat) (a : Option Addr) (n cap : Nat) (s : List Int) (K gs gf gn : Nat) (nx : List Int) (ta pa : Option Addr) (t bl : List Nat) (m tc pc : Nat) (w : World) (h : Li12 w b a n cap s K gs gf gn nx) (hW : Wf12 s n K) (ht : Or12 n (sm12 s) t) (ho : Or12 n (sm12 s) bl) (hk : bl.Pairwise (fun i j => LE12 (key12 n (S12 s) (sm12 s) i) (key12 n (S12 s) (sm12 s) j))) (hm : Hid (t.length = m)) (hm2 : Hid (bl.length = m)) (hmb : m ≤ 16777216) (hst : SegZ w ta (nz12 t)) (hsb : SegZ w pa (nz12 bl)) :
    Calls Tryz.prog 199 #[.pointer (some ⟨b, 0, none⟩), .slice ta m tc, .slice pa m pc] w fun e w' => ∃ g2 N c, e = .returned (.tuple #[.slice (some ⟨g2, 0, none⟩) m m, .int .i64 ((c : Nat) : Int)]) ∧ c = cr12 (key12 n (S12 s) (sm12 s)) bl m ∧ Rz12 w' g2 N ∧ w.heap.size ≤ g2 ∧ N.length = m ∧ Nm12 n (S12 s) (sm12 s) t N ∧ (∀ a, a < m → 0 ≤ N.getD a 0 ∧ N.getD a 0 < (m : Int)) ∧ Below w.heap.size w w' := by
  have n24 := hW.n24
  have hn : Hid (s.length = n) := hW.len
  have hty : Ty12 n (S12 s) (sm12 s) := by have := ty12 s; rw [hn.out] at this; exact this
  have q0 := h.c0
  have HA : Hid (∀ w' r, Below w.heap.size w w' → 0 < r → r < m → Calls Tryz.prog 227 #[.pointer (some ⟨b, 0, none⟩), .int .i64 ((bl.getD (r - 1) 0 : Nat) : Int), .int .i64 ((bl.getD r 0 : Nat) : Int)] w' (AlQ12 w' (key12 n (S12 s) (sm12 s) (bl.getD (r - 1) 0) = key12 n (S12 s) (sm12 s) (bl.getD r 0)))) := by
    intro w' r hb h0 hr
    have m1 := ho.small _ (getD_mem12 (l := bl) (i := r - 1) (d := 0) (by rw [hm2.out]; omega))
    have m2 := ho.small _ (getD_mem12 (l := bl) (i := r) (d := 0) (by rw [hm2.out]; omega))
    refine pal12 b a n cap s K gs gf gn nx _ _ w' ⟨(hb.block b h.lt).trans h.hp, h.seg.old hb, h.sm.old hb, h.fr.old hb, h.nr.old hb, h.nxl, h.d1, h.d2, h.d3, h.d4⟩ hW m1.1 m2.1 ?_
    intro e
    have := getD_inj12 ho.nd (by rw [hm2.out]; omega) (by rw [hm2.out]; omega) e
    omega
  have HSB : Hid (∀ w', Below w.heap.size w w' → SegZ w' pa (nz12 bl)) := fun w' hb => hsb.old hb
  have HST : Hid (∀ w', Below w.heap.size w w' → SegZ w' ta (nz12 t)) := fun w' hb => hst.old hb
  have HBG : Hid (∀ r, r < m → bl.getD r 0 + 1 < n ∧ (nz12 bl).getD r 0 = ((bl.getD r 0 : Nat) : Int)) := fun r hr => ⟨tn12_lt hty ((ho.mem _).1 (getD_mem12 (by rw [hm2.out]; exact hr))).2, nz12_get bl r 0 (by rw [hm2.out]; exact hr)⟩
  have HTG : Hid (∀ r, r < m → t.getD r 0 + 1 < n ∧ (nz12 t).getD r 0 = ((t.getD r 0 : Nat) : Int)) := fun r hr => ⟨tn12_lt hty ((ht.mem _).1 (getD_mem12 (by rw [hm.out]; exact hr))).2, nz12_get t r 0 (by rw [hm.out]; exact hr)⟩
  have HOF : Hid (∀ r O, r < m → O.length = n / 2 → Of12 (key12 n (S12 s) (sm12 s)) bl r O → Of12 (key12 n (S12 s) (sm12 s)) bl (r + 1) (O.set (bl.getD r 0 / 2) (((cr12 (key12 n (S12 s) (sm12 s)) bl (r + 1) : Nat) : Int) - 1))) := fun r O hr hO hh => hh.set ho (by rw [hm2.out]; exact hr) (by have := (HBG.out r hr).1; omega)
  have HFN : Hid (∀ O N, Of12 (key12 n (S12 s) (sm12 s)) bl m O → N.length = m → (∀ a, a < m → N.getD a 0 = O.getD (t.getD a 0 / 2) 0) → Nm12 n (S12 s) (sm12 s) t N ∧ ∀ a, a < m → 0 ≤ N.getD a 0 ∧ N.getD a 0 < (m : Int)) := fun O N h1 h2 h3 => h1.names ho ht hk hm2.out hm.out h2 h3
  have HCR : Hid (∀ r, cr12 (key12 n (S12 s) (sm12 s)) bl r ≤ r ∧ 1 ≤ cr12 (key12 n (S12 s) (sm12 s)) bl (r + 1)) := fun r => ⟨cr12_le r, cr12_pos r⟩
  have HIN : Hid (∀ r, r = 0 ∨ ¬ key12 n (S12 s) (sm12 s) (bl.getD (r - 1) 0) = key12 n (S12 s) (sm12 s) (bl.getD r 0) → cr12 (key12 n (S12 s) (sm12 s)) bl (r + 1) = cr12 (key12 n (S12 s) (sm12 s)) bl r + 1) := fun r hr => cr12_inc hr
  have HKP : Hid (∀ r, r ≠ 0 → key12 n (S12 s) (sm12 s) (bl.getD (r - 1) 0) = key12 n (S12 s) (sm12 s) (bl.getD r 0) → cr12 (key12 n (S12 s) (sm12 s)) bl (r + 1) = cr12 (key12 n (S12 s) (sm12 s)) bl r) := fun r h0 hr => cr12_keep h0 hr
  have hal : Below w.heap.size w (w.alloc (.cells (vi12 (List.replicate (n / 2) 0)) 3)) := (Below.refl _ _).alloc (Nat.le_refl _) _
  have hr0 := Rz12.new w (List.replicate (n / 2) 0)
  have HM1 := run_make_i12 (n / 2) (by omega) w
  have HM2 := fun w' => run_make_i12 m (by omega) w'
  have HNL : Hid ((nz12 bl).length = m ∧ (nz12 t).length = m) := by rw [nz12_len, nz12_len, hm.out, hm2.out]; exact ⟨rfl, rfl⟩
  have en : (n : Int).tdiv 2 = ((n / 2 : Nat) : Int) := by rw [Int.tdiv_eq_ediv_of_nonneg (by omega)]; omega
  have en2 : (n : Int) / 2 = ((n / 2 : Nat) : Int) := by omega
  have HHN : Hid (∀ j : Nat, j + 1 < n → j / 2 < n / 2) := fun j hj => by omega
  generalize hh2 : n / 2 = h2 at *
  have hh3 : h2 ≤ 16777216 := by omega
  clear hh2
  generalize key12 n (S12 s) (sm12 s) = KEY at *
  clear h hW ht ho hk hst hsb hty
  generalize hg : w.heap.size = g at *
  generalize hw1 : w.alloc (.cells (vi12 (List.replicate h2 0)) 3) = w1 at *
  have HG : Hid (w.heap.size = g) := hg
  clear hg hw1
  go_enter Tryz.func199, Tryz.ntmps199
  go_wp2_with fail
  go_loopw [9, 24] (fun tc ti wr => ∃ (r c : Nat) (O : List Int), r ≤ m ∧ ti = .int .i64 r ∧ tc = .int .i64 c ∧ Hid (c = cr12 KEY bl r) ∧ Rz12 wr g O ∧ O.length = h2 ∧ Hid (Of12 KEY bl r O) ∧ Below g w wr) (fun _ ti _ => m - (intOf ti).toNat)
  case atStart => exact ⟨0, 0, _, Nat.zero_le _, rfl, rfl, (rfl : _ = _), hr0, by simp, (fun r' h => by omega : Of12 _ _ _ _), hal⟩
  case round =>
    obtain ⟨r, c, O, hr, rfl, rfl, HCC, hO, hOl, HOO, hb⟩ := hrel
    by_cases h1 : r < m
    · have h1i : (r : Int) < (m : Int) := by omega
      obtain ⟨hj, ej⟩ := HBG.out r h1
      have hsb := HSB.out wr hb
      obtain ⟨pb, off, rfl, c1⟩ := hsb.at_ r (by rw [HNL.out.1]; exact h1)
      rw [ej] at c1
      have hcm : c ≤ 16777216 := by have := (HCR.out r).1; have := HCC.out; omega
      have HSET : Hid (∀ y : Int, y = ((cr12 KEY bl (r + 1) : Nat) : Int) - 1 → ∀ w', Rz12 w' g O → Below g w w' → Rz12 (w'.setCell ⟨g, bl.getD r 0 / 2, none⟩ (.int .i64 y)) g (O.set (bl.getD r 0 / 2) y) ∧ (O.set (bl.getD r 0 / 2) y).length = h2 ∧ Hid (Of12 KEY bl (r + 1) (O.set (bl.getD r 0 / 2) y)) ∧ Below g w (w'.setCell ⟨g, bl.getD r 0 / 2, none⟩ (.int .i64 y))) := by
        intro y hy w' hO' hb'
        refine ⟨hO'.set _ _, by rw [List.length_set]; exact hOl, ?_, hb'.trans ((Kp.set (S := fun j => j = g) rfl _).below (fun j h => by omega) (by have := hO'.lt; omega))⟩
        rw [hy]
        exact HOF.out r O h1 hOl HOO.out
      have HOLD : Hid (∀ w', Below g w w' → Below wr.heap.size wr w' → Rz12 w' g O) := fun w' _ hb' => hO.old hb'
      have HCEL : Hid (∀ w', Rz12 w' g O → w'.cell? ⟨g, bl.getD r 0 / 2, none⟩ = some (.int .i64 (O.getD (bl.getD r 0 / 2) 0)) ∧ w'.frozen? ⟨g, bl.getD r 0 / 2, none⟩ = false) := fun w' h' => ⟨h'.cell (by have := HHN.out _ hj; omega), h'.free _⟩
      have e2 : ((bl.getD r 0 : Nat) : Int).tdiv 2 = ((bl.getD r 0 / 2 : Nat) : Int) := by rw [Int.tdiv_eq_ediv_of_nonneg (by omega)]; omega
      have e3 : ((bl.getD r 0 : Nat) : Int) / 2 = ((bl.getD r 0 / 2 : Nat) : Int) := by omega
      have i2 : ((bl.getD r 0 / 2 : Nat) : Int) < (h2 : Int) := by have := HHN.out _ hj; omega
      by_cases h0 : r = 0
      · subst h0
        have c1b : wr.cell? ⟨pb, off, none⟩ = some (.int .i64 ((bl.getD 0 0 : Nat) : Int)) := c1
        have HI := HIN.out 0 (Or.inl rfl)
        have HC2 : Hid (cr12 KEY bl (0 + 1) = c + 1) := by show _ = _; rw [HI, HCC.out]
        obtain ⟨k1, k2⟩ := HCEL.out wr hO
        obtain ⟨s1, s2, s3, s4⟩ := HSET.out (c : Int) (by rw [HC2.out]; omega) wr hO hb
        have HS1 : Hid _ := s1
        have HS4 : Hid _ := s4
        have HS2 : Hid _ := s2
        clear HI ej hsb hO s1 s4 s2
        generalize bl.getD 0 0 = j at *
        generalize O.getD (j / 2) 0 = y at *
        generalize hd : j / 2 = d at *
        go_wp2_with fail
        go_roundw
        case rel => exact ⟨1, c + 1, _, by omega, by go_num, by go_num, (HC2.out.symm : _ = _), HS1.out, HS2.out, s3, HS4.out⟩
        case measure => simp [intOf]; omega
      · have h0i : ¬ (r : Int) = 0 := by omega
        have h0j : (0 : Int) < (r : Int) := by omega
        obtain ⟨hj2, ej2⟩ := HBG.out (r - 1) (by omega)
        have c2 : wr.cell? ⟨pb, off + (r - 1), none⟩ = some (.int .i64 ((bl.getD (r - 1) 0 : Nat) : Int)) := by
          obtain ⟨b', off', ha, cc⟩ := hsb.at_ (r - 1) (by rw [HNL.out.1]; omega)
          cases ha
          rw [ej2] at cc
          exact cc
        have er : (r : Int) - 1 = ((r - 1 : Nat) : Int) := by omega
        have ir : ((r - 1 : Nat) : Int) < (m : Int) := by omega
        have HAL := HA.out wr r hb (by omega) h1
        have HI : Hid (¬ KEY (bl.getD (r - 1) 0) = KEY (bl.getD r 0) → cr12 KEY bl (r + 1) = c + 1) := fun q => by have h6 := HIN.out r (Or.inr q); have h7 := HCC.out; omega
        have HKE : Hid (KEY (bl.getD (r - 1) 0) = KEY (bl.getD r 0) → cr12 KEY bl (r + 1) = c) := fun q => by have h6 := HKP.out r h0 q; have h7 := HCC.out; omega
        have HC1 : Hid (KEY (bl.getD (r - 1) 0) = KEY (bl.getD r 0) → 1 ≤ c) := fun q => by have h5 := (HCR.out r).2; have h6 := HKP.out r h0 q; have h7 := HCC.out; omega
        clear ej ej2 hsb hO
        generalize bl.getD r 0 = j at *
        generalize bl.getD (r - 1) 0 = j2 at *
        generalize hd : j / 2 = d at *
        generalize r - 1 = r1 at *
        go_wp2_with fail
        refine HAL.mono ?_
        rintro e2 w2 ⟨B, rfl, hB, B2⟩
        have hb3 : Below g w w2 := hb.trans (B2.mono (by have := hb.size; have := HG.out; omega))
        have hO2 := HOLD.out w2 hb3 B2
        obtain ⟨k1, k2⟩ := HCEL.out w2 hO2
        have HBB : Hid (B = true ↔ KEY j2 = KEY j) := hB
        clear hB
        cases B
        · have HC2 := HI.out (fun q => by have := HBB.out.2 q; cases this)
          obtain ⟨s1, s2, s3, s4⟩ := HSET.out (c : Int) (by omega) w2 hO2 hb3
          have HS1 : Hid _ := s1
          have HS4 : Hid _ := s4
          have HS2 : Hid _ := s2
          have HC3 : Hid _ := HC2
          clear s1 s4 s2 hO2 HC2
          generalize O.getD d 0 = y at *
          go_wp2_with fail
          go_roundw
          case rel => exact ⟨r + 1, c + 1, _, by omega, by go_num, by go_num, (HC3.out.symm : _ = _), HS1.out, HS2.out, s3, HS4.out⟩
          case measure => simp [intOf]; omega
        · have HC2 := HKE.out (HBB.out.1 rfl)
          have hc1 := HC1.out (HBB.out.1 rfl)
          obtain ⟨s1, s2, s3, s4⟩ := HSET.out ((c : Int) - 1) (by omega) w2 hO2 hb3
          have HS1 : Hid _ := s1
          have HS4 : Hid _ := s4
          have HS2 : Hid _ := s2
          have HC3 : Hid _ := HC2
          clear s1 s4 s2 hO2 HC2
          generalize O.getD d 0 = y at *
          go_wp2_with fail
          go_roundw
          case rel => exact ⟨r + 1, c, _, by omega, by go_num, by go_num, (HC3.out.symm : _ = _), HS1.out, HS2.out, s3, HS4.out⟩
          case measure => simp [intOf]; omega
    · have h1i : ¬ (r : Int) < (m : Int) := by omega
      obtain rfl : r = m := by omega
      have HM3 := HM2 wr
      have hal2 : Below wr.heap.size wr (wr.alloc (.cells (vi12 (List.replicate r 0)) 3)) := (Below.refl _ _).alloc (Nat.le_refl _) _
      have hr2 := Rz12.new wr (List.replicate r 0)
      have hO3 := hO.old hal2
      have hb3 : Below g w (wr.alloc (.cells (vi12 (List.replicate r 0)) 3)) := hb.trans (hal2.mono (by have := hb.size; have := HG.out; omega))
      have HLT : Hid (g < wr.heap.size ∧ g ≤ wr.heap.size) := ⟨hO.lt, Nat.le_of_lt hO.lt⟩
      clear HM2 hO hal2 HA HOF HIN HKP HSB HBG
      generalize hg2 : wr.heap.size = g2 at *
      generalize hw2 : wr.alloc (.cells (vi12 (List.replicate r 0)) 3) = w2 at *
      clear hg2 hw2
      go_wp2_with fail
      go_loopw [56] (fun ti wr => ∃ (q : Nat) (N : List Int), q ≤ r ∧ ti = .int .i64 q ∧ Rz12 wr g2 N ∧ N.length = r ∧ Hid (∀ q', q' < q → N.getD q' 0 = O.getD (t.getD q' 0 / 2) 0) ∧ Rz12 wr g O ∧ Below g w wr) (fun ti _ => r - (intOf ti).toNat)
      case atStart => exact ⟨0, _, Nat.zero_le _, rfl, hr2, by simp, (fun q' h => by omega : ∀ q', q' < 0 → _), hO3, hb3⟩
      case round =>
        obtain ⟨q, N, hq, rfl, hN, hNl, HNV, hOq, hbq⟩ := hrel
        by_cases h9 : q < r
        · have h2i : (q : Int) < (r : Int) := by omega
          obtain ⟨hj, ej⟩ := HTG.out q h9
          obtain ⟨tb, toff, rfl, c1⟩ := (HST.out wr hbq).at_ q (by rw [HNL.out.2]; exact h9)
          rw [ej] at c1
          have k1 := hOq.cell (i := t.getD q 0 / 2) (by have := HHN.out _ hj; omega)
          have k2 := hN.cell (i := q) (by omega)
          have k3 := hN.free q
          have e2 : ((t.getD q 0 : Nat) : Int).tdiv 2 = ((t.getD q 0 / 2 : Nat) : Int) := by rw [Int.tdiv_eq_ediv_of_nonneg (by omega)]; omega
          have e3 : ((t.getD q 0 : Nat) : Int) / 2 = ((t.getD q 0 / 2 : Nat) : Int) := by omega
          have i2 : ((t.getD q 0 / 2 : Nat) : Int) < (h2 : Int) := by have := HHN.out _ hj; omega
          have HS1 : Hid (Rz12 (wr.setCell ⟨g2, q, none⟩ (.int .i64 (O.getD (t.getD q 0 / 2) 0))) g2 (N.set q (O.getD (t.getD q 0 / 2) 0))) := hN.set _ _
          have HS2 : Hid (∀ q', q' < q + 1 → (N.set q (O.getD (t.getD q 0 / 2) 0)).getD q' 0 = O.getD (t.getD q' 0 / 2) 0) := by
            intro q' hq'
            rw [getD_set12 _ _ _ _ (by omega)]
            by_cases e : q' = q
            · subst e; rw [if_pos rfl]
            · rw [if_neg e]; exact HNV.out q' (show q' < q by omega)
          have HS3 : Hid (Rz12 (wr.setCell ⟨g2, q, none⟩ (.int .i64 (O.getD (t.getD q 0 / 2) 0))) g O) := hOq.kp (Kp.set (S := fun j => j = g2) rfl _) (by have := HLT.out; omega)
          have HS4 : Hid (Below g w (wr.setCell ⟨g2, q, none⟩ (.int .i64 (O.getD (t.getD q 0 / 2) 0)))) := hbq.trans ((Kp.set (S := fun j => j = g2) rfl _).below (fun j h => by have := HLT.out; omega) (by have := hOq.lt; omega))
          clear ej hN hOq
          generalize t.getD q 0 = j at *
          generalize hd : j / 2 = d at *
          generalize O.getD d 0 = y at *
          generalize N.getD q 0 = z at *
          go_wp2_with fail
          go_roundw
          case rel => exact ⟨q + 1, _, by omega, by go_num, HS1.out, by rw [List.length_set]; exact hNl, HS2.out, HS3.out, HS4.out⟩
          case measure => simp [intOf]; omega
        · have h2i : ¬ (q : Int) < (r : Int) := by omega
          obtain rfl : q = r := by omega
          obtain ⟨F1, F2⟩ := HFN.out O N HOO.out hNl HNV.out
          have HF : Hid (∃ g2' N' c', Ending.returned (.tuple #[.slice (some ⟨g2, 0, none⟩) q q, .int .i64 ((c : Nat) : Int)]) = .returned (.tuple #[.slice (some ⟨g2', 0, none⟩) q q, .int .i64 ((c' : Nat) : Int)]) ∧ c' = cr12 KEY bl q ∧ Rz12 wr g2' N' ∧ g ≤ g2' ∧ N'.length = q ∧ Nm12 n (S12 s) (sm12 s) t N' ∧ (∀ a, a < q → 0 ≤ N'.getD a 0 ∧ N'.getD a 0 < (q : Int)) ∧ Below g w wr) := ⟨g2, N, c, rfl, HCC.out, hN, HLT.out.2, hNl, F1, F2, hbq⟩
          clear F1 F2 hN hOq
          go_wp2_with fail
          refine bodyPost_ret (results_tmp2 rfl _ _ _) rfl ?_
          exact HF.out
end Go.Proofs.YtmfpdchfofffeaaGreatDoor

namespace Go.Proofs.YtmfpdchfofffeaaGreatDoor
open Go.RowKit
set_option linter.unusedVariables false
theorem Li12.old {w w' : World} {b : Nat} {a : Option Addr} {n cap : Nat} {s : List Int} {K gs gf gn : Nat} {nx : List Int} (h : Li12 w b a n cap s K gs gf gn nx) (hb : Below w.heap.size w w') : Li12 w' b a n cap s K gs gf gn nx :=
  ⟨(hb.block b h.lt).trans h.hp, h.seg.old hb, h.sm.old hb, h.fr.old hb, h.nr.old hb, h.nxl, h.d1, h.d2, h.d3, h.d4⟩
theorem tu12_lt (f : Nat → Bool) : ∀ k, 0 < k → (tu12 f k).length < k
  | 0, h => by omega
  | 1, _ => by rw [tu12_succ]; simp [tb12, tu12]
  | k + 2, _ => by
    have := tu12_lt f (k + 1) (by omega)
    rw [tu12_succ]
    split
    · simp; omega
    · omega
theorem typ12_gb (s : List Int) : gb12 (typ12 s) = sm12 s := funext (typ12_get s)
theorem tu12_tns (s : List Int) {n : Nat} (h : s.length = n) : tu12 (gb12 (typ12 s)) n = tns12 s := by rw [typ12_gb, ← h]; rfl
theorem nz12_bd {l : List Nat} {n : Nat} (h : ∀ j ∈ l, j < n) (hn : n ≤ 16777216) : ∀ z ∈ nz12 l, -9223372036854775808 ≤ z ∧ z ≤ 9223372036854775807 := by
  intro z hz
  unfold nz12 at hz
  rw [List.mem_map] at hz
  obtain ⟨j, hj, rfl⟩ := hz
  have := h j hj
  omega
/-- What ranked answers. -/
structure Rk12 (w1 w2 : World) (b : Nat) (a : Option Addr) (n cap : Nat) (s : List Int) (K gs gf gn : Nat) (ra : Option Addr) (o : List Nat) : Prop where
  seg : SegZ w2 ra (nz12 o)
  ne : ∀ x off, ra = some ⟨x, off, none⟩ → 0 < (nz12 o).length → x ≠ gn
  or : Or12 n (sm12 s) o
  so : o.Pairwise (Ls12 n (S12 s))
  li : ∃ nx, Li12 w2 b a n cap s K gs gf gn nx
  kp : Kp (fun k => k = gn) w1 w2
def RkQ12 (w1 : World) (b : Nat) (a : Option Addr) (n cap : Nat) (s : List Int) (K gs gf gn : Nat) (e : Ending) (w2 : World) : Prop := ∃ ra o m rc, e = .returned (.slice ra m rc) ∧ Hid (o.length = m) ∧ m ≤ 16777216 ∧ Rk12 w1 w2 b a n cap s K gs gf gn ra o
def SrtQ12 (w : World) (s : List Int) (n : Nat) (e : Ending) (w' : World) : Prop := ∃ g A, e = .returned (.slice (some ⟨g, 0, none⟩) n n) ∧ Rz12 w' g (nz12 A) ∧ w.heap.size ≤ g ∧ Ar12 n (S12 s) A ∧ Below w.heap.size w w'
set_option maxRecDepth 100000 in
set_option maxHeartbeats 4000000 in
theorem prk12 (b : Nat) (a : Option Addr) (n cap : Nat) (s : List Int) (K gs gf gn : Nat) (nx : List Int) (w : World) (h : Li12 w b a n cap s K gs gf gn nx) (hW : Wf12 s n K)
    (IH : ∀ (a' : Option Addr) (s' : List Int) (n' c' M' : Nat) (w' : World), n' < n → SegZ w' a' s' → Wf12 s' n' M' → Calls Tryz.prog 122 #[.slice a' n' c'] w' (SrtQ12 w' s' n')) :
    Calls Tryz.prog 165 #[.pointer (some ⟨b, 0, none⟩)] w (RkQ12 w b a n cap s K gs gf gn) := by
  have n24 := hW.n24
  have hn : Hid (s.length = n) := hW.len
  have hty : Ty12 n (S12 s) (sm12 s) := by have := ty12 s; rw [hn.out] at this; exact this
  have q1 := h.c1
  have HOR : Or12 n (sm12 s) (tns12 s) := by have := tns12_or s; rw [hn.out] at this; exact this
  have HTL : Hid ((tns12 s).Pairwise (· < ·)) := tns12_lt s
  have HT := ptns12 (some ⟨gs, 0, none⟩) (typ12 s) n n w h.sm.seg (by show _ = _; rw [typ12_len, hn.out]) (by omega)
  rw [tu12_tns s hn.out] at HT
  have HML : Hid ((tns12 s).length ≤ n ∧ (0 < n → (tns12 s).length < n)) := by
    have e := tu12_tns s hn.out
    exact ⟨by rw [← e]; exact tu12_le _ _, fun h0 => by rw [← e]; exact tu12_lt _ n h0⟩
  have HGN : Hid (gn < w.heap.size) := h.nr.lt
  have HTS : Hid (∀ j ∈ tns12 s, j < n) := fun j hj => (HOR.small j hj).1
  generalize ht : tns12 s = t at *
  have HM : Hid (t.length = (nz12 t).length) := by show _ = _; rw [nz12_len]
  -- the row that was told first
  have HP1 : Hid (∀ w1 ra rc, w1.ownsRow w.heap.size 3 1 (.slice ra (nz12 t).length rc) (nz12 t).length ((nz12 t).map (Value.int .i64)) → Below w.heap.size w w1 → SegZ w1 ra (nz12 t) ∧ (∀ x off, ra = some ⟨x, off, none⟩ → 0 < (nz12 t).length → x ≠ gn) ∧ Li12 w1 b a n cap s K gs gf gn nx) := by
    intro w1 ra rc o1 b1
    refine ⟨own_segZ o1 (nz12_bd HTS.out n24), fun x off hx hp => ?_, h.old b1⟩
    subst hx
    have := (o1.lt x rfl).1
    have := HGN.out
    omega
  have HSH : Hid (t.length < 2 → t.Pairwise (Ls12 n (S12 s))) := by
    intro h2
    match t, h2 with
    | [], _ => exact List.Pairwise.nil
    | [x], _ => exact List.pairwise_singleton _ _
    | x :: y :: r, h2 => simp at h2; omega
  -- induce, and its turns
  have HPI : Hid (∀ w1 ra rc, Li12 w1 b a n cap s K gs gf gn nx → SegZ w1 ra (nz12 t) → (∀ x off, ra = some ⟨x, off, none⟩ → 0 < (nz12 t).length → x ≠ gn) → Calls Tryz.prog 164 #[.pointer (some ⟨b, 0, none⟩), .slice ra (nz12 t).length rc] w1 fun e w' => e = .returned (.slice (some ⟨w1.heap.size, 0, none⟩) n n) ∧ Rz12 w' w1.heap.size (il12 s t) ∧ (∃ nx', Li12 w' b a n cap s K gs gf gn nx') ∧ Kp (fun k => k = gn) w1 w') :=
    fun w1 ra rc L sg ne => pind12 b a n cap s K gs gf gn nx ra t _ rc w1 L hW HOR HM.out (by rw [← HM.out]; have := HML.out.1; omega) sg ne
  have HIL : Hid (il12 s t = nz12 (row12 n (ind12 n (S12 s) (sm12 s) t)) ∧ (row12 n (ind12 n (S12 s) (sm12 s) t)).length = n ∧ ∀ j ∈ row12 n (ind12 n (S12 s) (sm12 s) t), j < n) := by
    have hpm := ind12_pm (S := S12 s) hty HOR
    refine ⟨?_, by simp [row12], fun j hj => (row12_mem hpm j).1 hj⟩
    unfold il12 nz12
    rw [hn.out, row12_ints hpm]
  have HBO : Or12 n (sm12 s) (by12 (sm12 s) (row12 n (ind12 n (S12 s) (sm12 s) t))) := by12_or hty HOR
  have HBK := by12_key (S := S12 s) hty HOR
  generalize hrw : row12 n (ind12 n (S12 s) (sm12 s) t) = A at *
  have HTO : Hid (∀ w2 gr nx', Li12 w2 b a n cap s K gs gf gn nx' → Rz12 w2 gr (il12 s t) → Calls Tryz.prog 198 #[.pointer (some ⟨b, 0, none⟩), .slice (some ⟨gr, 0, none⟩) n n, .int .i64 (((nz12 t).length : Nat) : Int)] w2 (AnsZ12 w2 (nz12 (by12 (sm12 s) A)))) := by
    intro w2 gr nx' L R
    rw [HIL.out.1] at R
    exact pto12 b a n cap s K gs gf gn gr nx' A _ w2 L hW R HIL.out.2.1 HIL.out.2.2 (by rw [← HM.out]; have := HML.out.1; omega)
  generalize hbl : by12 (sm12 s) A = bl at *
  have HBL : Hid (bl.length = (nz12 t).length ∧ (nz12 bl).length = (nz12 t).length) := by
    have := HBO.len HOR
    rw [nz12_len, nz12_len]; exact ⟨this, this⟩
  have HNM : Hid (∀ w3 ta pa tc pc nx', Li12 w3 b a n cap s K gs gf gn nx' → SegZ w3 ta (nz12 t) → SegZ w3 pa (nz12 bl) → Calls Tryz.prog 199 #[.pointer (some ⟨b, 0, none⟩), .slice ta (nz12 t).length tc, .slice pa (nz12 t).length pc] w3 fun e w' => ∃ g2 N c, e = .returned (.tuple #[.slice (some ⟨g2, 0, none⟩) (nz12 t).length (nz12 t).length, .int .i64 ((c : Nat) : Int)]) ∧ c = cr12 (key12 n (S12 s) (sm12 s)) bl (nz12 t).length ∧ Rz12 w' g2 N ∧ w3.heap.size ≤ g2 ∧ N.length = (nz12 t).length ∧ Nm12 n (S12 s) (sm12 s) t N ∧ (∀ a, a < (nz12 t).length → 0 ≤ N.getD a 0 ∧ N.getD a 0 < (((nz12 t).length : Nat) : Int)) ∧ Below w3.heap.size w3 w') :=
    fun w3 ta pa tc pc nx' L s1 s2 => pnm12 b a n cap s K gs gf gn nx' ta pa t bl _ tc pc w3 L hW HOR HBO HBK HM.out HBL.out.1 (by rw [← HM.out]; have := HML.out.1; omega) s1 s2
  have HFULL : Hid (cr12 (key12 n (S12 s) (sm12 s)) bl (nz12 t).length = (nz12 t).length → bl.Pairwise (Ls12 n (S12 s))) := by
    intro hc
    rw [← HBL.out.1] at hc
    have hp := cr12_full HBK hc
    refine List.Pairwise.imp_of_mem (fun {i j} hi hj hh => ?_) hp
    exact hty.key_less (HBO.small i hi).1 (HBO.small j hj).1 hh
  have HBS : Hid (∀ w3 pa rc base, w3.ownsRow base 3 1 (.slice pa (nz12 bl).length rc) (nz12 bl).length ((nz12 bl).map (Value.int .i64)) → SegZ w3 pa (nz12 bl) ∧ (w.heap.size ≤ base → ∀ x off, pa = some ⟨x, off, none⟩ → 0 < (nz12 bl).length → x ≠ gn)) := by
    intro w3 pa rc base o3
    refine ⟨own_segZ o3 (nz12_bd (fun j hj => (HBO.small j hj).1) n24), fun hbs x off hx hp => ?_⟩
    subst hx
    have := (o3.lt x rfl).1
    have := HGN.out
    omega
  generalize hm : (nz12 t).length = m at *
  have HMN : Hid (m ≤ n ∧ (0 < n → m < n)) := by rw [← HM.out]; exact HML.out
  have hmn := HMN.out.1
  have HB2 : Hid ((nz12 bl).length = m) := HBL.out.2
  have HT2 := HT.mono (R' := fun e w1 => ∃ ra rc, e = .returned (.slice ra m rc) ∧ SegZ w1 ra (nz12 t) ∧ (∀ x off, ra = some ⟨x, off, none⟩ → 0 < m → x ≠ gn) ∧ Li12 w1 b a n cap s K gs gf gn nx ∧ Below w.heap.size w w1) (by
    rintro e w1 ⟨ra, rc, he, o1, b1⟩
    rw [hm] at he o1
    obtain ⟨p1, p2, p3⟩ := HP1.out w1 ra rc o1 b1
    exact ⟨ra, rc, he, p1, p2, p3, b1⟩)
  have HTO2 : Hid (∀ w2 gr nx', Li12 w2 b a n cap s K gs gf gn nx' → Rz12 w2 gr (il12 s t) → w.heap.size ≤ w2.heap.size → Calls Tryz.prog 198 #[.pointer (some ⟨b, 0, none⟩), .slice (some ⟨gr, 0, none⟩) n n, .int .i64 ((m : Nat) : Int)] w2 fun e w3 => ∃ pa pc, e = .returned (.slice pa m pc) ∧ SegZ w3 pa (nz12 bl) ∧ (∀ x off, pa = some ⟨x, off, none⟩ → 0 < m → x ≠ gn) ∧ Below w2.heap.size w2 w3) := fun w2 gr nx' L R hw => (HTO.out w2 gr nx' L R).mono (by
    rintro e w3 ⟨pa, pc, he, o3, b3⟩
    obtain ⟨p1, p2⟩ := HBS.out w3 pa pc w2.heap.size o3
    rw [HB2.out] at he p2
    exact ⟨pa, pc, he, p1, p2 hw, b3⟩)
  have HNM2 : Hid (∀ w3 ta pa tc pc nx', Li12 w3 b a n cap s K gs gf gn nx' → SegZ w3 ta (nz12 t) → SegZ w3 pa (nz12 bl) → Calls Tryz.prog 199 #[.pointer (some ⟨b, 0, none⟩), .slice ta m tc, .slice pa m pc] w3 fun e w' => ∃ g2 N, e = .returned (.tuple #[.slice (some ⟨g2, 0, none⟩) m m, .int .i64 ((cr12 (key12 n (S12 s) (sm12 s)) bl m : Nat) : Int)]) ∧ Rz12 w' g2 N ∧ N.length = m ∧ Nm12 n (S12 s) (sm12 s) t N ∧ (∀ a, a < m → 0 ≤ N.getD a 0 ∧ N.getD a 0 < ((m : Nat) : Int)) ∧ Below w3.heap.size w3 w') := fun w3 ta pa tc pc nx' L s1 s2 => (HNM.out w3 ta pa tc pc nx' L s1 s2).mono (by
    rintro e w' ⟨g2, N, c, he, hc, r1, r2, r3, r4, r5, r6⟩
    subst hc
    exact ⟨g2, N, he, r1, r3, r4, r5, r6⟩)
  have HSR : Hid (∀ w4 g2 (N : List Int), 2 ≤ m → Rz12 w4 g2 N → N.length = m → (∀ a, a < m → 0 ≤ N.getD a 0 ∧ N.getD a 0 < ((m : Nat) : Int)) → Calls Tryz.prog 122 #[.slice (some ⟨g2, 0, none⟩) m m] w4 (SrtQ12 w4 N m)) := fun w4 g2 N h2 RN hl hv => IH _ N m m m w4 (HMN.out.2 (by omega)) (RN.seg (by
      intro z hz
      obtain ⟨i, hi, rfl⟩ := List.mem_iff_getElem.1 hz
      have := hv i (by omega)
      have e : N.getD i 0 = N[i] := by simp [List.getD, hi]
      rw [e] at this
      omega)) ⟨hl, by omega, by omega, hv⟩
  have HORD : Hid (∀ (N : List Int) (AO : List Nat), N.length = m → Nm12 n (S12 s) (sm12 s) t N → Ar12 m (S12 N) AO → Or12 n (sm12 s) (AO.map (fun a => t.getD a n)) ∧ (AO.map (fun a => t.getD a n)).Pairwise (Ls12 n (S12 s))) := fun N AO hl hN hA => by
    rw [← hl] at hA
    exact hN.order hty HOR HTL.out hA
  have HTG : Hid (∀ j, j < m → t.getD j n < n ∧ (nz12 t).getD j 0 = ((t.getD j n : Nat) : Int)) := fun j hj => by
    have hj2 : j < t.length := by rw [HM.out]; exact hj
    exact ⟨HTS.out _ (getD_mem12 hj2), nz12_get t j n hj2⟩
  have HTN : Hid ((nz12 t).length = m) := hm
  have HOR2 : Hid (Or12 n (sm12 s) t) := HOR
  have HBO2 : Hid (Or12 n (sm12 s) bl) := HBO
  have HBM : Hid (bl.length = m) := HBL.out.1
  have HTM : Hid (t.length = m) := HM.out
  clear HT HP1 HTO HNM HBS HOR HBO HBK
  go_enter Tryz.func165, Tryz.ntmps165
  by_cases hm2 : m < 2
  · have hm2i : (m : Int) < 2 := by omega
    clear HPI HTO2 HNM2 HFULL HSR
    go_wp2_with (first
      | (go_at_call 197; refine HT2.mono ?_; rintro e1 w1 ⟨ra, rc, rfl, sg1, ne1, L1, B1⟩))
    go_ret
    exact ⟨ra, t, m, rc, rfl, HTM.out, by omega, ⟨sg1, fun x off hx hp => ne1 x off hx (by rw [← HTN.out]; exact hp), HOR2.out, HSH.out (by rw [HTM.out]; exact hm2), ⟨_, L1⟩, Kp.of_below B1⟩⟩
  · have hm2i : ¬ (m : Int) < 2 := by omega
    have hmm : 2 ≤ m := by omega
    generalize hCR : cr12 (key12 n (S12 s) (sm12 s)) bl m = CR at *
    have HSG : Hid (∀ w1 w2 ra, SegZ w1 ra (nz12 t) → (∀ x off, ra = some ⟨x, off, none⟩ → 0 < m → x ≠ gn) → Kp (fun k => k = gn) w1 w2 → SegZ w2 ra (nz12 t)) := fun w1 w2 ra s1 n1 k => s1.kp k (fun x off hx hp => n1 x off hx (by rw [← HTN.out]; exact hp))
    have HCRB : Hid (CR ≤ m) := by show _ ≤ _; rw [← hCR]; exact cr12_le m
    have hcrb := HCRB.out
    by_cases hcm : CR = m
    · subst hcm
      have HFU := HFULL.out rfl
      have HFU2 : Hid (bl.Pairwise (Ls12 n (S12 s))) := HFU
      clear HSR HFU HFULL hCR
      go_wp2_with (first
        | (go_at_call 197; refine HT2.mono ?_; rintro e1 w1 ⟨ra, rc, rfl, sg1, ne1, L1, B1⟩)
        | (go_at_call 164; refine (HPI.out w1 ra rc L1 sg1 ne1).mono ?_; rintro e2 w2 ⟨rfl, R2, ⟨nx2, L2⟩, K2⟩)
        | (go_at_call 198; refine (HTO2.out w2 _ nx2 L2 R2 (Nat.le_trans B1.size K2.size)).mono ?_; rintro e3 w3 ⟨pa, pc, rfl, sg3, ne3, B3⟩)
        | (go_at_call 199; refine (HNM2.out w3 ra pa rc pc nx2 (L2.old B3) ((HSG.out w1 w2 ra sg1 ne1 K2).old B3) sg3).mono ?_; rintro e4 w4 ⟨g2, N, rfl, RN, hNl, hNm, hNv, B4⟩))
      go_ret
      exact ⟨pa, bl, _, pc, rfl, HBM.out, by omega, ⟨sg3.old B4, fun x off hx hp => ne3 x off hx (by rw [← HB2.out]; exact hp), HBO2.out, HFU2.out, ⟨_, (L2.old B3).old B4⟩, (((Kp.of_below (S := fun k => k = gn) B1).trans K2 (fun _ _ e => e)).trans (Kp.of_below (S := fun k => k = gn) B3) (fun _ _ e => e)).trans (Kp.of_below (S := fun k => k = gn) B4) (fun _ _ e => e)⟩⟩
    · have hci : ¬ (CR : Int) = (m : Int) := by omega
      clear HFULL hCR
      go_wp2_with (first
        | (go_at_call 197; refine HT2.mono ?_; rintro e1 w1 ⟨ra, rc, rfl, sg1, ne1, L1, B1⟩)
        | (go_at_call 164; refine (HPI.out w1 ra rc L1 sg1 ne1).mono ?_; rintro e2 w2 ⟨rfl, R2, ⟨nx2, L2⟩, K2⟩)
        | (go_at_call 198; refine (HTO2.out w2 _ nx2 L2 R2 (Nat.le_trans B1.size K2.size)).mono ?_; rintro e3 w3 ⟨pa, pc, rfl, sg3, ne3, B3⟩)
        | (go_at_call 199; refine (HNM2.out w3 ra pa rc pc nx2 (L2.old B3) ((HSG.out w1 w2 ra sg1 ne1 K2).old B3) sg3).mono ?_; rintro e4 w4 ⟨g2, N, rfl, RN, hNl, hNm, hNv, B4⟩)
        | (go_at_call 122; refine (HSR.out w4 g2 N hmm RN hNl hNv).mono ?_; rintro e5 w5 ⟨gO, AO, rfl, RO, hgO, hAO, B5⟩))
      have sg4 : SegZ w4 ra (nz12 t) := ((HSG.out w1 w2 ra sg1 ne1 K2).old B3).old B4
      have L4 := (L2.old B3).old B4
      have KK : Kp (fun k => k = gn) w w4 := (((Kp.of_below (S := fun k => k = gn) B1).trans K2 (fun _ _ e => e)).trans (Kp.of_below (S := fun k => k = gn) B3) (fun _ _ e => e)).trans (Kp.of_below (S := fun k => k = gn) B4) (fun _ _ e => e)
      obtain ⟨HO1, HO2⟩ := HORD.out N AO hNl hNm hAO
      have HAG : Hid (∀ q, q < m → AO.getD q 0 < m) := fun q hq => hAO.lt _ (getD_mem12 (by rw [hAO.len]; exact hq))
      have HAL : Hid (AO.length = m) := hAO.len
      have HOO : Hid (Or12 n (sm12 s) (AO.map (fun a => t.getD a n)) ∧ (AO.map (fun a => t.getD a n)).Pairwise (Ls12 n (S12 s))) := ⟨HO1, HO2⟩
      clear HT2 HPI HTO2 HNM2 HSR HORD hNm hNv hAO HO1 HO2 RN R2 L1 L2 sg1 sg3 B3 B1 K2
      go_wp2_with fail
      go_loopw [42] (fun ti wr => ∃ (r : Nat) (R' : List Int), r ≤ m ∧ ti = .int .i64 r ∧ Rz12 wr gO R' ∧ R'.length = m ∧ Hid (∀ q, q < m → R'.getD q 0 = if q < r then ((t.getD (AO.getD q 0) n : Nat) : Int) else ((AO.getD q 0 : Nat) : Int)) ∧ Below w4.heap.size w4 wr) (fun ti _ => m - (intOf ti).toNat)
      case atStart => exact ⟨0, _, Nat.zero_le _, rfl, RO, by rw [nz12_len]; exact HAL.out, (fun q hq => by rw [if_neg (by omega)]; exact nz12_get AO q 0 (by rw [HAL.out]; exact hq) : ∀ q, q < m → _), B5⟩
      case round =>
        obtain ⟨r, R', hr, rfl, hR, hRl, HRV, hb⟩ := hrel
        by_cases h9 : r < m
        · have h9i : (r : Int) < (m : Int) := by omega
          have hjm := HAG.out r h9
          have k1 := hR.cell (i := r) (by omega)
          have k2 := hR.free r
          have e1 := HRV.out r h9
          rw [if_neg (by omega)] at e1
          rw [e1] at k1
          obtain ⟨tb, toff, rfl, c1⟩ := (sg4.old hb).at_ (AO.getD r 0) (by rw [HTN.out]; exact hjm)
          obtain ⟨htn, ej⟩ := HTG.out _ hjm
          rw [ej] at c1
          have ijm : ((AO.getD r 0 : Nat) : Int) < (m : Int) := by omega
          have HS1 : Hid (Rz12 (wr.setCell ⟨gO, r, none⟩ (.int .i64 ((t.getD (AO.getD r 0) n : Nat) : Int))) gO (R'.set r ((t.getD (AO.getD r 0) n : Nat) : Int))) := hR.set _ _
          have HS2 : Hid (∀ q, q < m → (R'.set r ((t.getD (AO.getD r 0) n : Nat) : Int)).getD q 0 = if q < r + 1 then ((t.getD (AO.getD q 0) n : Nat) : Int) else ((AO.getD q 0 : Nat) : Int)) := by
            intro q hq
            rw [getD_set12 _ _ _ _ (by omega)]
            by_cases e : q = r
            · subst e; rw [if_pos rfl, if_pos (by omega)]
            · rw [if_neg e, HRV.out q hq]
              by_cases h8 : q < r
              · rw [if_pos h8, if_pos (by omega)]
              · rw [if_neg h8, if_neg (by omega)]
          have HS4 : Hid (Below w4.heap.size w4 (wr.setCell ⟨gO, r, none⟩ (.int .i64 ((t.getD (AO.getD r 0) n : Nat) : Int)))) := hb.trans ((Kp.set (S := fun j => j = gO) rfl _).below (fun j h => by omega) hb.size)
          clear ej e1 hR
          generalize AO.getD r 0 = j at *
          generalize t.getD j n = y at *
          go_wp2_with fail
          go_roundw
          case rel => exact ⟨r + 1, _, by omega, by go_num, HS1.out, by rw [List.length_set]; exact hRl, HS2.out, HS4.out⟩
          case measure => simp [intOf]; omega
        · have h9i : ¬ (r : Int) < (m : Int) := by omega
          obtain rfl : r = m := by omega
          have hE : R' = nz12 (AO.map (fun a => t.getD a n)) := by
            refine ext12 (d := 0) (by rw [nz12_len, List.length_map, HAL.out, hRl]) fun q hq => ?_
            rw [hRl] at hq
            rw [HRV.out q hq, if_pos hq, nz12_get _ q n (by rw [List.length_map, HAL.out]; exact hq)]
            have hq2 : q < AO.length := by rw [HAL.out]; exact hq
            simp [List.getD, hq2]
          rw [hE] at hR
          have hol : (AO.map (fun a => t.getD a n)).length = r := by rw [List.length_map, HAL.out]
          go_wp2_with fail
          go_ret
          exact ⟨_, AO.map (fun a => t.getD a n), r, r, rfl, hol, by omega, ⟨hR.seg (nz12_bd (fun j hj => (HOO.out.1.small j hj).1) n24), fun x off hx hp => by cases hx; have := HGN.out; have := KK.size; omega, HOO.out.1, HOO.out.2, ⟨_, L4.old hb⟩, KK.trans (Kp.of_below (S := fun k => k = gn) hb) (fun _ _ e => e)⟩⟩
end Go.Proofs.YtmfpdchfofffeaaGreatDoor

namespace Go.Proofs.YtmfpdchfofffeaaGreatDoor
open Go.RowKit
set_option linter.unusedVariables false
set_option maxRecDepth 100000 in
set_option maxHeartbeats 2000000 in
theorem psrt12 (n : Nat) : ∀ (a : Option Addr) (s : List Int) (cap M : Nat) (w : World), SegZ w a s → Wf12 s n M → Calls Tryz.prog 122 #[.slice a n cap] w (SrtQ12 w s n) := by
  induction n using Nat.strongRecOn with
  | ind n ih =>
    intro a s cap M w hs hW
    have hn : Hid (s.length = n) := hW.len
    have hty : Ty12 n (S12 s) (sm12 s) := by have := ty12 s; rw [hn.out] at this; exact this
    have HNL := pnl12 a s n cap M w hs hW
    have HRK : Hid (∀ w1 b gs gf gn, Li12 w1 b a n cap s (mx12 s) gs gf gn (List.replicate (mx12 s) 0) → Calls Tryz.prog 165 #[.pointer (some ⟨b, 0, none⟩)] w1 (RkQ12 w1 b a n cap s (mx12 s) gs gf gn)) :=
      fun w1 b gs gf gn L => prk12 b a n cap s (mx12 s) gs gf gn _ w1 L hW.mx (fun a' s' n' c' M' w' hlt h1 h2 => ih n' hlt a' s' c' M' w' h1 h2)
    have HIN : Hid (∀ w2 b gs gf gn nx2 ra o m rc, Li12 w2 b a n cap s (mx12 s) gs gf gn nx2 → Or12 n (sm12 s) o → Hid (o.length = m) → m ≤ 16777216 → SegZ w2 ra (nz12 o) → (∀ x off, ra = some ⟨x, off, none⟩ → 0 < (nz12 o).length → x ≠ gn) → Calls Tryz.prog 164 #[.pointer (some ⟨b, 0, none⟩), .slice ra m rc] w2 fun e w' => e = .returned (.slice (some ⟨w2.heap.size, 0, none⟩) n n) ∧ Rz12 w' w2.heap.size (il12 s o) ∧ (∃ nx', Li12 w' b a n cap s (mx12 s) gs gf gn nx') ∧ Kp (fun k => k = gn) w2 w') :=
      fun w2 b gs gf gn nx2 ra o m rc L ho hm hmb hsg hne => pind12 b a n cap s (mx12 s) gs gf gn nx2 ra o m rc w2 L hW.mx ho hm hmb hsg hne
    have HFI : Hid (∀ w3 g o, Or12 n (sm12 s) o → o.Pairwise (Ls12 n (S12 s)) → Rz12 w3 g (il12 s o) → ∃ A, Rz12 w3 g (nz12 A) ∧ Ar12 n (S12 s) A) := by
      intro w3 g o ho hso R3
      have hpm := ind12_pm (S := S12 s) hty ho
      refine ⟨row12 n (ind12 n (S12 s) (sm12 s) o), ?_, ar12_ind hty ho hso⟩
      have e : il12 s o = nz12 (row12 n (ind12 n (S12 s) (sm12 s) o)) := by
        unfold il12 nz12
        rw [hn.out, row12_ints hpm]
      rw [← e]; exact R3
    clear ih hW
    go_enter Tryz.func122, Tryz.ntmps122
    go_wp2_with (first
      | (go_at_call 163; refine HNL.mono ?_; rintro e1 w1 ⟨b, gs, gf, gn, rfl, L1, hgn, B1⟩)
      | (go_at_call 165; refine (HRK.out w1 b gs gf gn L1).mono ?_; rintro e2 w2 ⟨ra, o, m, rc, rfl, hm, hmb, RK⟩; obtain ⟨nx2, L2⟩ := RK.li)
      | (go_at_call 164; refine (HIN.out w2 b gs gf gn nx2 ra o m rc L2 RK.or hm hmb RK.seg RK.ne).mono ?_; rintro e3 w3 ⟨rfl, R3, _, K3⟩))
    go_ret
    obtain ⟨A, RA, hA⟩ := HFI.out w3 _ o RK.or RK.so R3
    have B2 : Below w.heap.size w1 w2 := RK.kp.below (fun i e => by omega) B1.size
    have B3 : Below w.heap.size w2 w3 := K3.below (fun i e => by omega) (Nat.le_trans B1.size B2.size)
    exact ⟨w2.heap.size, A, rfl, RA, Nat.le_trans B1.size B2.size, hA, (B1.trans B2).trans B3⟩
theorem ref12_ok {k : Int} {s : List Int} {n : Nat} (hn : s.length = n) (h : ref12 k s = 0) : Wf12 s n k.toNat := by
  unfold ref12 at h
  split at h
  · omega
  · split at h
    · omega
    · rename_i h1 h2
      unfold rv12 at h
      split at h
      · rename_i h3
        refine ⟨hn, by omega, by omega, fun i hi => ?_⟩
        unfold vals12 at h3
        rw [List.all_eq_true] at h3
        have hl : i < s.length := by omega
        have := h3 s[i] (List.getElem_mem hl)
        have e : s.getD i 0 = s[i] := by simp [List.getD, hl]
        rw [e]
        simp only [Bool.and_eq_true, decide_eq_true_eq] at this
        omega
      · omega
def ArrQ12 (w : World) (s : List Int) (n : Nat) (e : Ending) (w' : World) : Prop := ∃ g A, e = .returned (.tuple #[.slice (some ⟨g, 0, none⟩) n n, .int .i64 0]) ∧ Rz12 w' g (nz12 A) ∧ w.heap.size ≤ g ∧ Ar12 n (S12 s) A ∧ Below w.heap.size w w'
set_option maxRecDepth 100000 in
set_option maxHeartbeats 2000000 in
theorem parr12 (k : Int) (a : Option Addr) (s : List Int) (n cap : Nat) (w : World) (hs : SegZ w a s) (hn : Hid (s.length = n)) (hk : -9223372036854775808 ≤ k ∧ k ≤ 9223372036854775807) (hr : Hid (ref12 k s = 0)) :
    Calls Tryz.prog 82 #[.int .i64 k, .slice a n cap] w (ArrQ12 w s n) := by
  have hW := ref12_ok hn.out hr.out
  have HR := pref12 k a s n cap w hs hn (by have := hW.n24; omega) hk
  rw [hr.out] at HR
  have HS : Hid (∀ w1, Below w.heap.size w w1 → Calls Tryz.prog 122 #[.slice a n cap] w1 (SrtQ12 w1 s n)) := fun w1 b1 => psrt12 n a s cap _ w1 (hs.old b1) hW
  clear hW
  go_enter Tryz.func82, Tryz.ntmps82
  go_wp2_with (first
    | (go_at_call 121; refine HR.mono ?_; rintro e1 w1 ⟨rfl, B1⟩)
    | (go_at_call 122; refine (HS.out w1 B1).mono ?_; rintro e2 w2 ⟨g, A, rfl, RA, hg, hA, B2⟩))
  refine bodyPost_ret (results_tmp2 rfl _ _ _) rfl ?_
  exact ⟨g, A, rfl, RA, Nat.le_trans B1.size hg, hA, B1.trans (B2.mono B1.size)⟩
end Go.Proofs.YtmfpdchfofffeaaGreatDoor

namespace Go.Proofs.YtmfpdchfofffeaaGreatDoor
set_option linter.unusedVariables false
theorem Ar12.get {n : Nat} {S : Nat → Int} {A : List Nat} (h : Ar12 n S A) {r : Nat} (hr : r < n) : A.getD r 0 < n := by
  have hl : r < A.length := by rw [h.len]; exact hr
  have := h.lt A[r] (List.getElem_mem hl)
  simpa [List.getD, hl] using this
theorem Ar12.pair {n : Nat} {S : Nat → Int} {A : List Nat} (h : Ar12 n S A) {r q : Nat} (hr : r < q) (hq : q < n) : Ls12 n S (A.getD r 0) (A.getD q 0) := by
  have hl : q < A.length := by rw [h.len]; exact hq
  have := List.pairwise_iff_getElem.1 h.so r q (by omega) hl hr
  have h2 : r < A.length := by omega
  simpa [List.getD, hl, h2] using this
theorem Ar12.inj {n : Nat} {S : Nat → Int} {A : List Nat} (h : Ar12 n S A) {r q : Nat} (hr : r < n) (hq : q < n) (e : A.getD r 0 = A.getD q 0) : r = q := by
  rcases Nat.lt_trichotomy r q with k | k | k
  · have := h.pair k hq; rw [e] at this; exact this.irrefl.elim
  · exact k
  · have := h.pair k hr; rw [e] at this; exact this.irrefl.elim
def rk13 (A : List Nat) (j : Nat) : Nat := A.idxOf j
theorem Ar12.rk {n : Nat} {S : Nat → Int} {A : List Nat} (h : Ar12 n S A) {j : Nat} (hj : j < n) : rk13 A j < n ∧ A.getD (rk13 A j) 0 = j := by
  have hm := h.all j hj
  have hl : rk13 A j < A.length := List.idxOf_lt_length_of_mem hm
  refine ⟨by rw [← h.len]; exact hl, ?_⟩
  have e := List.getElem_idxOf hl
  simp only [List.getD, List.getElem?_eq_getElem hl, Option.getD_some]
  exact e
theorem Ar12.rk_at {n : Nat} {S : Nat → Int} {A : List Nat} (h : Ar12 n S A) {r : Nat} (hr : r < n) : rk13 A (A.getD r 0) = r := by
  obtain ⟨h1, h2⟩ := h.rk (h.get hr)
  exact h.inj h1 hr h2
theorem Ar12.rk_none {n : Nat} {S : Nat → Int} {A : List Nat} (h : Ar12 n S A) : rk13 A n = n := by
  have : n ∉ A := fun hm => by have := h.lt n hm; omega
  unfold rk13
  rw [List.idxOf_eq_length this, h.len]
/-- The ranks of the places, of which so many are told. -/
def rp13 (n : Nat) (A : List Nat) (k : Nat) : List Int := (List.range (n + 1)).map fun j => if rk13 A j < k then ((rk13 A j : Nat) : Int) else 0
def rr13 (n : Nat) (A : List Nat) : List Int := (rp13 n A n).set n (-1)
theorem rp13_len (n : Nat) (A : List Nat) (k : Nat) : (rp13 n A k).length = n + 1 := by simp [rp13]
theorem rp13_zero (n : Nat) (A : List Nat) : rp13 n A 0 = List.replicate (n + 1) 0 := by
  refine List.ext_getElem (by simp [rp13]) fun i h1 h2 => ?_
  simp [rp13]
theorem rp13_set {n : Nat} {S : Nat → Int} {A : List Nat} (h : Ar12 n S A) {k : Nat} (hk : k < n) : (rp13 n A k).set (A.getD k 0) (k : Int) = rp13 n A (k + 1) := by
  refine List.ext_getElem (by simp [rp13]) fun i h1 h2 => ?_
  simp [rp13] at h2
  rw [List.getElem_set]
  by_cases e : A.getD k 0 = i
  · rw [if_pos e]
    have := h.rk_at hk
    rw [e] at this
    simp [rp13, this]
  · rw [if_neg e]
    simp only [rp13, List.getElem_map, List.getElem_range]
    have : rk13 A i ≠ k := by
      intro c
      rcases Nat.lt_or_ge i n with hi | hi
      · exact e (by rw [← c]; exact (h.rk hi).2)
      · have : i = n := by omega
        subst this
        rw [h.rk_none] at c
        omega
    by_cases c : rk13 A i < k
    · rw [if_pos c, if_pos (by omega)]
    · rw [if_neg c, if_neg (by omega)]
end Go.Proofs.YtmfpdchfofffeaaGreatDoor

namespace Go.Proofs.YtmfpdchfofffeaaGreatDoor
open Go.RowKit
set_option linter.unusedVariables false
theorem info_y13 : (Tryz.prog.info? 5).map (fun i => (i.zero, i.size, i.bytes)) = some (some (.int .u8 0), 1, 1) := by kernel_rfl
theorem own_le13 {w : World} {base n : Nat} {e : TypeId} {a : Option Addr} {cap : Nat} {xs : List Value} (h : w.ownsRow base e 1 (.slice a n cap) n xs) : n ≤ cap := by
  rcases h.2 with ⟨h1, h2⟩ | ⟨g, cp, cur, hv, hg, hh, hc, _⟩
  · omega
  · simp only [Value.slice.injEq] at hv
    omega
set_option maxRecDepth 100000 in
set_option maxHeartbeats 1000000 in
theorem pclb13 (a : Option Addr) (zs : List Int) (n cap : Nat) (w : World) (hs : Seg w a zs) (hn : Hid (zs.length = n)) (hnil : a = none → cap = 0) (hl : n ≤ 140737488351232) :
    Calls Tryz.prog 74 #[.slice a n cap] w fun e w' => ∃ ra rc, e = .returned (.slice ra n rc) ∧ (ra = none → rc = 0 ∧ a = none) ∧ w'.ownsRow w.heap.size 5 1 (.slice ra n rc) n (zs.map (Value.int .u8)) ∧ Below w.heap.size w w' := by
  obtain ⟨i0, hi, hz0, hz1, hz2⟩ := info_parts info_y13
  cases a with
  | none =>
    have h0 : zs = [] := by
      cases zs with
      | nil => rfl
      | cons z r => obtain ⟨b, off, hx, _⟩ := hs.at_ 0 (by simp); cases hx
    subst h0
    obtain rfl : n = 0 := hn.out.symm
    obtain rfl := hnil rfl
    clear hnil hn hs
    have HE := Go.Lib.run_eql_slice_nil (P := Tryz.prog) w 36 5 none 0 0 0 0 Tryz.underlying36
    go_enter Tryz.func74, Tryz.ntmps74
    go_wp2_with fail
    go_ret
    exact ⟨none, 0, rfl, fun _ => ⟨rfl, by first | trivial | rfl⟩, World.ownsRow_nil _ _ _ _, Below.refl _ _⟩
  | some ad =>
    have hm0 : (w.alloc (.cells #[] 5)).ownsRow w.heap.size 5 1 (.slice (some ⟨w.heap.size, 0, none⟩) 0 0) 0 [] := World.ownsRow_made w #[] 0 (Nat.le_refl _) (by decide) rfl
    have hb0 : Below w.heap.size w (w.alloc (.cells #[] 5)) := (Below.refl _ _).alloc (Nat.le_refl _) _
    have hs1 := hs.alloc (.cells #[] 5)
    have e0 := hn.out
    subst e0
    clear hn hnil hs
    have HE := fun c => Go.Lib.run_eql_slice_nil (P := Tryz.prog) w 36 5 (some ad) zs.length c 0 0 Tryz.underlying36
    go_enter Tryz.func74, Tryz.ntmps74
    go_wp2_with (first
      | (at_builtin; refine wpList_appS rfl (.tmp 5) (.tmp 6) 36 rfl w.heap.size 5 i0 (.int .u8 0) 1 Tryz.underlying36 hi hz0 hz1 hz2 rfl hm0 hs1 (by intro h; cases h) rfl rfl (by omega) (by omega) (by have := hb0.size; omega) ?_; intro a1 c1 w1 hown1 hg1 hf1 hn1; have hb1 := hb0.trans (below_own hm0 hg1 (by have := hb0.size; omega)); clear hf1 hg1; rw [Nat.zero_add, List.nil_append] at hown1))
    go_ret
    refine ⟨a1, c1, by simp, fun h => ?_, hown1, hb1⟩
    subst h
    rcases hown1.2 with ⟨h1, h2⟩ | ⟨g, cp, cur, hv, _⟩
    · rw [Nat.zero_add] at hn1
      have := hn1.1 h1
      simp at this
    · simp at hv
theorem seg_bd13 {w : World} {a : Option Addr} {z : List Int} (hs : Seg w a z) : ∀ y ∈ z, 0 ≤ y ∧ y ≤ 255 := hs.mem
theorem bd13 {z : List Int} (h : ∀ y ∈ z, 0 ≤ y ∧ y ≤ 255) : ∀ y ∈ z, -9223372036854775808 ≤ y ∧ y ≤ 9223372036854775807 := fun y hy => by have := h y hy; omega
theorem own_seg13 {w : World} {base n : Nat} {a : Option Addr} {cap : Nat} {zs : List Int} (h : w.ownsRow base 5 1 (.slice a n cap) n (zs.map (Value.int .u8))) (hb : ∀ y ∈ zs, 0 ≤ y ∧ y ≤ 255) : Seg w a zs := by
  have hl : zs.length = n := by simpa using h.1
  have bd : ∀ i, 0 ≤ zs.getD i 0 ∧ zs.getD i 0 ≤ 255 := fun i => by
    by_cases hi : i < zs.length
    · have := hb zs[i] (List.getElem_mem hi)
      simpa [List.getD, hi] using this
    · have : zs[i]? = none := List.getElem?_eq_none (by omega)
      simp [List.getD, this]
  rcases h.2 with ⟨h1, hn⟩ | ⟨g, cap', cur, hv, hg, hh, hc, _, _, ht⟩
  · have : zs = [] := List.eq_nil_of_length_eq_zero (by omega)
    subst this
    exact SegK.nil (by decide) _ _
  · simp only [Value.slice.injEq] at hv
    obtain ⟨rfl, _, rfl⟩ := hv
    refine ⟨fun i hi => ⟨g, 0, rfl, ?_⟩, by decide, bd⟩
    have := h.cells (g := g) rfl i (.int .u8 (zs.getD i 0)) (by simp [List.getD, hi])
    have hadd : (⟨g, 0, none⟩ : Addr).add i = ⟨g, 0 + i, none⟩ := by unfold Addr.add; split <;> simp_all
    rw [hadd] at this
    exact this
def wds13 (z : List Int) (k : Nat) : List Int := (z.take k) ++ List.replicate (z.length - k) 0
theorem wds13_len (z : List Int) (k : Nat) (h : k ≤ z.length) : (wds13 z k).length = z.length := by simp [wds13]; omega
theorem wds13_zero (z : List Int) : wds13 z 0 = List.replicate z.length 0 := by simp [wds13]
theorem wds13_all (z : List Int) : wds13 z z.length = z := by simp [wds13]
theorem wds13_set (z : List Int) (k : Nat) (h : k < z.length) : (wds13 z k).set k (z.getD k 0) = wds13 z (k + 1) := by
  unfold wds13
  have e : z.length - k = (z.length - (k + 1)) + 1 := by omega
  rw [e, List.replicate_succ, List.set_append_right _ _ (by simp; omega), take_snocZ h]
  have : k - (z.take k).length = 0 := by simp; omega
  rw [this, List.set_cons_zero, List.append_assoc]
  rfl
set_option maxRecDepth 100000 in
set_option maxHeartbeats 2000000 in
theorem pnum13 (a : Option Addr) (z : List Int) (n cap : Nat) (w : World) (hs : Seg w a z) (hn : Hid (z.length = n)) (hb : n ≤ 16777216000) :
    Calls Tryz.prog 83 #[.slice a n cap] w fun e w' => e = .returned (.slice (some ⟨w.heap.size, 0, none⟩) n n) ∧ Rz12 w' w.heap.size z ∧ Below w.heap.size w w' := by
  have HM := run_make_i12 n (by omega) w
  have hal : Below w.heap.size w (w.alloc (.cells (vi12 (List.replicate n 0)) 3)) := (Below.refl _ _).alloc (Nat.le_refl _) _
  have hr0 := Rz12.new w (List.replicate n 0)
  have HZ : Hid (List.replicate n (0 : Int) = wds13 z 0) := by show _ = _; rw [wds13_zero, hn.out]
  have HWA : Hid (wds13 z n = z) := by show _ = _; rw [← hn.out]; exact wds13_all z
  rw [HZ.out] at hal hr0 HM
  have HSD : Hid (∀ w', Below w.heap.size w w' → Seg w' a z) := fun w' b => hs.old b
  have HVB : Hid (∀ i, 0 ≤ z.getD i 0 ∧ z.getD i 0 ≤ 255) := hs.bd
  clear hs
  generalize hg : w.heap.size = g at *
  generalize hw1 : w.alloc (.cells (vi12 (wds13 z 0)) 3) = w1 at *
  have HG : Hid (w.heap.size = g) := hg
  clear hg hw1
  go_enter Tryz.func83, Tryz.ntmps83
  go_wp2_with fail
  go_loopw [11] (fun ti wr => ∃ i : Nat, i ≤ n ∧ ti = .int .i64 i ∧ Rz12 wr g (wds13 z i) ∧ Below g w wr) (fun ti _ => n - (intOf ti).toNat)
  case atStart => exact ⟨0, Nat.zero_le _, rfl, hr0, hal⟩
  case round =>
    obtain ⟨i, hi, rfl, hR, hb2⟩ := hrel
    by_cases h1 : i < n
    · have h1i : (i : Int) < (n : Int) := by omega
      obtain ⟨bb, off, rfl, c1⟩ := (HSD.out wr hb2).at_ i (by rw [hn.out]; exact h1)
      have hv := HVB.out i
      have k1 := hR.cell (i := i) (by rw [wds13_len z i (by rw [hn.out]; omega), hn.out]; exact h1)
      have k2 := hR.free i
      have HS1 : Hid (Rz12 (wr.setCell ⟨g, i, none⟩ (.int .i64 (z.getD i 0))) g (wds13 z (i + 1))) := by
        have := hR.set i (z.getD i 0)
        rw [wds13_set z i (by rw [hn.out]; exact h1)] at this
        exact this
      have HS4 : Hid (Below g w (wr.setCell ⟨g, i, none⟩ (.int .i64 (z.getD i 0)))) := hb2.trans ((Kp.set (S := fun j => j = g) rfl _).below (fun j h => by omega) (by have := hR.lt; omega))
      clear hR
      generalize (wds13 z i).getD i 0 = y at *
      generalize z.getD i 0 = v at *
      go_wp2_with fail
      go_roundw
      case rel => exact ⟨i + 1, by omega, by go_num, HS1.out, HS4.out⟩
      case measure => simp [intOf]; omega
    · have h1i : ¬ (i : Int) < (n : Int) := by omega
      obtain rfl : i = n := by omega
      rw [HWA.out] at hR
      go_wp2_with fail
      go_ret
      exact ⟨rfl, hR, hb2⟩
theorem ref13 {z : List Int} {n : Nat} (hn : z.length = n) (h24 : n ≤ 16777216) (hv : ∀ y ∈ z, 0 ≤ y ∧ y ≤ 255) : ref12 256 z = 0 := by
  unfold ref12
  rw [if_neg (by omega), hn, if_neg (by omega)]
  have h2 : vals12 256 z = true := by
    unfold vals12
    rw [List.all_eq_true]
    intro y hy
    have := hv y hy
    simp only [Bool.and_eq_true, decide_eq_true_eq]
    omega
  unfold rv12
  rw [h2]
  rfl
def SoQ13 (w : World) (z : List Int) (n : Nat) (e : Ending) (w' : World) : Prop := ∃ g A, e = .returned (.tuple #[.slice (some ⟨g, 0, none⟩) n n, .int .i64 0]) ∧ Rz12 w' g (nz12 A) ∧ w.heap.size ≤ g ∧ Ar12 n (S12 z) A ∧ Below w.heap.size w w'
set_option maxRecDepth 100000 in
set_option maxHeartbeats 2000000 in
theorem psort13 (a : Option Addr) (z : List Int) (n cap : Nat) (w : World) (hs : Seg w a z) (hn : Hid (z.length = n)) (hb : n ≤ 16777216) :
    Calls Tryz.prog 50 #[.slice a n cap] w (SoQ13 w z n) := by
  have HN := pnum13 a z n cap w hs hn (by omega)
  have hv := seg_bd13 hs
  have HA : Hid (∀ w1 g, Rz12 w1 g z → Calls Tryz.prog 82 #[.int .i64 256, .slice (some ⟨g, 0, none⟩) n n] w1 (ArrQ12 w1 z n)) := fun w1 g R => parr12 256 (some ⟨g, 0, none⟩) z n n w1 (R.seg (bd13 hv)) hn (by omega) (ref13 hn.out hb hv)
  have h24 : ¬ (16777216 : Int) < (n : Int) := by omega
  clear hv hs
  go_enter Tryz.func50, Tryz.ntmps50
  go_wp2_with (first
    | (go_at_call 83; refine HN.mono ?_; rintro e1 w1 ⟨rfl, R1, B1⟩)
    | (go_at_call 82; refine (HA.out w1 _ R1).mono ?_; rintro e2 w2 ⟨g, A, rfl, RA, hg, hA, B2⟩))
  refine bodyPost_ret (results_tmp2 rfl _ _ _) rfl ?_
  exact ⟨g, A, rfl, RA, Nat.le_trans B1.size hg, hA, B1.trans (B2.mono B1.size)⟩
end Go.Proofs.YtmfpdchfofffeaaGreatDoor
