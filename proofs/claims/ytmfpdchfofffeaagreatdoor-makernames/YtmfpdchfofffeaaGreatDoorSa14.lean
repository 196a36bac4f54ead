import Derived.Test.YtmfpdchfofffeaaGreatDoorSa12
import Derived.Test.YtmfpdchfofffeaaGreatDoorSa13
namespace Go.Proofs.YtmfpdchfofffeaaGreatDoor
open Go.RowKit
set_option linter.unusedVariables false
theorem nodup_len12 : ∀ (a b : List Nat), a.Nodup → (∀ x ∈ a, x ∈ b) → a.length ≤ b.length
  | [], b, _, _ => by simp
  | x :: a, b, hn, hs => by
    have hx := hs x (by simp)
    have h1 := nodup_len12 a (b.erase x) (List.nodup_cons.1 hn).2 (fun y hy => (List.mem_erase_of_ne (by rintro rfl; exact (List.nodup_cons.1 hn).1 hy)).2 (hs y (by simp [hy])))
    rw [List.length_erase_of_mem hx] at h1
    have h2 : 0 < b.length := List.length_pos_of_mem hx
    simp; omega
theorem Or12.len {n : Nat} {sm : Nat → Bool} {a b : List Nat} (ha : Or12 n sm a) (hb : Or12 n sm b) : a.length = b.length :=
  Nat.le_antisymm (nodup_len12 a b ha.nd (fun x hx => (hb.mem x).2 ((ha.mem x).1 hx))) (nodup_len12 b a hb.nd (fun x hx => (ha.mem x).2 ((hb.mem x).1 hx)))
theorem getD_mem12 {l : List Nat} {i d : Nat} (h : i < l.length) : l.getD i d ∈ l := by
  have : l.getD i d = l[i] := by simp [List.getD, h]
  rw [this]; exact List.getElem_mem h
theorem getD_inj12 {l : List Nat} {i j d : Nat} (hn : l.Nodup) (hi : i < l.length) (hj : j < l.length) (e : l.getD i d = l.getD j d) : i = j := by
  have e1 : l.getD i d = l[i] := by simp [List.getD, hi]
  have e2 : l.getD j d = l[j] := by simp [List.getD, hj]
  rw [e1, e2] at e
  rcases Nat.lt_trichotomy i j with k | k | k
  · exact absurd e (List.pairwise_iff_getElem.1 hn i j hi hj k)
  · exact k
  · exact absurd e.symm (List.pairwise_iff_getElem.1 hn j i hj hi k)
theorem cr12_inc {K : Nat → List Int} {b : List Nat} {r : Nat} (h : r = 0 ∨ ¬ K (b.getD (r - 1) 0) = K (b.getD r 0)) : cr12 K b (r + 1) = cr12 K b r + 1 := by rw [cr12, if_pos h]
theorem cr12_keep {K : Nat → List Int} {b : List Nat} {r : Nat} (h0 : r ≠ 0) (h : K (b.getD (r - 1) 0) = K (b.getD r 0)) : cr12 K b (r + 1) = cr12 K b r := by
  rw [cr12, if_neg, Nat.add_zero]
  rintro (k | k)
  · exact h0 k
  · exact k h
/-- What 'of' holds. -/
def Of12 (K : Nat → List Int) (b : List Nat) (r : Nat) (O : List Int) : Prop := ∀ r', r' < r → O.getD (b.getD r' 0 / 2) 0 = ((cr12 K b (r' + 1) : Nat) : Int) - 1
theorem Of12.set {n : Nat} {sm : Nat → Bool} {K : Nat → List Int} {b : List Nat} {r : Nat} {O : List Int} (h : Of12 K b r O) (ho : Or12 n sm b) (hr : r < b.length) (hO : b.getD r 0 / 2 < O.length) : Of12 K b (r + 1) (O.set (b.getD r 0 / 2) (((cr12 K b (r + 1) : Nat) : Int) - 1)) := by
  intro r' hr'
  rw [getD_set12 _ _ _ _ hO]
  by_cases e : r' = r
  · subst e; rw [if_pos rfl]
  · rw [if_neg, h r' (by omega)]
    intro k
    have h1 := (ho.mem _).1 (getD_mem12 (d := 0) hr)
    have h2 := (ho.mem _).1 (getD_mem12 (d := 0) (show r' < b.length by omega))
    exact e (getD_inj12 ho.nd (by omega) hr (tn12_two h2.2 h1.2 k))
theorem Of12.names {n : Nat} {S : Nat → Int} {sm : Nat → Bool} {b t : List Nat} {O N : List Int} {m : Nat} (h : Of12 (key12 n S sm) b m O) (ho : Or12 n sm b) (ht : Or12 n sm t) (hk : b.Pairwise (fun i j => LE12 (key12 n S sm i) (key12 n S sm j))) (hb : b.length = m) (htm : t.length = m) (hN : N.length = m) (hv : ∀ a, a < m → N.getD a 0 = O.getD (t.getD a 0 / 2) 0) :
    Nm12 n S sm t N ∧ ∀ a, a < m → 0 ≤ N.getD a 0 ∧ N.getD a 0 < (m : Int) := by
  have hr : ∀ a, a < m → ∃ r, r < m ∧ b.getD r 0 = t.getD a n ∧ N.getD a 0 = ((cr12 (key12 n S sm) b (r + 1) : Nat) : Int) - 1 := by
    intro a ha
    have h1 : t.getD a 0 ∈ b := (ho.mem _).2 ((ht.mem _).1 (getD_mem12 (by omega)))
    obtain ⟨r, hr, e⟩ := List.mem_iff_getElem.1 h1
    have e2 : b.getD r 0 = t.getD a 0 := by rw [← e]; simp [List.getD, hr]
    have e3 : t.getD a n = t.getD a 0 := by have : a < t.length := by omega
                                            simp [List.getD, this]
    refine ⟨r, by omega, by rw [e2, e3], ?_⟩
    rw [hv a ha, ← e2, h r (by omega)]
  refine ⟨⟨by omega, fun a a' ha ha' hlt => ?_, fun a a' ha ha' he => ?_⟩, fun a ha => ?_⟩
  · obtain ⟨r, h1, h2, h3⟩ := hr a (by omega)
    obtain ⟨r', h4, h5, h6⟩ := hr a' (by omega)
    rw [← h2, ← h5]
    exact (cr12_lt hk (by omega) (by omega)).1 (by omega)
  · obtain ⟨r, h1, h2, h3⟩ := hr a (by omega)
    obtain ⟨r', h4, h5, h6⟩ := hr a' (by omega)
    rw [← h2, ← h5]
    exact (cr12_lt hk (by omega) (by omega)).2.1 (by omega)
  · obtain ⟨r, h1, h2, h3⟩ := hr a ha
    have := cr12_pos (K := key12 n S sm) (b := b) r
    have := cr12_le (K := key12 n S sm) (b := b) (r + 1)
    omega
set_option maxRecDepth 100000 in
set_option maxHeartbeats 4000000 in
theorem pnm12 (b : Nat) (a : Option Addr) (n cap : Nat) (s : List Int) (K gs gf gn : Nat) (nx : List Int) (ta pa : Option Addr) (t bl : List Nat) (m tc pc : Nat) (w : World) (h : Li12 w b a n cap s K gs gf gn nx) (hW : Wf12 s n K) (ht : Or12 n (sm12 s) t) (ho : Or12 n (sm12 s) bl) (hk : bl.Pairwise (fun i j => LE12 (key12 n (S12 s) (sm12 s) i) (key12 n (S12 s) (sm12 s) j))) (hm : Hid (t.length = m)) (hm2 : Hid (bl.length = m)) (hmb : m ≤ 16777216) (hst : SegZ w ta (nz12 t)) (hsb : SegZ w pa (nz12 bl)) :
    Calls Tryz.prog 199 #[.pointer (some ⟨b, 0, none⟩), .slice ta m tc, .slice pa m pc] w fun e w' => ∃ g2 N c, e = .returned (.tuple #[.slice (some ⟨g2, 0, none⟩) m m, .int .i64 ((c : Nat) : Int)]) ∧ c = cr12 (key12 n (S12 s) (sm12 s)) bl m ∧ Rz12 w' g2 N ∧ w.heap.size ≤ g2 ∧ N.length = m ∧ Nm12 n (S12 s) (sm12 s) t N ∧ (∀ a, a < m → 0 ≤ N.getD a 0 ∧ N.getD a 0 < (m : Int)) ∧ Below w.heap.size w w' := by
  have n24 := hW.n24
  have hn : Hid (s.length = n) := hW.len
  have hty : Ty12 n (S12 s) (sm12 s) := by have := ty12 s; rw [hn.out] at this; exact this
  have q0 := h.c0
  have HA : Hid (∀ w' r, Below w.heap.size w w' → 0 < r → r < m → Calls Tryz.prog 227 #[.pointer (some ⟨b, 0, none⟩), .int .i64 ((bl.getD (r - 1) 0 : Nat) : Int), .int .i64 ((bl.getD r 0 : Nat) : Int)] w' (AlQ12 w' (key12 n (S12 s) (sm12 s) (bl.getD (r - 1) 0) = key12 n (S12 s) (sm12 s) (bl.getD r 0)))) := by
    intro w' r hb h0 hr
    have m1 := ho.small _ (getD_mem12 (l := bl) (i := r - 1) (d := 0) (by rw [hm2.out]; omega))
    have m2 := ho.small _ (getD_mem12 (l := bl) (i := r) (d := 0) (by rw [hm2.out]; omega))
    refine pal12 b a n cap s K gs gf gn nx _ _ w' ⟨(hb.block b h.lt).trans h.hp, h.seg.old hb, h.sm.old hb, h.fr.old hb, h.nr.old hb, h.nxl, h.d1, h.d2, h.d3, h.d4⟩ hW m1.1 m2.1 ?_
    intro e
    have := getD_inj12 ho.nd (by rw [hm2.out]; omega) (by rw [hm2.out]; omega) e
    omega
  have HSB : Hid (∀ w', Below w.heap.size w w' → SegZ w' pa (nz12 bl)) := fun w' hb => hsb.old hb
  have HST : Hid (∀ w', Below w.heap.size w w' → SegZ w' ta (nz12 t)) := fun w' hb => hst.old hb
  have HBG : Hid (∀ r, r < m → bl.getD r 0 + 1 < n ∧ (nz12 bl).getD r 0 = ((bl.getD r 0 : Nat) : Int)) := fun r hr => ⟨tn12_lt hty ((ho.mem _).1 (getD_mem12 (by rw [hm2.out]; exact hr))).2, nz12_get bl r 0 (by rw [hm2.out]; exact hr)⟩
  have HTG : Hid (∀ r, r < m → t.getD r 0 + 1 < n ∧ (nz12 t).getD r 0 = ((t.getD r 0 : Nat) : Int)) := fun r hr => ⟨tn12_lt hty ((ht.mem _).1 (getD_mem12 (by rw [hm.out]; exact hr))).2, nz12_get t r 0 (by rw [hm.out]; exact hr)⟩
  have HOF : Hid (∀ r O, r < m → O.length = n / 2 → Of12 (key12 n (S12 s) (sm12 s)) bl r O → Of12 (key12 n (S12 s) (sm12 s)) bl (r + 1) (O.set (bl.getD r 0 / 2) (((cr12 (key12 n (S12 s) (sm12 s)) bl (r + 1) : Nat) : Int) - 1))) := fun r O hr hO hh => hh.set ho (by rw [hm2.out]; exact hr) (by have := (HBG.out r hr).1; omega)
  have HFN : Hid (∀ O N, Of12 (key12 n (S12 s) (sm12 s)) bl m O → N.length = m → (∀ a, a < m → N.getD a 0 = O.getD (t.getD a 0 / 2) 0) → Nm12 n (S12 s) (sm12 s) t N ∧ ∀ a, a < m → 0 ≤ N.getD a 0 ∧ N.getD a 0 < (m : Int)) := fun O N h1 h2 h3 => h1.names ho ht hk hm2.out hm.out h2 h3
  have HCR : Hid (∀ r, cr12 (key12 n (S12 s) (sm12 s)) bl r ≤ r ∧ 1 ≤ cr12 (key12 n (S12 s) (sm12 s)) bl (r + 1)) := fun r => ⟨cr12_le r, cr12_pos r⟩
  have HIN : Hid (∀ r, r = 0 ∨ ¬ key12 n (S12 s) (sm12 s) (bl.getD (r - 1) 0) = key12 n (S12 s) (sm12 s) (bl.getD r 0) → cr12 (key12 n (S12 s) (sm12 s)) bl (r + 1) = cr12 (key12 n (S12 s) (sm12 s)) bl r + 1) := fun r hr => cr12_inc hr
  have HKP : Hid (∀ r, r ≠ 0 → key12 n (S12 s) (sm12 s) (bl.getD (r - 1) 0) = key12 n (S12 s) (sm12 s) (bl.getD r 0) → cr12 (key12 n (S12 s) (sm12 s)) bl (r + 1) = cr12 (key12 n (S12 s) (sm12 s)) bl r) := fun r h0 hr => cr12_keep h0 hr
  have hal : Below w.heap.size w (w.alloc (.cells (vi12 (List.replicate (n / 2) 0)) 3)) := (Below.refl _ _).alloc (Nat.le_refl _) _
  have hr0 := Rz12.new w (List.replicate (n / 2) 0)
  have HM1 := run_make_i12 (n / 2) (by omega) w
  have HM2 := fun w' => run_make_i12 m (by omega) w'
  have HNL : Hid ((nz12 bl).length = m ∧ (nz12 t).length = m) := by rw [nz12_len, nz12_len, hm.out, hm2.out]; exact ⟨rfl, rfl⟩
  have en : (n : Int).tdiv 2 = ((n / 2 : Nat) : Int) := by rw [Int.tdiv_eq_ediv_of_nonneg (by omega)]; omega
  have en2 : (n : Int) / 2 = ((n / 2 : Nat) : Int) := by omega
  have HHN : Hid (∀ j : Nat, j + 1 < n → j / 2 < n / 2) := fun j hj => by omega
  generalize hh2 : n / 2 = h2 at *
  have hh3 : h2 ≤ 16777216 := by omega
  clear hh2
  generalize key12 n (S12 s) (sm12 s) = KEY at *
  clear h hW ht ho hk hst hsb hty
  generalize hg : w.heap.size = g at *
  generalize hw1 : w.alloc (.cells (vi12 (List.replicate h2 0)) 3) = w1 at *
  have HG : Hid (w.heap.size = g) := hg
  clear hg hw1
  go_enter Tryz.func199, Tryz.ntmps199
  go_wp2_with fail
  go_loopw [9, 24] (fun tc ti wr => ∃ (r c : Nat) (O : List Int), r ≤ m ∧ ti = .int .i64 r ∧ tc = .int .i64 c ∧ Hid (c = cr12 KEY bl r) ∧ Rz12 wr g O ∧ O.length = h2 ∧ Hid (Of12 KEY bl r O) ∧ Below g w wr) (fun _ ti _ => m - (intOf ti).toNat)
  case atStart => exact ⟨0, 0, _, Nat.zero_le _, rfl, rfl, (rfl : _ = _), hr0, by simp, (fun r' h => by omega : Of12 _ _ _ _), hal⟩
  case round =>
    obtain ⟨r, c, O, hr, rfl, rfl, HCC, hO, hOl, HOO, hb⟩ := hrel
    by_cases h1 : r < m
    · have h1i : (r : Int) < (m : Int) := by omega
      obtain ⟨hj, ej⟩ := HBG.out r h1
      have hsb := HSB.out wr hb
      obtain ⟨pb, off, rfl, c1⟩ := hsb.at_ r (by rw [HNL.out.1]; exact h1)
      rw [ej] at c1
      have hcm : c ≤ 16777216 := by have := (HCR.out r).1; have := HCC.out; omega
      have HSET : Hid (∀ y : Int, y = ((cr12 KEY bl (r + 1) : Nat) : Int) - 1 → ∀ w', Rz12 w' g O → Below g w w' → Rz12 (w'.setCell ⟨g, bl.getD r 0 / 2, none⟩ (.int .i64 y)) g (O.set (bl.getD r 0 / 2) y) ∧ (O.set (bl.getD r 0 / 2) y).length = h2 ∧ Hid (Of12 KEY bl (r + 1) (O.set (bl.getD r 0 / 2) y)) ∧ Below g w (w'.setCell ⟨g, bl.getD r 0 / 2, none⟩ (.int .i64 y))) := by
        intro y hy w' hO' hb'
        refine ⟨hO'.set _ _, by rw [List.length_set]; exact hOl, ?_, hb'.trans ((Kp.set (S := fun j => j = g) rfl _).below (fun j h => by omega) (by have := hO'.lt; omega))⟩
        rw [hy]
        exact HOF.out r O h1 hOl HOO.out
      have HOLD : Hid (∀ w', Below g w w' → Below wr.heap.size wr w' → Rz12 w' g O) := fun w' _ hb' => hO.old hb'
      have HCEL : Hid (∀ w', Rz12 w' g O → w'.cell? ⟨g, bl.getD r 0 / 2, none⟩ = some (.int .i64 (O.getD (bl.getD r 0 / 2) 0)) ∧ w'.frozen? ⟨g, bl.getD r 0 / 2, none⟩ = false) := fun w' h' => ⟨h'.cell (by have := HHN.out _ hj; omega), h'.free _⟩
      have e2 : ((bl.getD r 0 : Nat) : Int).tdiv 2 = ((bl.getD r 0 / 2 : Nat) : Int) := by rw [Int.tdiv_eq_ediv_of_nonneg (by omega)]; omega
      have e3 : ((bl.getD r 0 : Nat) : Int) / 2 = ((bl.getD r 0 / 2 : Nat) : Int) := by omega
      have i2 : ((bl.getD r 0 / 2 : Nat) : Int) < (h2 : Int) := by have := HHN.out _ hj; omega
      by_cases h0 : r = 0
      · subst h0
        have c1b : wr.cell? ⟨pb, off, none⟩ = some (.int .i64 ((bl.getD 0 0 : Nat) : Int)) := c1
        have HI := HIN.out 0 (Or.inl rfl)
        have HC2 : Hid (cr12 KEY bl (0 + 1) = c + 1) := by show _ = _; rw [HI, HCC.out]
        obtain ⟨k1, k2⟩ := HCEL.out wr hO
        obtain ⟨s1, s2, s3, s4⟩ := HSET.out (c : Int) (by rw [HC2.out]; omega) wr hO hb
        have HS1 : Hid _ := s1
        have HS4 : Hid _ := s4
        have HS2 : Hid _ := s2
        clear HI ej hsb hO s1 s4 s2
        generalize bl.getD 0 0 = j at *
        generalize O.getD (j / 2) 0 = y at *
        generalize hd : j / 2 = d at *
        go_wp2_with fail
        go_roundw
        case rel => exact ⟨1, c + 1, _, by omega, by go_num, by go_num, (HC2.out.symm : _ = _), HS1.out, HS2.out, s3, HS4.out⟩
        case measure => simp [intOf]; omega
      · have h0i : ¬ (r : Int) = 0 := by omega
        have h0j : (0 : Int) < (r : Int) := by omega
        obtain ⟨hj2, ej2⟩ := HBG.out (r - 1) (by omega)
        have c2 : wr.cell? ⟨pb, off + (r - 1), none⟩ = some (.int .i64 ((bl.getD (r - 1) 0 : Nat) : Int)) := by
          obtain ⟨b', off', ha, cc⟩ := hsb.at_ (r - 1) (by rw [HNL.out.1]; omega)
          cases ha
          rw [ej2] at cc
          exact cc
        have er : (r : Int) - 1 = ((r - 1 : Nat) : Int) := by omega
        have ir : ((r - 1 : Nat) : Int) < (m : Int) := by omega
        have HAL := HA.out wr r hb (by omega) h1
        have HI : Hid (¬ KEY (bl.getD (r - 1) 0) = KEY (bl.getD r 0) → cr12 KEY bl (r + 1) = c + 1) := fun q => by have h6 := HIN.out r (Or.inr q); have h7 := HCC.out; omega
        have HKE : Hid (KEY (bl.getD (r - 1) 0) = KEY (bl.getD r 0) → cr12 KEY bl (r + 1) = c) := fun q => by have h6 := HKP.out r h0 q; have h7 := HCC.out; omega
        have HC1 : Hid (KEY (bl.getD (r - 1) 0) = KEY (bl.getD r 0) → 1 ≤ c) := fun q => by have h5 := (HCR.out r).2; have h6 := HKP.out r h0 q; have h7 := HCC.out; omega
        clear ej ej2 hsb hO
        generalize bl.getD r 0 = j at *
        generalize bl.getD (r - 1) 0 = j2 at *
        generalize hd : j / 2 = d at *
        generalize r - 1 = r1 at *
        go_wp2_with fail
        refine HAL.mono ?_
        rintro e2 w2 ⟨B, rfl, hB, B2⟩
        have hb3 : Below g w w2 := hb.trans (B2.mono (by have := hb.size; have := HG.out; omega))
        have hO2 := HOLD.out w2 hb3 B2
        obtain ⟨k1, k2⟩ := HCEL.out w2 hO2
        have HBB : Hid (B = true ↔ KEY j2 = KEY j) := hB
        clear hB
        cases B
        · have HC2 := HI.out (fun q => by have := HBB.out.2 q; cases this)
          obtain ⟨s1, s2, s3, s4⟩ := HSET.out (c : Int) (by omega) w2 hO2 hb3
          have HS1 : Hid _ := s1
          have HS4 : Hid _ := s4
          have HS2 : Hid _ := s2
          have HC3 : Hid _ := HC2
          clear s1 s4 s2 hO2 HC2
          generalize O.getD d 0 = y at *
          go_wp2_with fail
          go_roundw
          case rel => exact ⟨r + 1, c + 1, _, by omega, by go_num, by go_num, (HC3.out.symm : _ = _), HS1.out, HS2.out, s3, HS4.out⟩
          case measure => simp [intOf]; omega
        · have HC2 := HKE.out (HBB.out.1 rfl)
          have hc1 := HC1.out (HBB.out.1 rfl)
          obtain ⟨s1, s2, s3, s4⟩ := HSET.out ((c : Int) - 1) (by omega) w2 hO2 hb3
          have HS1 : Hid _ := s1
          have HS4 : Hid _ := s4
          have HS2 : Hid _ := s2
          have HC3 : Hid _ := HC2
          clear s1 s4 s2 hO2 HC2
          generalize O.getD d 0 = y at *
          go_wp2_with fail
          go_roundw
          case rel => exact ⟨r + 1, c, _, by omega, by go_num, by go_num, (HC3.out.symm : _ = _), HS1.out, HS2.out, s3, HS4.out⟩
          case measure => simp [intOf]; omega
    · have h1i : ¬ (r : Int) < (m : Int) := by omega
      obtain rfl : r = m := by omega
      have HM3 := HM2 wr
      have hal2 : Below wr.heap.size wr (wr.alloc (.cells (vi12 (List.replicate r 0)) 3)) := (Below.refl _ _).alloc (Nat.le_refl _) _
      have hr2 := Rz12.new wr (List.replicate r 0)
      have hO3 := hO.old hal2
      have hb3 : Below g w (wr.alloc (.cells (vi12 (List.replicate r 0)) 3)) := hb.trans (hal2.mono (by have := hb.size; have := HG.out; omega))
      have HLT : Hid (g < wr.heap.size ∧ g ≤ wr.heap.size) := ⟨hO.lt, Nat.le_of_lt hO.lt⟩
      clear HM2 hO hal2 HA HOF HIN HKP HSB HBG
      generalize hg2 : wr.heap.size = g2 at *
      generalize hw2 : wr.alloc (.cells (vi12 (List.replicate r 0)) 3) = w2 at *
      clear hg2 hw2
      go_wp2_with fail
      go_loopw [56] (fun ti wr => ∃ (q : Nat) (N : List Int), q ≤ r ∧ ti = .int .i64 q ∧ Rz12 wr g2 N ∧ N.length = r ∧ Hid (∀ q', q' < q → N.getD q' 0 = O.getD (t.getD q' 0 / 2) 0) ∧ Rz12 wr g O ∧ Below g w wr) (fun ti _ => r - (intOf ti).toNat)
      case atStart => exact ⟨0, _, Nat.zero_le _, rfl, hr2, by simp, (fun q' h => by omega : ∀ q', q' < 0 → _), hO3, hb3⟩
      case round =>
        obtain ⟨q, N, hq, rfl, hN, hNl, HNV, hOq, hbq⟩ := hrel
        by_cases h9 : q < r
        · have h2i : (q : Int) < (r : Int) := by omega
          obtain ⟨hj, ej⟩ := HTG.out q h9
          obtain ⟨tb, toff, rfl, c1⟩ := (HST.out wr hbq).at_ q (by rw [HNL.out.2]; exact h9)
          rw [ej] at c1
          have k1 := hOq.cell (i := t.getD q 0 / 2) (by have := HHN.out _ hj; omega)
          have k2 := hN.cell (i := q) (by omega)
          have k3 := hN.free q
          have e2 : ((t.getD q 0 : Nat) : Int).tdiv 2 = ((t.getD q 0 / 2 : Nat) : Int) := by rw [Int.tdiv_eq_ediv_of_nonneg (by omega)]; omega
          have e3 : ((t.getD q 0 : Nat) : Int) / 2 = ((t.getD q 0 / 2 : Nat) : Int) := by omega
          have i2 : ((t.getD q 0 / 2 : Nat) : Int) < (h2 : Int) := by have := HHN.out _ hj; omega
          have HS1 : Hid (Rz12 (wr.setCell ⟨g2, q, none⟩ (.int .i64 (O.getD (t.getD q 0 / 2) 0))) g2 (N.set q (O.getD (t.getD q 0 / 2) 0))) := hN.set _ _
          have HS2 : Hid (∀ q', q' < q + 1 → (N.set q (O.getD (t.getD q 0 / 2) 0)).getD q' 0 = O.getD (t.getD q' 0 / 2) 0) := by
            intro q' hq'
            rw [getD_set12 _ _ _ _ (by omega)]
            by_cases e : q' = q
            · subst e; rw [if_pos rfl]
            · rw [if_neg e]; exact HNV.out q' (show q' < q by omega)
          have HS3 : Hid (Rz12 (wr.setCell ⟨g2, q, none⟩ (.int .i64 (O.getD (t.getD q 0 / 2) 0))) g O) := hOq.kp (Kp.set (S := fun j => j = g2) rfl _) (by have := HLT.out; omega)
          have HS4 : Hid (Below g w (wr.setCell ⟨g2, q, none⟩ (.int .i64 (O.getD (t.getD q 0 / 2) 0)))) := hbq.trans ((Kp.set (S := fun j => j = g2) rfl _).below (fun j h => by have := HLT.out; omega) (by have := hOq.lt; omega))
          clear ej hN hOq
          generalize t.getD q 0 = j at *
          generalize hd : j / 2 = d at *
          generalize O.getD d 0 = y at *
          generalize N.getD q 0 = z at *
          go_wp2_with fail
          go_roundw
          case rel => exact ⟨q + 1, _, by omega, by go_num, HS1.out, by rw [List.length_set]; exact hNl, HS2.out, HS3.out, HS4.out⟩
          case measure => simp [intOf]; omega
        · have h2i : ¬ (q : Int) < (r : Int) := by omega
          obtain rfl : q = r := by omega
          obtain ⟨F1, F2⟩ := HFN.out O N HOO.out hNl HNV.out
          have HF : Hid (∃ g2' N' c', Ending.returned (.tuple #[.slice (some ⟨g2, 0, none⟩) q q, .int .i64 ((c : Nat) : Int)]) = .returned (.tuple #[.slice (some ⟨g2', 0, none⟩) q q, .int .i64 ((c' : Nat) : Int)]) ∧ c' = cr12 KEY bl q ∧ Rz12 wr g2' N' ∧ g ≤ g2' ∧ N'.length = q ∧ Nm12 n (S12 s) (sm12 s) t N' ∧ (∀ a, a < q → 0 ≤ N'.getD a 0 ∧ N'.getD a 0 < (q : Int)) ∧ Below g w wr) := ⟨g2, N, c, rfl, HCC.out, hN, HLT.out.2, hNl, F1, F2, hbq⟩
          clear F1 F2 hN hOq
          go_wp2_with fail
          refine bodyPost_ret (results_tmp2 rfl _ _ _) rfl ?_
          exact HF.out
end Go.Proofs.YtmfpdchfofffeaaGreatDoor
