import Derived.Test.YtcifalelnfeggaaGreatDoorPk
import Derived.Test.YtcifalelnfeggaaGreatDoorPc
import Derived.Test.YtcifalelnfeggaaGreatDoorPf
import Derived.Test.YtcifalelnfeggaaGreatDoorPe
import Derived.Test.YtcifalelnfeggaaGreatDoorPh
namespace Go.Proofs.YtcifalelnfeggaaGreatDoor
open Go.RowKit
set_option linter.unusedVariables false

def nUse (zs : List Int) : Nat := (LFz zs).length
def errL (lim : Int) (zs : List Int) : Int := if lim < 1 ∨ 15 < lim then 1 else if errOf zs = 0 then (if 2 ^ lim.toNat < nUse zs then 41 else 0) else errOf zs
def lensL (lim : Nat) (zs : List Int) : List Int :=
  if nUse zs = 0 then List.replicate zs.length 0 else if nUse zs = 1 then (List.replicate zs.length 0).set ((LFz zs).getD 0 (0, 0)).2 1 else bumps (List.replicate zs.length 0) (taken (LFz zs) lim)
def lensR (lim : Int) (zs : List Int) : List Int := if errL lim zs = 0 then lensL lim.toNat zs else []

/-- The leaves' row, as a list with its meaning. -/
theorem leaf_row {zs : List Int} (h : ∀ i, 0 ≤ zs.getD i 0) {G : Nat → Prop} {w : World} {Y : Nat → Im} {m : Nat} (hp : (lst Y 0 m).Perm (leafL zs zs.length)) (ho : so Y 0 m) : ML G w 0 (lst Y 0 m) (itF (LFz zs)) := by
  have hs := sorted_LF h hp ho
  refine ⟨by unfold itF; rw [← hs]; simp, fun k hk => ?_⟩
  have hm : (lst Y 0 m).getD k im0 ∈ lst Y 0 m := by simp [List.getD, hk]
  obtain ⟨g1, g2, g3, g4, _⟩ := leaf_good h _ (hp.mem_iff.1 hm)
  refine ⟨g1, g2, by omega, g4, ?_⟩
  unfold itF
  rw [← hs]
  simp [List.getD, hk, toP]
theorem lst_RL {w : World} {g m : Nat} {Y : Nat → Im} (h : Sr w g m Y) : RL w (some ⟨g, 0, none⟩) (lst Y 0 m) := by
  refine ⟨fun k hk => ⟨g, 0, rfl, ?_⟩⟩
  have hl : (lst Y 0 m).length = m := by simp [lst]
  have e : (lst Y 0 m).getD k im0 = Y k := by have := lst_get Y 0 m k (by omega) im0; simpa using this
  rw [e, Nat.zero_add]
  exact h.it (by omega)
theorem lst_len (Y : Nat → Im) (m : Nat) : (lst Y 0 m).length = m := by simp [lst]

theorem pk_sym (Q : Nat → Prop) : ∀ l : List It, (∀ t ∈ l, ∀ s ∈ t.2, Q s) → ∀ t ∈ pk l, ∀ s ∈ t.2, Q s
  | [], _ => by simp [pk]
  | [_], _ => by simp [pk]
  | a :: b :: r, h => by
    intro t ht s hs
    simp only [pk, List.mem_cons] at ht
    rcases ht with rfl | ht
    · rcases List.mem_append.1 hs with hs | hs
      · exact h a (by simp) s hs
      · exact h b (by simp) s hs
    · exact pk_sym Q r (fun x hx => h x (by simp [hx])) t ht s hs
theorem row_sym (F : List It) (Q : Nat → Prop) (h : ∀ t ∈ F, ∀ s ∈ t.2, Q s) : ∀ k, ∀ t ∈ row F k, ∀ s ∈ t.2, Q s
  | 0 => h
  | k + 1 => by
    intro t ht
    simp only [row] at ht
    rcases List.mem_append.1 ((List.merge_perm_append _).mem_iff.1 ht) with ht | ht
    · exact h t ht
    · exact pk_sym Q _ (row_sym F Q h k) t ht
theorem pk_sl (M : Nat) : ∀ l : List It, (∀ t ∈ l, t.2.length ≤ M) → ∀ t ∈ pk l, t.2.length ≤ 2 * M
  | [], _ => by simp [pk]
  | [_], _ => by simp [pk]
  | a :: b :: r, h => by
    intro t ht
    simp only [pk, List.mem_cons] at ht
    rcases ht with rfl | ht
    · have := h a (by simp)
      have := h b (by simp)
      simp only [List.length_append]
      omega
    · exact pk_sl M r (fun x hx => h x (by simp [hx])) t ht
theorem row_sl (F : List It) (h : ∀ t ∈ F, t.2.length ≤ 1) : ∀ k, ∀ t ∈ row F k, t.2.length ≤ 2 ^ k
  | 0, t, ht => by simpa using h t ht
  | k + 1, t, ht => by
    simp only [row] at ht
    rcases List.mem_append.1 ((List.merge_perm_append _).mem_iff.1 ht) with ht | ht
    · exact Nat.le_trans (h t ht) (Nat.one_le_two_pow)
    · have := pk_sl (2 ^ k) (row F k) (row_sl F h k) t ht
      rw [Nat.pow_succ]; omega
theorem flat_len (M : Nat) : ∀ l : List It, (∀ t ∈ l, t.2.length ≤ M) → (l.flatMap (·.2)).length ≤ l.length * M
  | [], _ => by simp
  | a :: r, h => by
    have := flat_len M r (fun x hx => h x (by simp [hx]))
    have := h a (by simp)
    simp only [List.flatMap_cons, List.length_append, List.length_cons, Nat.succ_mul]
    omega
theorem RL.takeL {w : World} {b : Option Addr} {R : List Im} (h : RL w b R) (k : Nat) : RL w b (R.take k) := by
  refine ⟨fun i hi => ?_⟩
  simp at hi
  obtain ⟨g, off, e, it⟩ := h.at_ i (by omega)
  have : (R.take k).getD i im0 = R.getD i im0 := by simp [List.getD, show i < k by omega]
  exact ⟨g, off, e, by rw [this]; exact it⟩
theorem ML.takeL {G : Nat → Prop} {w : World} {d : Nat} {R : List Im} {ts : List It} (h : ML G w d R ts) (k : Nat) : ML G w d (R.take k) (ts.take k) := by
  refine ⟨by simp [h.len], fun i hi => ?_⟩
  simp at hi
  have e1 : (R.take k).getD i im0 = R.getD i im0 := by simp [List.getD, show i < k by omega]
  have e2 : (ts.take k).getD i it0 = ts.getD i it0 := by simp [List.getD, show i < k by omega]
  rw [e1, e2]
  exact h.mn i (by omega)
theorem LF_mem {zs : List Int} (h : ∀ i, 0 ≤ zs.getD i 0) {x : Nat × Nat} (hx : x ∈ LFz zs) : x.2 < zs.length ∧ zs.getD x.2 0 = (x.1 : Int) ∧ 0 < x.1 := by
  have h1 := (LFz_perm zs).mem_iff.1 hx
  unfold pairs at h1
  obtain ⟨i, hi, rfl⟩ := List.mem_map.1 h1
  obtain ⟨h2, h3⟩ := List.mem_filter.1 hi
  have h4 := h i
  have h5 : ¬ zs.getD i 0 = 0 := by simpa using h3
  rw [List.mem_range] at h2
  refine ⟨h2, ?_, ?_⟩
  · simp only; omega
  · simp only; omega
theorem itF_len (LF : List (Nat × Nat)) : (itF LF).length = LF.length := by simp [itF]

set_option maxRecDepth 100000 in
set_option maxHeartbeats 2000000 in
theorem lengths_ok (lim : Nat) (a : Option Addr) (zs : List Int) (n cap : Nat) (hn : Hid (zs.length = n)) (w : World) (hs : SegZ w a zs) (h1 : 1 ≤ lim) (h15 : lim ≤ 15) (he : errOf zs = 0) :
    Calls Tryz.prog 68 #[.int .i64 lim, .slice a n cap] w fun e w' => ∃ b c, e = .returned (.tuple #[.slice b (lensR lim zs).length c, .int .i64 (errL lim zs)]) ∧ SegZ w' b (lensR lim zs) ∧ Below w.heap.size w w' := by
  obtain ⟨h288, hbx⟩ := errOf_zero he
  have hn288 : n ≤ 288 := by have := hn.out; omega
  have HC : Hid (∀ W, SegZ W a zs → Calls Tryz.prog 92 #[.slice a n cap] W fun e w' => e = .returned (.int .i64 0) ∧ w' = W) := fun W hW => by
    have := refusal_any a zs cap W hW (by have := hn.out; omega)
    rw [he, hn.out] at this
    exact this
  have HE : Hid (errOf zs = 0) := he
  clear he h288
  have l1 : ¬ (lim : Int) < 1 := by omega
  have l2 : ¬ (15 : Int) < (lim : Int) := by omega
  go_enter Tryz.func68, Tryz.ntmps68
  go_wp2_with fail
  refine (HC.out _ hs).mono ?_
  rintro e w' ⟨rfl, hw'⟩
  subst w'
  go_wp2_with fail
  refine (leaves_any a zs n cap hn _ hs hn288).mono ?_
  rintro e w1 ⟨b, m, c, Y, rfl, LF, B1⟩
  obtain ⟨P, hP⟩ : ∃ P : Nat, P = 2 ^ lim := ⟨_, rfl⟩
  have hPb : P ≤ 32768 := by rw [hP]; exact Nat.le_trans (Nat.pow_le_pow_right (by decide) h15) (by decide)
  have hPw : RowKit.wrap64 ((2 : Int) ^ lim) = (P : Int) := by
    have e : ((2 : Int) ^ lim) = (P : Int) := by rw [hP]; exact (Int.natCast_pow 2 lim).symm
    rw [e, ← IntWalk.i64_left]
    exact IntWalk.i64_in _ (by omega)
  have HSRT : Hid ((lst Y 0 m).map toP = LFz zs) := sorted_LF (fun i => (hbx i).1) LF.pm LF.ord
  have HNU : Hid (nUse zs = m) := by show _ = _; unfold nUse; rw [← HSRT.out]; simp [lst]
  have HM288 : Hid (m ≤ 288) := by
    have h3 := LF.len
    have h4 := leafL_len zs zs.length
    have := hn.out
    show _ ≤ _
    omega
  have HPP : Hid (P = 2 ^ lim) := hP
  have hm288 : m ≤ 288 := HM288.out
  clear hP
  by_cases hmP : P < m
  · have hmPi : (P : Int) < (m : Int) := by omega
    have HER : Hid (errL lim zs = 41 ∧ lensR lim zs = []) := by
      have e1 : errL lim zs = 41 := by
        unfold errL
        rw [if_neg (by omega), if_pos HE.out, if_pos (by rw [HNU.out, Int.toNat_natCast, ← HPP.out]; exact hmP)]
      exact ⟨e1, by unfold lensR; rw [e1]; rfl⟩
    go_wp2
    go_ret2
    exact ⟨none, 0, by rw [HER.out.1, HER.out.2]; rfl, by rw [HER.out.2]; exact SegZ.nil _ _, B1⟩
  · have hmPi : ¬ (P : Int) < (m : Int) := by omega
    have HER : Hid (errL lim zs = 0 ∧ lensR lim zs = lensL lim zs) := by
      have e1 : errL lim zs = 0 := by
        unfold errL
        rw [if_neg (by omega), if_pos HE.out, if_neg (by rw [HNU.out, Int.toNat_natCast, ← HPP.out]; exact hmP)]
      exact ⟨e1, by unfold lensR; rw [if_pos e1, Int.toNat_natCast]⟩
    have hmk := run_make_ints n (by omega) w1
    have O2 := own_zeros w1 n (by omega)
    have B2 : Below w1.heap.size w1 (w1.alloc (.cells (Array.replicate n (.int .i64 0)) 3)) := (Below.refl _ _).alloc (Nat.le_refl _) _
    have hsz2 : w1.heap.size < (w1.alloc (.cells (Array.replicate n (.int .i64 0)) 3)).heap.size := by simp
    obtain ⟨o, ho⟩ : ∃ o, o = w1.heap.size := ⟨_, rfl⟩
    have HO : Hid (o = w1.heap.size) := ho
    generalize w1.alloc (.cells (Array.replicate n (.int .i64 0)) 3) = w2 at *
    rw [← ho] at O2 hmk hsz2
    have B12 : Below w.heap.size w w2 := B1.trans (B2.mono B1.size)
    have hzb : ∀ z ∈ List.replicate n (0 : Int), -9223372036854775808 ≤ z ∧ z ≤ 9223372036854775807 := fun z hz => by obtain ⟨_, rfl⟩ := List.mem_replicate.1 hz; omega
    clear ho
    by_cases hm0 : m = 0
    · subst hm0
      have HLL : Hid (lensL lim zs = List.replicate n 0) := by show _ = _; unfold lensL; rw [if_pos HNU.out, hn.out]
      go_wp2
      go_ret2
      refine ⟨some ⟨o, 0, none⟩, n, ?_, ?_, B12⟩
      · rw [HER.out.1, HER.out.2, HLL.out, List.length_replicate]; rfl
      · rw [HER.out.2, HLL.out]
        exact own_segZ O2 hzb
    · obtain ⟨g, rfl, S1, hgB, hgs, hmc⟩ := LF.row (by omega)
      have S2 := S1.old hgs B2
      have hgo : g ≠ o := by have := HO.out; omega
      by_cases hm1 : m = 1
      · subst hm1
        have it0' := S2.it (k := 0) (by omega)
        have hy : Y 0 ∈ leafL zs zs.length := LF.pm.mem_iff.1 (mem_lst.2 ⟨0, Nat.le_refl _, by omega, rfl⟩)
        obtain ⟨g1, g2, g3, g4, g5, g6⟩ := leaf_good (fun i => (hbx i).1) _ hy
        obtain ⟨s, hsy⟩ : ∃ s : Nat, (Y 0).sy = (s : Int) := ⟨(Y 0).sy.toNat, by omega⟩
        have HLL : Hid (lensL lim zs = (List.replicate n 0).set s 1) := by
          show _ = _
          unfold lensL
          rw [if_neg (by rw [HNU.out]; decide), if_pos HNU.out, ← HSRT.out, hn.out]
          have : lst Y 0 1 = [Y 0] := rfl
          rw [this]
          simp [toP, hsy]
        have hsn : s < n := by have := hn.out; omega
        obtain ⟨c0, c1, c2, c3⟩ := it0'
        rw [hsy] at c1
        simp only [Nat.zero_mul, Nat.zero_add] at c0 c1 c2 c3
        obtain ⟨a0, fz⟩ := own_cell1 O2 (i := s) (by simp; omega)
        have f0 := fz s
        have HST := O2.stored s (.int .i64 1)
        rw [← List.map_set] at HST
        have HSS : Hid _ := HST
        clear HST
        have zi : (s : Int) < (n : Int) := by omega
        have hl9 : ((List.replicate n (0 : Int)).set s 1).length = n := by simp
        clear hsy g1 g2 g3 g4 g5 g6 hy
        generalize (List.replicate n (0 : Int)).getD s 0 = zz at *
        go_wp2
        go_ret2
        obtain ⟨o3, g3⟩ := HSS.out
        refine ⟨some ⟨o, 0, none⟩, n, ?_, ?_, B12.trans ((Below.refl _ _).grown g3 B12.size (by intro k e; simp at e; have := HO.out; have := B1.size; omega))⟩
        · rw [HER.out.1, HER.out.2, HLL.out, hl9]; rfl
        · rw [HER.out.2, HLL.out]
          refine own_segZ o3 (fun z hz => ?_)
          rcases List.mem_or_eq_of_mem_set hz with hz | rfl
          · exact hzb z hz
          · omega
      · have hm2 : 2 ≤ m := by omega
        have hLl := lst_len Y m
        have hLFl : (LFz zs).length = m := HNU.out
        have hFl : (itF (LFz zs)).length = m := by rw [itF_len]; exact hLFl
        have CL := lastRow_any (some ⟨g, 0, none⟩) m c lim o (lst Y 0 m) (itF (LFz zs)) w2 hLl (lst_RL S2) (leaf_row (fun i => (hbx i).1) LF.pm LF.ord) (by intro x hx; cases hx; exact hgo) hsz2 (fun t ht => by
          unfold itF at ht
          obtain ⟨x, hx, rfl⟩ := List.mem_map.1 ht
          have h3 := LF_mem (fun i => (hbx i).1) hx
          have h4 := hbx x.2
          simp only
          omega) hm288 hmc (by intro h; cases h) h1 h15
        have HHAS : Hid (2 * m - 2 ≤ (row (itF (LFz zs)) (lim - 1)).length) := by
          have h3 := row_has (itF (LFz zs)) lim h1 (by rw [hFl, ← HPP.out]; omega)
          rw [hFl] at h3
          exact h3
        have HLL : Hid (lensL lim zs = bumps (List.replicate n 0) (taken (LFz zs) lim)) := by
          show _ = _
          unfold lensL
          rw [if_neg (by rw [HNU.out]; omega), if_neg (by rw [HNU.out]; omega), hn.out]
        obtain ⟨q, hq⟩ : ∃ q, q = 2 * m - 2 := ⟨_, rfl⟩
        have rq : 2 * (m : Int) - 2 = (q : Int) := by omega
        have HQ : Hid (q = 2 * m - 2) := hq
        have HTK : Hid (taken (LFz zs) lim = syms ((row (itF (LFz zs)) (lim - 1)).take q) q) := by
          show _ = _
          unfold taken syms
          rw [List.take_take, Nat.min_self, hq, hLFl]
        have HSY : Hid (∀ s ∈ taken (LFz zs) lim, s < n) := by
          intro s hs
          unfold taken at hs
          obtain ⟨t, ht, hst⟩ := List.mem_flatMap.1 hs
          have h3 := row_sym (itF (LFz zs)) (fun s => s < n) (fun t ht s hs => by
            unfold itF at ht
            obtain ⟨x, hx, rfl⟩ := List.mem_map.1 ht
            simp at hs
            subst hs
            have := (LF_mem (fun i => (hbx i).1) hx).1
            have := hn.out
            omega) (lim - 1) t (List.mem_of_mem_take ht)
          exact h3 s hst
        have HLN : Hid ((taken (LFz zs) lim).length ≤ 4611686018427387904) := by
          unfold taken
          have h3 := flat_len 16384 ((row (itF (LFz zs)) (lim - 1)).take (2 * (LFz zs).length - 2)) (fun t ht => by
            have h4 := row_sl (itF (LFz zs)) (fun t ht => by
              unfold itF at ht
              obtain ⟨x, hx, rfl⟩ := List.mem_map.1 ht
              simp) (lim - 1) t (List.mem_of_mem_take ht)
            have h5 := pow14 ⟨lim - 1, by omega⟩
            simp only at h5
            omega)
          have h6 : ((row (itF (LFz zs)) (lim - 1)).take (2 * (LFz zs).length - 2)).length ≤ 576 := by
            rw [hLFl, List.length_take]; omega
          show _ ≤ _
          have h7 := Nat.mul_le_mul_right 16384 h6
          omega
        have hmi1 : ¬ (m : Int) = 1 := by omega
        have hmi2 : (1 : Int) < (m : Int) := by omega
        clear hq hLl hFl hLFl
        go_wp2_with fail
        refine CL.mono ?_
        rintro e w3 ⟨b3, c3, R, rfl, hRc, rr, hbo, mr, B3⟩
        have hRl : q ≤ R.length := by have := mr.len; have := HHAS.out; have := HQ.out; omega
        have hqc : (q : Int) ≤ (c3 : Int) := by omega
        have CT := tally_any o n o b3 q c3 (lim - 1) (List.replicate n 0) (R.take q) ((row (itF (LFz zs)) (lim - 1)).take q) w3 (by show _ = _; simp; omega) (rr.takeL q) (mr.takeL q) hbo (own_below O2 B3) (Nat.lt_of_lt_of_le hsz2 B3.size) (by show _ = _; simp) (by omega) (by omega) (by rw [← HTK.out]; exact HSY.out) (fun i => by
          by_cases h : i < n
          · simp [List.getD, h]
          · simp [List.getD, h]) (by rw [← HTK.out]; exact HLN.out)
        rw [← HTK.out] at CT
        clear CL
        go_wp2_with fail
        refine CT.mono ?_
        rintro e w4 ⟨rfl, O4, g4⟩
        go_wp2
        go_ret2
        have hbl : (bumps (List.replicate n (0 : Int)) (taken (LFz zs) lim)).length = n := by rw [bumps_len]; simp
        refine ⟨some ⟨o, 0, none⟩, n, ?_, ?_, ?_⟩
        · rw [HER.out.1, HER.out.2, HLL.out, hbl]; rfl
        · rw [HER.out.2, HLL.out]
          refine own_segZ O4 (fun z hz => ?_)
          obtain ⟨i, hi, rfl⟩ := List.mem_iff_getElem.1 hz
          have h3 := bumps_get (taken (LFz zs) lim) (List.replicate n (0 : Int)) i (fun s hs => by simp; exact HSY.out s hs)
          have h4 : (taken (LFz zs) lim).count i ≤ (taken (LFz zs) lim).length := List.count_le_length
          have h5 := HLN.out
          have h6 : (List.replicate n (0 : Int)).getD i 0 = 0 := by
            by_cases h : i < n
            · simp [List.getD, h]
            · simp [List.getD, h]
          rw [h6] at h3
          simp only [List.getD, List.getElem?_eq_getElem hi, Option.getD_some] at h3
          omega
        · have B13 : Below w.heap.size w w3 := B12.trans (B3.mono B12.size)
          exact B13.trans ((Below.refl _ _).grown g4 B13.size (by intro k e; simp at e; have := HO.out; have := B1.size; omega))

def LenQ (w : World) (lim : Int) (zs : List Int) (e : Ending) (w' : World) : Prop := ∃ b c, e = .returned (.tuple #[.slice b (lensR lim zs).length c, .int .i64 (errL lim zs)]) ∧ SegZ w' b (lensR lim zs) ∧ Below w.heap.size w w'
set_option maxRecDepth 100000 in
theorem lengths_any (lim : Int) (a : Option Addr) (zs : List Int) (n cap : Nat) (hn : Hid (zs.length = n)) (w : World) (hs : SegZ w a zs) (hl : n ≤ 9223372036854775807) :
    Calls Tryz.prog 68 #[.int .i64 lim, .slice a n cap] w fun e w' => LenQ w lim zs e w' := by
  by_cases h1 : lim < 1
  · have HER : Hid (errL lim zs = 1 ∧ lensR lim zs = []) := by
      have e1 : errL lim zs = 1 := by unfold errL; rw [if_pos (.inl h1)]
      exact ⟨e1, by unfold lensR; rw [e1]; rfl⟩
    go_enter Tryz.func68, Tryz.ntmps68
    go_wp2
    go_ret2
    exact ⟨none, 0, by rw [HER.out.1, HER.out.2]; rfl, by rw [HER.out.2]; exact SegZ.nil _ _, Below.refl _ _⟩
  · by_cases h2 : 15 < lim
    · have HER : Hid (errL lim zs = 1 ∧ lensR lim zs = []) := by
        have e1 : errL lim zs = 1 := by unfold errL; rw [if_pos (.inr h2)]
        exact ⟨e1, by unfold lensR; rw [e1]; rfl⟩
      go_enter Tryz.func68, Tryz.ntmps68
      go_wp2
      go_ret2
      exact ⟨none, 0, by rw [HER.out.1, HER.out.2]; rfl, by rw [HER.out.2]; exact SegZ.nil _ _, Below.refl _ _⟩
    · by_cases he : errOf zs = 0
      · obtain ⟨l, rfl⟩ : ∃ l : Nat, lim = (l : Int) := ⟨lim.toNat, by omega⟩
        exact lengths_ok l a zs n cap hn w hs (by omega) (by omega) he
      · have HER : Hid (errL lim zs = errOf zs ∧ lensR lim zs = []) := by
          have e1 : errL lim zs = errOf zs := by unfold errL; rw [if_neg (by omega), if_neg he]
          exact ⟨e1, by unfold lensR; rw [e1, if_neg he]⟩
        have HC := refusal_any a zs cap w hs (by have := hn.out; omega)
        rw [hn.out] at HC
        generalize errOf zs = E at *
        go_enter Tryz.func68, Tryz.ntmps68
        go_wp2_with fail
        refine HC.mono ?_
        rintro e w' ⟨rfl, hw'⟩
        subst w'
        go_wp2
        go_ret2
        exact ⟨none, 0, by rw [HER.out.1, HER.out.2]; rfl, by rw [HER.out.2]; exact SegZ.nil _ _, Below.refl _ _⟩
end Go.Proofs.YtcifalelnfeggaaGreatDoor

namespace Go.Proofs.YtcifalelnfeggaaGreatDoor
set_option linter.unusedVariables false

theorem sum_mul (c : Nat) (f : Nat → Nat) : ∀ l : List Nat, (l.map fun i => c * f i).sum = c * (l.map f).sum
  | [] => by simp
  | x :: r => by
    have := sum_mul c f r
    simp only [List.map_cons, List.sum_cons, this, Nat.mul_add]
/-- The symbols in use among the first k. -/
def usI (zs : List Int) (k : Nat) : List Nat := (List.range k).filter fun i => decide (zs.getD i 0 ≠ 0)
theorem usI_snoc (zs : List Int) (k : Nat) : usI zs (k + 1) = usI zs k ++ (if zs.getD k 0 = 0 then [] else [k]) := by
  unfold usI
  rw [List.range_succ, List.filter_append]
  congr 1
  by_cases h : zs.getD k 0 = 0
  · rw [if_pos h, List.filter_cons, if_neg (by simpa using h), List.filter_nil]
  · rw [if_neg h, List.filter_cons, if_pos (decide_eq_true h), List.filter_nil]
theorem usI_mem {zs : List Int} {k i : Nat} : i ∈ usI zs k ↔ i < k ∧ zs.getD i 0 ≠ 0 := by
  unfold usI
  rw [List.mem_filter, List.mem_range]
  simp
theorem pairs_usI (zs : List Int) (k : Nat) : pairs zs k = (usI zs k).map fun i => ((zs.getD i 0).toNat, i) := rfl
/-- Sums over the leaves are sums over the symbols in use. -/
theorem LF_sum (zs : List Int) (f : Nat → Nat) : ((LFz zs).map fun x => f x.2).sum = ((usI zs zs.length).map f).sum := by
  have h := ((LFz_perm zs).map fun x => f x.2).sum_nat
  rw [h, pairs_usI, List.map_map]
  rfl
theorem nUse_us (zs : List Int) : nUse zs = (usI zs zs.length).length := by
  unfold nUse
  rw [(LFz_perm zs).length_eq, pairs_usI, List.length_map]
theorem repl_get (n i : Nat) : (List.replicate n (0 : Int)).getD i 0 = 0 := by
  by_cases h : i < n
  · simp [List.getD, h]
  · simp [List.getD, h]
theorem nn {zs : List Int} (he : errOf zs = 0) : ∀ i, 0 ≤ zs.getD i 0 := fun i => ((errOf_zero he).2 i).1
theorem LF_facts {zs : List Int} (he : errOf zs = 0) : (LFz zs).Pairwise (fun a b => a.1 ≤ b.1) ∧ (∀ x ∈ LFz zs, 0 < x.1) ∧ ((LFz zs).map (·.2)).Nodup := by
  refine ⟨(LFz_ord zs).imp (fun h => by unfold pl at h; omega), fun x hx => (LF_mem (nn he) hx).2.2, ?_⟩
  have h1 : ((pairs zs zs.length).map (·.2)).Nodup := by
    rw [List.nodup_iff_pairwise_ne, List.pairwise_map]
    exact (pairs_ord zs zs.length).imp (fun h => by omega)
  exact ((LFz_perm zs).map (·.2)).nodup_iff.2 h1
theorem us_LF {zs : List Int} {i : Nat} (h : i ∈ usI zs zs.length) : ((zs.getD i 0).toNat, i) ∈ LFz zs := by
  refine (LFz_perm zs).mem_iff.2 ?_
  rw [pairs_usI]
  exact List.mem_map.2 ⟨i, h, rfl⟩
/-- The length of a symbol, as a natural number. -/
theorem lens_get {zs : List Int} (he : errOf zs = 0) {lim : Nat} (h1 : 1 ≤ lim) (hl : nUse zs ≤ 2 ^ lim) (hn : 2 ≤ nUse zs) (i : Nat) : (lensL lim zs).getD i 0 = (lenOf (LFz zs) lim i : Int) := by
  unfold lensL
  rw [if_neg (by omega), if_neg (by omega), bumps_get _ _ _ (fun s hs => ?_), repl_get]
  · unfold lenOf; omega
  · rw [List.length_replicate]
    unfold taken at hs
    obtain ⟨t, ht, hst⟩ := List.mem_flatMap.1 hs
    exact row_sym (itF (LFz zs)) (fun s => s < zs.length) (fun t ht s hs => by
      unfold itF at ht
      obtain ⟨x, hx, rfl⟩ := List.mem_map.1 ht
      simp at hs
      subst hs
      exact (LF_mem (nn he) hx).1) (lim - 1) t (List.mem_of_mem_take ht) s hst
theorem lens_none {zs : List Int} (he : errOf zs = 0) {lim i : Nat} (h : zs.getD i 0 = 0) : (lensL lim zs).getD i 0 = 0 := by
  unfold lensL
  split
  · exact repl_get _ _
  · split
    · rename_i h0 h1
      have hm : (LFz zs).getD 0 (0, 0) ∈ LFz zs := by
        unfold nUse at h1
        simp [List.getD, show 0 < (LFz zs).length by omega]
      have h2 := LF_mem (nn he) hm
      have hne : ((LFz zs).getD 0 (0, 0)).2 ≠ i := by
        intro e
        rw [e] at h2
        omega
      simp only [List.getD, List.getElem?_set] at hne ⊢
      rw [if_neg hne]
      exact repl_get _ _
    · rw [bumps_get _ _ _ (fun s hs => ?_), repl_get]
      · have : (taken (LFz zs) lim).count i = 0 := by
          rw [List.count_eq_zero]
          intro hs
          unfold taken at hs
          obtain ⟨t, ht, hst⟩ := List.mem_flatMap.1 hs
          have h3 := row_sym (itF (LFz zs)) (fun s => zs.getD s 0 ≠ 0) (fun t ht s hs => by
            unfold itF at ht
            obtain ⟨x, hx, rfl⟩ := List.mem_map.1 ht
            simp at hs
            subst hs
            have := LF_mem (nn he) hx
            omega) (lim - 1) t (List.mem_of_mem_take ht) i hst
          exact h3 h
        omega
      · rw [List.length_replicate]
        unfold taken at hs
        obtain ⟨t, ht, hst⟩ := List.mem_flatMap.1 hs
        exact row_sym (itF (LFz zs)) (fun s => s < zs.length) (fun t ht s hs => by
          unfold itF at ht
          obtain ⟨x, hx, rfl⟩ := List.mem_map.1 ht
          simp at hs
          subst hs
          exact (LF_mem (nn he) hx).1) (lim - 1) t (List.mem_of_mem_take ht) s hst
theorem lens_one {zs : List Int} (he : errOf zs = 0) {lim : Nat} (h1 : nUse zs = 1) : ∃ s, usI zs zs.length = [s] ∧ (lensL lim zs).getD s 0 = 1 ∧ s < zs.length := by
  have h2 := nUse_us zs
  rw [h1] at h2
  obtain ⟨s, hs⟩ := List.length_eq_one_iff.1 h2.symm
  have hm : s ∈ usI zs zs.length := by rw [hs]; simp
  have h3 := us_LF hm
  have h4 : LFz zs = [((zs.getD s 0).toNat, s)] := by
    obtain ⟨x, hx⟩ := List.length_eq_one_iff.1 (show (LFz zs).length = 1 from h1)
    rw [hx] at h3
    simp only [List.mem_singleton] at h3
    rw [hx, h3]
  have h5 := (usI_mem.1 hm).1
  refine ⟨s, hs, ?_, h5⟩
  unfold lensL
  rw [if_neg (by omega), if_pos h1, h4]
  simp [List.getD, h5]
theorem lens_len {zs : List Int} (lim : Nat) : (lensL lim zs).length = zs.length := by
  unfold lensL
  split
  · simp
  · split
    · simp
    · rw [bumps_len]; simp
/-- Each symbol in use has a length from 1 to the limit. -/
theorem lens_bd {zs : List Int} (he : errOf zs = 0) {lim i : Nat} (h1 : 1 ≤ lim) (hl : nUse zs ≤ 2 ^ lim) (hi : i ∈ usI zs zs.length) : 1 ≤ (lensL lim zs).getD i 0 ∧ (lensL lim zs).getD i 0 ≤ lim := by
  have h0 : 1 ≤ nUse zs := by rw [nUse_us]; exact List.length_pos_of_mem hi
  by_cases h2 : nUse zs = 1
  · obtain ⟨s, e1, e2, _⟩ := lens_one he (lim := lim) h2
    rw [e1] at hi
    simp only [List.mem_singleton] at hi
    subst hi
    rw [e2]; omega
  · rw [lens_get he h1 hl (by omega)]
    obtain ⟨f1, f2, f3⟩ := LF_facts he
    have h3 := (pm_all (LFz zs) f1 f2 f3 lim h1 (by unfold nUse at *; omega) hl).1 ((zs.getD i 0).toNat, lenOf (LFz zs) lim i) (by
      unfold XP
      exact List.mem_map.2 ⟨_, us_LF hi, rfl⟩)
    simp only at h3
    omega
theorem lens_kraft {zs : List Int} (he : errOf zs = 0) {lim : Nat} (h1 : 1 ≤ lim) (h15 : lim ≤ 15) (hl : nUse zs ≤ 2 ^ lim) (hn : 2 ≤ nUse zs) : ((usI zs zs.length).map fun i => 2 ^ (15 - ((lensL lim zs).getD i 0).toNat)).sum = 32768 := by
  obtain ⟨f1, f2, f3⟩ := LF_facts he
  have hp := pm_all (LFz zs) f1 f2 f3 lim h1 hn hl
  have hk := hp.2.1
  rw [kraft_all _ _ (fun x hx => (hp.1 x hx).1)] at hk
  unfold XP at hk
  rw [List.map_map] at hk
  have h2 := LF_sum zs (fun i => 2 ^ (lim - lenOf (LFz zs) lim i))
  have h3 : ((LFz zs).map fun x => 2 ^ (lim - lenOf (LFz zs) lim x.2)).sum = 2 ^ lim := hk
  rw [h3] at h2
  have h4 : ((usI zs zs.length).map fun i => 2 ^ (15 - ((lensL lim zs).getD i 0).toNat)) = (usI zs zs.length).map fun i => 2 ^ (15 - lim) * 2 ^ (lim - lenOf (LFz zs) lim i) := by
    apply List.map_congr_left
    intro i hi
    have h5 := lens_bd he h1 hl hi
    rw [lens_get he h1 hl hn] at h5 ⊢
    rw [← Nat.pow_add]
    congr 1
    omega
  rw [h4, sum_mul, ← h2, ← Nat.pow_add, show 15 - lim + lim = 15 by omega]
end Go.Proofs.YtcifalelnfeggaaGreatDoor

namespace Go.Proofs.YtcifalelnfeggaaGreatDoor
open Go.RowKit
set_option linter.unusedVariables false

def NxtQ (w : World) (b br : Nat) (zs : List Int) (H : List Bool) (t : Nat) (e : Ending) (w' : World) : Prop :=
  ((∃ s, Beg zs H s ∧ e = .returned (.tuple #[.int .i64 (s : Int), .bool true, .int .i64 0]) ∧ Rd w' br (H.drop (ln zs s)) (t + ln zs s)) ∨ ((∀ s, ¬ Beg zs H s) ∧ May zs H ∧ e = .returned (.tuple #[.int .i64 0, .bool false, .int .i64 0]) ∧ Rd w' br H t) ∨ ((∀ s, ¬ Beg zs H s) ∧ ¬ May zs H ∧ e = .returned (.tuple #[.int .i64 0, .bool false, .int .i64 54]) ∧ Rd w' br H t)) ∧ Kp (fun k => k = br) w w'

set_option maxRecDepth 100000 in
set_option maxHeartbeats 1000000 in
theorem next5_any (b most : Nat) (zs : List Int) (br : Nat) (H : List Bool) (t : Nat) (w : World) (hD : De w b most zs) (hR : Rd w br H t) (ht : t ≤ 4611686018427387000) :
    Calls Tryz.prog 144 #[.pointer (some ⟨b, 0, none⟩), .pointer (some ⟨br, 0, none⟩)] w fun e w' => NxtQ w b br zs H t e w' := by
  obtain ⟨S, hS, hY, hb⟩ := hD.row
  have c0 := arr_cell hb (i := 0) (by simp [dl])
  have e0 : (dl most zs S).getD 0 0 = (most : Int) := rfl
  rw [e0] at c0
  have hm0 : ¬ (most : Int) = 0 := by have := hD.mo; omega
  have CH := has_any br H t w hR
  obtain ⟨n, hn⟩ : ∃ n, n = min H.length 15 := ⟨_, rfl⟩
  have HN : Hid (n = min H.length 15) := hn
  have hth : there H (n : Int) = true := there_of (by omega) (by omega)
  have CP := peek_any br H t (n : Int) w hR
  rw [hth] at CP
  have hV : takeV H (n : Int) = num (H.take n) := by unfold takeV; rw [hth]; simp
  rw [hV] at CP
  have CF := find_any b most zs H n HN w hD
  have hle := hR.le
  have HCT : Hid (∀ s, Beg zs H s → ln zs s ≤ 15 → Calls Tryz.prog 122 #[.pointer (some ⟨br, 0, none⟩), .int .i64 (ln zs s : Int)] w fun e w' => (∃ x y, e = .returned (.tuple #[x, y])) ∧ Rd w' br (H.drop (ln zs s)) (t + ln zs s) ∧ w.grownBy w' (some br)) := by
    intro s hs hl
    have := take_any br H t (ln zs s : Int) w hR (by omega)
    have h1 : there H (ln zs s : Int) = true := there_of (by omega) hs.2.2.1
    refine this.mono ?_
    rintro e w' ⟨rfl, h2, h3⟩
    refine ⟨⟨_, _, rfl⟩, ?_, h3⟩
    unfold takeL takeT at h2
    rw [h1] at h2
    simpa using h2
  have HLN : Hid (∀ s, Beg zs H s → 0 < ln zs s ∧ ln zs s ≤ 15) := fun s hs => ⟨ln_pos (errS_zero (errC_zero hD.ok).1).2 hs.2.1, ((errS_zero (errC_zero hD.ok).1).2.ln s).2⟩
  clear e0 hV hth
  by_cases hc : H.length ≤ 15
  · have en : (H.length : Int) = (n : Int) := by omega
    rw [en] at CH
    have hci : (n : Int) ≤ 15 := by omega
    have hci2 : ¬ (15 : Int) < (n : Int) := by omega
    clear hn hc en hle
    go_enter Tryz.func144, Tryz.ntmps144
    go_wp2_with fail
    refine CH.mono ?_
    rintro e w1 ⟨rfl, hw1⟩
    subst w1
    go_wp2_with fail
    refine CP.mono ?_
    rintro e w1 ⟨rfl, hw1⟩
    subst w1
    go_wp2_with fail
    refine CF.mono ?_
    rintro e w1 ⟨sy, le, er, rfl, hF, hw1⟩
    subst w1
    rcases hF with ⟨s, h1, rfl, rfl, rfl⟩ | ⟨h1, h2, rfl, rfl, rfl⟩ | ⟨h1, h2, rfl, rfl, rfl⟩
    · have CT := HCT.out s h1 (HLN.out s h1).2
      have HB : Hid (Beg zs H s) := h1
      have hl0 : ¬ (ln zs s : Int) = 0 := by have := (HLN.out s h1).1; omega
      clear h1
      go_wp2_with fail
      refine CT.mono ?_
      rintro e w1 ⟨⟨x, y, rfl⟩, h3, h4⟩
      go_wp2_with fail
      go_ret3
      exact ⟨.inl ⟨s, HB.out, rfl, h3⟩, Kp.grown h4 (fun i hi => by cases hi; rfl)⟩
    · have HB : Hid ((∀ s, ¬ Beg zs H s) ∧ May zs H) := ⟨h1, h2⟩
      clear h1 h2
      go_wp2_with fail
      go_ret3
      exact ⟨.inr (.inl ⟨HB.out.1, HB.out.2, rfl, hR⟩), Kp.refl _ _⟩
    · have HB : Hid ((∀ s, ¬ Beg zs H s) ∧ ¬ May zs H) := ⟨h1, h2⟩
      clear h1 h2
      go_wp2_with fail
      go_ret3
      exact ⟨.inr (.inr ⟨HB.out.1, HB.out.2, rfl, hR⟩), Kp.refl _ _⟩
  · obtain rfl : n = 15 := by omega
    obtain ⟨m, em⟩ : ∃ m, m = H.length := ⟨_, rfl⟩
    rw [← em] at CH
    have hci : ¬ (m : Int) ≤ 15 := by omega
    have hci2 : (15 : Int) < (m : Int) := by omega
    have e15 : ((15 : Nat) : Int) = 15 := rfl
    rw [e15] at CP CF
    clear hn e15 em hc hle
    go_enter Tryz.func144, Tryz.ntmps144
    go_wp2_with fail
    refine CH.mono ?_
    rintro e w1 ⟨rfl, hw1⟩
    subst w1
    go_wp2_with fail
    refine CP.mono ?_
    rintro e w1 ⟨rfl, hw1⟩
    subst w1
    go_wp2_with fail
    refine CF.mono ?_
    rintro e w1 ⟨sy, le, er, rfl, hF, hw1⟩
    subst w1
    rcases hF with ⟨s, h1, rfl, rfl, rfl⟩ | ⟨h1, h2, rfl, rfl, rfl⟩ | ⟨h1, h2, rfl, rfl, rfl⟩
    · have CT := HCT.out s h1 (HLN.out s h1).2
      have HB : Hid (Beg zs H s) := h1
      have hl0 : ¬ (ln zs s : Int) = 0 := by have := (HLN.out s h1).1; omega
      clear h1
      go_wp2_with fail
      refine CT.mono ?_
      rintro e w1 ⟨⟨x, y, rfl⟩, h3, h4⟩
      go_wp2_with fail
      go_ret3
      exact ⟨.inl ⟨s, HB.out, rfl, h3⟩, Kp.grown h4 (fun i hi => by cases hi; rfl)⟩
    · have HB : Hid ((∀ s, ¬ Beg zs H s) ∧ May zs H) := ⟨h1, h2⟩
      clear h1 h2
      go_wp2_with fail
      go_ret3
      exact ⟨.inr (.inl ⟨HB.out.1, HB.out.2, rfl, hR⟩), Kp.refl _ _⟩
    · have HB : Hid ((∀ s, ¬ Beg zs H s) ∧ ¬ May zs H) := ⟨h1, h2⟩
      clear h1 h2
      go_wp2_with fail
      go_ret3
      exact ⟨.inr (.inr ⟨HB.out.1, HB.out.2, rfl, hR⟩), Kp.refl _ _⟩
end Go.Proofs.YtcifalelnfeggaaGreatDoor

namespace Go.Proofs.YtcifalelnfeggaaGreatDoor
open Go.RowKit
set_option linter.unusedVariables false

theorem WrL.below {w w' : World} {b B N : Nat} {v : Value} {L : List Bool} (h : WrL w b B v L) (hk : Kp (WS b v) w w') (h1 : N ≤ b) (h2 : N ≤ B) : Below N w w' :=
  hk.below (fun i e => by
    rcases e with e | e
    · omega
    · have := (h.own_lt i e).1; omega) (by have := h.b_lt; omega)
theorem heap_new (w : World) (o : Obj) : (w.alloc o).heap[w.heap.size]? = some o := heap_alloc_new w o
theorem toB_five : toB (([] : List Bool) ++ bN 5 3 ++ bN 1 2) = [13] := by
  rw [toB_eq (by decide)]
  rw [show (([] : List Bool) ++ bN 5 3 ++ bN 1 2).drop 8 = [] from by decide, toB_nil]
  decide

end Go.Proofs.YtcifalelnfeggaaGreatDoor

namespace Go.Proofs.YtcifalelnfeggaaGreatDoor
open Go.RowKit
set_option linter.unusedVariables false

def lent5 (zs : List Int) : List Int := zs ++ [71, 72, 73]
theorem lent5_bd {zs : List Int} (h : ∀ z ∈ zs, -9223372036854775808 ≤ z ∧ z ≤ 9223372036854775807) : ∀ z ∈ lent5 zs, -9223372036854775808 ≤ z ∧ z ≤ 9223372036854775807 := by
  intro z hz
  unfold lent5 at hz
  rw [List.mem_append] at hz
  rcases hz with hz | hz
  · exact h z hz
  · simp at hz; omega
theorem seg_three (w : World) : SegZ (w.alloc (.cells #[.int .i64 71, .int .i64 72, .int .i64 73] 3)) (some ⟨w.heap.size, 0, none⟩) [71, 72, 73] := by
  refine ⟨fun i hi => ⟨w.heap.size, 0, rfl, ?_⟩, getD_bdz (by intro z hz; simp at hz; omega)⟩
  simp only [List.length_cons, List.length_nil] at hi
  match i, hi with
  | 0, _ => simp
  | 1, _ => simp
  | 2, _ => simp
def LenQ5 (w : World) (zs : List Int) (e : Ending) (w' : World) : Prop := ∃ g c, e = .returned (.tuple #[.slice (some ⟨g, 0, none⟩) (lent5 zs).length c, .slice (some ⟨g, 0, none⟩) zs.length c]) ∧ w'.ownsRow w.heap.size 3 1 (.slice (some ⟨g, 0, none⟩) (lent5 zs).length c) (lent5 zs).length ((lent5 zs).map (Value.int .i64)) ∧ (lent5 zs).length ≤ c ∧ Below w.heap.size w w'
end Go.Proofs.YtcifalelnfeggaaGreatDoor

namespace Go.Proofs.YtcifalelnfeggaaGreatDoor
open Go.RowKit
set_option linter.unusedVariables false

theorem spc_nil : spc [] = 0 := cP_nil 16
theorem tot_nil : tot [] = 0 := cS_nil 16
theorem spc_take {zs : List Int} {k : Nat} (h : zs.length ≤ 288) (hk : LOk (zs.take k)) : spc (zs.take k) ≤ 288 * 16384 := by
  have h1 := spc_tot (zs.take k)
  have h2 := tot_le (zs.take k) hk
  have h3 : (zs.take k).length ≤ 288 := by simp; omega
  have h4 : tot (zs.take k) ≤ 288 := by omega
  exact Nat.le_trans h1 (Nat.mul_le_mul_right _ h4)
theorem LOk.take_of {zs : List Int} {k : Nat} (h : ∀ i, i < k → 0 ≤ zs.getD i 0 ∧ zs.getD i 0 ≤ 15) : LOk (zs.take k) := by
  intro z hz
  obtain ⟨i, hi, rfl⟩ := List.mem_iff_getElem.1 hz
  have hi2 : i < k ∧ i < zs.length := by simp at hi; omega
  have := h i hi2.1
  simpa [List.getD, hi2.2] using this

set_option maxRecDepth 100000 in
set_option maxHeartbeats 1000000 in
theorem r5space_any (a : Option Addr) (zs : List Int) (n cap : Nat) (hn : Hid (zs.length = n)) (w : World) (hs : SegZ w a zs) (hl : n ≤ 9223372036854775807) :
    Calls Tryz.prog 90 #[.slice a n cap] w fun e w' => e = .returned (.tuple #[.int .i64 (spcR zs : Int), .int .i64 (errS zs)]) ∧ w' = w := by
  by_cases h288 : 288 < n
  · have h288i : (288 : Int) < (n : Int) := by omega
    have HE : Hid (errS zs = 50 ∧ spcR zs = 0) := by
      have e := errS_many (show 288 < zs.length by have := hn.out; omega)
      exact ⟨e, by unfold spcR; rw [e, if_neg (by decide)]⟩
    go_enter Tryz.func90, Tryz.ntmps90
    go_wp2_with fail
    go_ret2
    exact ⟨by rw [HE.out.1, HE.out.2]; rfl, rfl⟩
  · have h288i : ¬ (288 : Int) < (n : Int) := by omega
    go_enter Tryz.func90, Tryz.ntmps90
    go_wp2_with fail
    go_loopw [4, 12] (fun tsum tj wr => ∃ j : Nat, j ≤ n ∧ tsum = .int .i64 (spc (zs.take j) : Int) ∧ tj = .int .i64 (j : Int) ∧ wr = w ∧ Hid (∀ i, i < j → 0 ≤ zs.getD i 0 ∧ zs.getD i 0 ≤ 15)) (fun _ tj _ => n - (intOf tj).toNat)
    case atStart => exact ⟨0, by omega, by rw [List.take_zero, spc_nil]; rfl, rfl, rfl, fun i h => by omega⟩
    case round =>
      obtain ⟨j, hj, rfl, rfl, hwr, HOK⟩ := hrel
      subst hwr
      by_cases hjn : j < n
      · have hji : (j : Int) < (n : Int) := by omega
        obtain ⟨b, off, rfl, c0⟩ := hs.at_ j (by have := hn.out; omega)
        have HTK : Hid (zs.take (j + 1) = zs.take j ++ [zs.getD j 0]) := take_snocZ (by have := hn.out; omega)
        have hbd := hs.bd j
        have HZ : Hid (∃ z, z = zs.getD j 0) := ⟨_, rfl⟩
        obtain ⟨z, hz⟩ := HZ.out
        have HZJ : Hid (z = zs.getD j 0) := hz
        rw [← hz] at HTK c0 hbd
        clear HZ hz
        have HER : Hid ((z < 0 ∨ 15 < z) → errS zs = 50 ∧ spcR zs = 0) := by
          intro h
          have e := errS_bad (zs := zs) (i := j) (by have := hn.out; omega) (by rw [← HZJ.out]; omega)
          exact ⟨e, by unfold spcR; rw [e, if_neg (by decide)]⟩
        by_cases hz0 : z < 0
        · go_wp2_with fail
          go_ret2
          exact ⟨by rw [(HER.out (.inl hz0)).1, (HER.out (.inl hz0)).2]; rfl, rfl⟩
        · by_cases hz15 : 15 < z
          · go_wp2_with fail
            go_ret2
            exact ⟨by rw [(HER.out (.inr hz15)).1, (HER.out (.inr hz15)).2]; rfl, rfl⟩
          · have HOK2 : Hid (∀ i, i < j + 1 → 0 ≤ zs.getD i 0 ∧ zs.getD i 0 ≤ 15) := fun i hi => by
              by_cases e : i = j
              · subst e; rw [← HZJ.out]; omega
              · exact HOK.out i (by omega)
            have HSN : Hid (spc (zs.take (j + 1)) = spc (zs.take j) + (if z = 0 then 0 else 2 ^ (15 - z.toNat))) := by
              show _ = _
              rw [HTK.out, spc_snoc _ (by omega)]
            have hsb : spc (zs.take (j + 1)) ≤ 10000000 := Nat.le_trans (spc_take (by have := hn.out; omega) (LOk.take_of HOK2.out)) (by decide)
            have HX : Hid (∃ x, x = spc (zs.take (j + 1))) := ⟨_, rfl⟩
            obtain ⟨x, hx⟩ := HX.out
            have HXX : Hid (x = spc (zs.take (j + 1))) := hx
            rw [← hx] at HSN hsb
            clear hx HX
            generalize spc (zs.take j) = s at *
            by_cases hz00 : z = 0
            · subst hz00
              have e : Hid (x = s) := by show _ = _; have := HSN.out; simpa using this
              go_wp2_with fail
              go_roundw
              case rel => exact ⟨j + 1, by omega, by rw [← HXX.out, e.out], by go_num, trivial, HOK2⟩
              case measure => simp [intOf]; omega
            · obtain ⟨q, hq⟩ : ∃ q : Nat, q = 15 - z.toNat := ⟨_, rfl⟩
              have rq : 15 - z = (q : Int) := by omega
              have HSN2 : Hid (x = s + 2 ^ q) := by have := HSN.out; rw [if_neg hz00, ← hq] at this; exact this
              have hp : 2 ^ q ≤ 2 ^ 15 := Nat.pow_le_pow_right (by decide) (by omega)
              obtain ⟨p, hp2⟩ : ∃ p, p = 2 ^ q := ⟨_, rfl⟩
              have HP : Hid (p = 2 ^ q) := hp2
              rw [← hp2] at hp
              have hw : RowKit.wrap64 ((2 : Int) ^ q) = (p : Int) := by
                have e : ((2 : Int) ^ q) = (p : Int) := by rw [HP.out]; exact (Int.natCast_pow 2 q).symm
                rw [e, ← IntWalk.i64_left]
                exact IntWalk.i64_in _ (by omega)
              have hxe : (s : Int) + (p : Int) = (x : Int) := by have := HSN2.out; rw [← HP.out] at this; omega
              have hq15 : q ≤ 15 := by omega
              have hz1 : (0 : Int) < z := by omega
              clear hq hp2
              go_wp2_with fail
              go_roundw
              case rel => exact ⟨j + 1, by omega, by rw [← HXX.out], by go_num, trivial, HOK2⟩
              case measure => simp [intOf]; omega
      · obtain rfl : j = n := by omega
        have HALL : Hid (zs.take j = zs) := by show _ = _; exact List.take_of_length_le (by have := hn.out; omega)
        have HE : Hid (errS zs = 0 ∧ spcR zs = spc zs) := by
          have hL := LOk.take_of HOK.out
          rw [HALL.out] at hL
          have e := errS_ok (show ¬ 288 < zs.length by have := hn.out; omega) hL
          exact ⟨e, by unfold spcR; rw [if_pos e]⟩
        go_wp2_with fail
        go_ret2
        exact ⟨by rw [HE.out.1, HE.out.2, HALL.out]; rfl, rfl⟩

set_option maxRecDepth 100000 in
set_option maxHeartbeats 1000000 in
theorem rcheck_any (a : Option Addr) (zs : List Int) (n cap : Nat) (hn : Hid (zs.length = n)) (w : World) (hs : SegZ w a zs) (hl : n ≤ 9223372036854775807) :
    Calls Tryz.prog 63 #[.slice a n cap] w fun e w' => e = .returned (.int .i64 (errC zs)) ∧ w' = w := by
  have C := r5space_any a zs n cap hn w hs hl
  rcases errS_two zs with he | he
  · have HE : Hid (errS zs = 0) := he
    have HSP : Hid (spcR zs = spc zs) := by show _ = _; unfold spcR; rw [if_pos he]
    have HL := errS_zero he
    have HLK : Hid (LOk zs) := HL.2
    have hn288 : n ≤ 288 := by have := hn.out; have := HL.1; omega
    rw [he, HSP.out] at C
    have HEC : Hid (errC zs = errR zs) := by show _ = _; unfold errC; rw [if_pos he]
    have hsb : spc zs ≤ 10000000 := by
      have h1 := spc_tot zs
      have h2 := tot_le zs HL.2
      have h3 : tot zs * 16384 ≤ 288 * 16384 := Nat.mul_le_mul_right _ (by omega)
      exact Nat.le_trans h1 (Nat.le_trans h3 (by decide))
    have HRR : Hid (errR zs = if 32768 < spc zs then 51 else if spc zs = 32768 ∨ tot zs = 0 ∨ (tot zs = 1 ∧ spc zs = 16384) then 0 else 52) := by
      show _ = _
      unfold errR
      by_cases c : tot zs = 1
      · have e : (cC zs 1 = 1) = (spc zs = 16384) := propext (one_half c).symm
        simp only [e]
      · have e1 : (tot zs = 1 ∧ cC zs 1 = 1) = False := by simp [c]
        have e2 : (tot zs = 1 ∧ spc zs = 16384) = False := by simp [c]
        simp only [e1, e2]
    clear he HL
    go_enter Tryz.func63, Tryz.ntmps63
    go_wp2_with fail
    refine C.mono ?_
    rintro e w1 ⟨rfl, hw1⟩
    subst w1
    generalize spc zs = s at *
    by_cases h1 : 32768 < s
    · have h1i : (32768 : Int) < (s : Int) := by omega
      go_wp2_with fail
      go_ret
      exact ⟨by rw [HEC.out, HRR.out, if_pos h1]; rfl, rfl⟩
    · have h1i : ¬ (32768 : Int) < (s : Int) := by omega
      go_wp2_with fail
      go_loopw [5, 20] (fun tu tj wr => ∃ j : Nat, j ≤ n ∧ tu = .int .i64 (tot (zs.take j) : Int) ∧ tj = .int .i64 (j : Int) ∧ wr = w) (fun _ tj _ => n - (intOf tj).toNat)
      case atStart => exact ⟨0, by omega, by rw [List.take_zero, tot_nil]; rfl, rfl, rfl⟩
      case round =>
        obtain ⟨j, hj, rfl, rfl, hwr⟩ := hrel
        subst hwr
        by_cases hjn : j < n
        · have hji : (j : Int) < (n : Int) := by omega
          obtain ⟨b, off, rfl, c0⟩ := hs.at_ j (by have := hn.out; omega)
          have HTK : Hid (zs.take (j + 1) = zs.take j ++ [zs.getD j 0]) := take_snocZ (by have := hn.out; omega)
          have HZB : Hid (0 ≤ zs.getD j 0 ∧ zs.getD j 0 ≤ 15) := HLK.out.get j
          have HTS : Hid (tot (zs.take (j + 1)) = tot (zs.take j) + (if zs.getD j 0 = 0 then 0 else 1)) := by
            show _ = _
            rw [HTK.out, tot_snoc _ HZB.out]
          have htb : tot (zs.take j) ≤ 288 := by
            have h1 := tot_le (zs.take j) (LOk.take_of (fun i _ => HLK.out.get i))
            simp at h1
            omega
          have HX : Hid (∃ x, x = tot (zs.take (j + 1))) := ⟨_, rfl⟩
          obtain ⟨x, hx⟩ := HX.out
          have HXX : Hid (x = tot (zs.take (j + 1))) := hx
          rw [← hx] at HTS
          clear hx HX
          generalize tot (zs.take j) = u at *
          generalize zs.getD j 0 = z at *
          by_cases hz0 : z = 0
          · subst hz0
            have e : Hid (x = u) := by show _ = _; have := HTS.out; simpa using this
            go_wp2_with fail
            go_roundw
            case rel => exact ⟨j + 1, by omega, by rw [← HXX.out, e.out], by go_num, trivial⟩
            case measure => simp [intOf]; omega
          · have hz1 : (0 : Int) < z := by have := HZB.out; omega
            have e : Hid (x = u + 1) := by show _ = _; have := HTS.out; rw [if_neg hz0] at this; exact this
            go_wp2_with fail
            go_roundw
            case rel => exact ⟨j + 1, by omega, by rw [← HXX.out, e.out]; go_num, by go_num, trivial⟩
            case measure => simp [intOf]; omega
        · obtain rfl : j = n := by omega
          have HALL : Hid (zs.take j = zs) := by show _ = _; exact List.take_of_length_le (by have := hn.out; omega)
          rw [HALL.out]
          have htb : tot zs ≤ 288 := Nat.le_trans (tot_le zs HLK.out) (by have := hn.out; omega)
          generalize tot zs = u at *
          by_cases c1 : s = 32768
          · subst c1
            have hf : Hid (errC zs = 0) := by show _ = _; rw [HEC.out, HRR.out, if_neg h1, if_pos (.inl rfl)]
            clear HRR
            go_wp2_with fail
            go_ret
            exact ⟨by rw [hf.out]; rfl, rfl⟩
          · have c1i : ¬ (s : Int) = 32768 := by omega
            by_cases c2 : u = 0
            · subst c2
              have hf : Hid (errC zs = 0) := by show _ = _; rw [HEC.out, HRR.out, if_neg h1, if_pos (.inr (.inl rfl))]
              clear HRR
              go_wp2_with fail
              go_ret
              exact ⟨by rw [hf.out]; rfl, rfl⟩
            · have c2i : ¬ (u : Int) = 0 := by omega
              by_cases c3 : u = 1
              · subst c3
                by_cases c4 : s = 16384
                · subst c4
                  have hf : Hid (errC zs = 0) := by show _ = _; rw [HEC.out, HRR.out, if_neg h1, if_pos (.inr (.inr ⟨rfl, rfl⟩))]
                  clear HRR
                  go_wp2_with fail
                  go_ret
                  exact ⟨by rw [hf.out]; rfl, rfl⟩
                · have c4i : ¬ (s : Int) = 16384 := by omega
                  have hf : Hid (errC zs = 52) := by show _ = _; rw [HEC.out, HRR.out, if_neg h1, if_neg (by omega)]
                  have c4b : ((s : Int) == 16384) = false := by simp; omega
                  have c1b : ((s : Int) == 32768) = false := by simp; omega
                  clear HRR
                  go_wp2_with fail
                  go_ret
                  exact ⟨by rw [hf.out]; rfl, rfl⟩
              · have c3i : ¬ (u : Int) = 1 := by omega
                have hf : Hid (errC zs = 52) := by show _ = _; rw [HEC.out, HRR.out, if_neg h1, if_neg (by omega)]
                have c3b : ((u : Int) == 1) = false := by simp; omega
                have c2b : ((u : Int) == 0) = false := by simp; omega
                have c1b : ((s : Int) == 32768) = false := by simp; omega
                clear HRR
                go_wp2_with fail
                go_ret
                exact ⟨by rw [hf.out]; rfl, rfl⟩
  · have HE : Hid (errS zs = 50 ∧ errC zs = 50) := ⟨he, by unfold errC; rw [he, if_neg (by decide)]⟩
    rw [he] at C
    clear he
    go_enter Tryz.func63, Tryz.ntmps63
    go_wp2_with fail
    refine C.mono ?_
    rintro e w1 ⟨rfl, hw1⟩
    subst w1
    go_wp2_with fail
    go_ret
    exact ⟨by rw [HE.out.2]; rfl, rfl⟩
end Go.Proofs.YtcifalelnfeggaaGreatDoor

namespace Go.Proofs.YtcifalelnfeggaaGreatDoor
set_option linter.unusedVariables false

/-! The lengths that lens makes are the lengths of a code. -/
theorem spc_us {Z : List Int} (hok : LOk Z) : ∀ k, k ≤ Z.length → spc (Z.take k) = ((usI Z k).map fun i => 2 ^ (15 - (Z.getD i 0).toNat)).sum ∧ tot (Z.take k) = (usI Z k).length
  | 0, _ => by
    rw [List.take_zero, spc_nil, tot_nil]
    simp [usI]
  | k + 1, hk => by
    obtain ⟨i1, i2⟩ := spc_us hok k (by omega)
    have hb := hok.get k
    rw [take_snocZ (by omega), spc_snoc _ hb, tot_snoc _ hb, i1, i2, usI_snoc]
    by_cases h : Z.getD k 0 = 0
    · rw [if_pos h, if_pos h, if_pos h, List.append_nil]
      exact ⟨rfl, rfl⟩
    · rw [if_neg h, if_neg h, if_neg h, List.map_append, List.sum_append, List.length_append]
      refine ⟨?_, rfl⟩
      simp only [List.map_cons, List.map_nil, List.sum_cons, List.sum_nil, Nat.add_zero]
theorem us_same {Y Z : List Int} : ∀ k, (∀ i, i < k → (Y.getD i 0 = 0 ↔ Z.getD i 0 = 0)) → usI Y k = usI Z k
  | 0, _ => rfl
  | k + 1, h => by
    rw [usI_snoc, usI_snoc, us_same k fun i hi => h i (by omega)]
    have := h k (by omega)
    by_cases c : Y.getD k 0 = 0
    · rw [if_pos c, if_pos (this.1 c)]
    · rw [if_neg c, if_neg (fun e => c (this.2 e))]
/-- The lengths are a code's. -/
theorem lens_code {zs : List Int} (he : errOf zs = 0) {lim : Nat} (h1 : 1 ≤ lim) (h15 : lim ≤ 15) (hl : nUse zs ≤ 2 ^ lim) : errC (lensL lim zs) = 0 ∧ (∀ i, i < zs.length → (lensL lim zs).getD i 0 ≤ lim) ∧ ∀ i, i < zs.length → (zs.getD i 0 ≠ 0 → (lensL lim zs).getD i 0 ≠ 0) := by
  have hlen := lens_len (zs := zs) lim
  have hz : ∀ i, i < zs.length → ((lensL lim zs).getD i 0 = 0 ↔ zs.getD i 0 = 0) ∧ 0 ≤ (lensL lim zs).getD i 0 ∧ (lensL lim zs).getD i 0 ≤ lim := by
    intro i hi
    by_cases c : zs.getD i 0 = 0
    · have := lens_none he (lim := lim) c
      refine ⟨⟨fun _ => c, fun _ => this⟩, by omega, by omega⟩
    · have := lens_bd he h1 hl (usI_mem.2 ⟨hi, c⟩)
      refine ⟨⟨fun e => by omega, fun e => absurd e c⟩, by omega, by omega⟩
  have hok : LOk (lensL lim zs) := by
    intro z hzm
    obtain ⟨i, hi, rfl⟩ := List.mem_iff_getElem.1 hzm
    have := (hz i (by omega)).2
    simp only [List.getD, List.getElem?_eq_getElem hi, Option.getD_some] at this
    omega
  have hus : usI (lensL lim zs) zs.length = usI zs zs.length := us_same _ fun i hi => (hz i hi).1
  obtain ⟨s1, s2⟩ := spc_us hok zs.length (by omega)
  rw [List.take_of_length_le (by omega), hus] at s1 s2
  refine ⟨?_, fun i hi => (hz i hi).2.2, fun i hi h e => h ((hz i hi).1.1 e)⟩
  have hS : errS (lensL lim zs) = 0 := by
    unfold errS
    rw [if_neg (by rw [hlen]; have := (errOf_zero he).1; omega), if_pos (okL_iff.2 hok)]
  unfold errC
  rw [if_pos hS]
  have hn := nUse_us zs
  unfold errR
  by_cases n0 : nUse zs = 0
  · have ht : tot (lensL lim zs) = 0 := by rw [s2, ← hn]; exact n0
    have := spc_tot (lensL lim zs)
    rw [if_neg (by omega), if_pos (.inr (.inl ht))]
  · by_cases n1 : nUse zs = 1
    · obtain ⟨s, e1, e2, _⟩ := lens_one he (lim := lim) n1
      have ht : tot (lensL lim zs) = 1 := by rw [s2, ← hn]; exact n1
      have hsp : spc (lensL lim zs) = 16384 := by
        rw [s1, e1]
        simp only [List.map_cons, List.map_nil, List.sum_cons, List.sum_nil, Nat.add_zero, e2]
        rfl
      rw [if_neg (by omega), if_pos (.inr (.inr ⟨ht, (one_half ht).1 hsp⟩))]
    · have hk := lens_kraft he h1 h15 hl (by omega)
      rw [← s1] at hk
      rw [if_neg (by omega), if_pos (.inl hk)]
end Go.Proofs.YtcifalelnfeggaaGreatDoor

namespace Go.Proofs.YtcifalelnfeggaaGreatDoor
open Go.RowKit
set_option linter.unusedVariables false

/-! As LnLen2's contract of Lengths, but with the row of the answer as the call's own. -/
set_option maxRecDepth 100000 in
set_option maxHeartbeats 2000000 in
theorem lengths_okO (lim : Nat) (a : Option Addr) (zs : List Int) (n cap : Nat) (hn : Hid (zs.length = n)) (w : World) (hs : SegZ w a zs) (h1 : 1 ≤ lim) (h15 : lim ≤ 15) (he : errOf zs = 0) :
    Calls Tryz.prog 68 #[.int .i64 lim, .slice a n cap] w fun e w' => ∃ b c, e = .returned (.tuple #[.slice b (lensR lim zs).length c, .int .i64 (errL lim zs)]) ∧ w'.ownsRow w.heap.size 3 1 (.slice b (lensR lim zs).length c) (lensR lim zs).length ((lensR lim zs).map (Value.int .i64)) ∧ Below w.heap.size w w' := by
  obtain ⟨h288, hbx⟩ := errOf_zero he
  have hn288 : n ≤ 288 := by have := hn.out; omega
  have HC : Hid (∀ W, SegZ W a zs → Calls Tryz.prog 92 #[.slice a n cap] W fun e w' => e = .returned (.int .i64 0) ∧ w' = W) := fun W hW => by
    have := refusal_any a zs cap W hW (by have := hn.out; omega)
    rw [he, hn.out] at this
    exact this
  have HE : Hid (errOf zs = 0) := he
  clear he h288
  have l1 : ¬ (lim : Int) < 1 := by omega
  have l2 : ¬ (15 : Int) < (lim : Int) := by omega
  go_enter Tryz.func68, Tryz.ntmps68
  go_wp2_with fail
  refine (HC.out _ hs).mono ?_
  rintro e w' ⟨rfl, hw'⟩
  subst w'
  go_wp2_with fail
  refine (leaves_any a zs n cap hn _ hs hn288).mono ?_
  rintro e w1 ⟨b, m, c, Y, rfl, LF, B1⟩
  obtain ⟨P, hP⟩ : ∃ P : Nat, P = 2 ^ lim := ⟨_, rfl⟩
  have hPb : P ≤ 32768 := by rw [hP]; exact Nat.le_trans (Nat.pow_le_pow_right (by decide) h15) (by decide)
  have hPw : RowKit.wrap64 ((2 : Int) ^ lim) = (P : Int) := by
    have e : ((2 : Int) ^ lim) = (P : Int) := by rw [hP]; exact (Int.natCast_pow 2 lim).symm
    rw [e, ← IntWalk.i64_left]
    exact IntWalk.i64_in _ (by omega)
  have HSRT : Hid ((lst Y 0 m).map toP = LFz zs) := sorted_LF (fun i => (hbx i).1) LF.pm LF.ord
  have HNU : Hid (nUse zs = m) := by show _ = _; unfold nUse; rw [← HSRT.out]; simp [lst]
  have HM288 : Hid (m ≤ 288) := by
    have h3 := LF.len
    have h4 := leafL_len zs zs.length
    have := hn.out
    show _ ≤ _
    omega
  have HPP : Hid (P = 2 ^ lim) := hP
  have hm288 : m ≤ 288 := HM288.out
  clear hP
  by_cases hmP : P < m
  · have hmPi : (P : Int) < (m : Int) := by omega
    have HER : Hid (errL lim zs = 41 ∧ lensR lim zs = []) := by
      have e1 : errL lim zs = 41 := by
        unfold errL
        rw [if_neg (by omega), if_pos HE.out, if_pos (by rw [HNU.out, Int.toNat_natCast, ← HPP.out]; exact hmP)]
      exact ⟨e1, by unfold lensR; rw [e1]; rfl⟩
    go_wp2
    go_ret2
    exact ⟨none, 0, by rw [HER.out.1, HER.out.2]; rfl, by rw [HER.out.2]; exact World.ownsRow_nil _ _ _ _, B1⟩
  · have hmPi : ¬ (P : Int) < (m : Int) := by omega
    have HER : Hid (errL lim zs = 0 ∧ lensR lim zs = lensL lim zs) := by
      have e1 : errL lim zs = 0 := by
        unfold errL
        rw [if_neg (by omega), if_pos HE.out, if_neg (by rw [HNU.out, Int.toNat_natCast, ← HPP.out]; exact hmP)]
      exact ⟨e1, by unfold lensR; rw [if_pos e1, Int.toNat_natCast]⟩
    have hmk := run_make_ints n (by omega) w1
    have O2 := own_zeros w1 n (by omega)
    have B2 : Below w1.heap.size w1 (w1.alloc (.cells (Array.replicate n (.int .i64 0)) 3)) := (Below.refl _ _).alloc (Nat.le_refl _) _
    have hsz2 : w1.heap.size < (w1.alloc (.cells (Array.replicate n (.int .i64 0)) 3)).heap.size := by simp
    obtain ⟨o, ho⟩ : ∃ o, o = w1.heap.size := ⟨_, rfl⟩
    have HO : Hid (o = w1.heap.size) := ho
    generalize w1.alloc (.cells (Array.replicate n (.int .i64 0)) 3) = w2 at *
    rw [← ho] at O2 hmk hsz2
    have B12 : Below w.heap.size w w2 := B1.trans (B2.mono B1.size)
    have hzb : ∀ z ∈ List.replicate n (0 : Int), -9223372036854775808 ≤ z ∧ z ≤ 9223372036854775807 := fun z hz => by obtain ⟨_, rfl⟩ := List.mem_replicate.1 hz; omega
    clear ho
    by_cases hm0 : m = 0
    · subst hm0
      have HLL : Hid (lensL lim zs = List.replicate n 0) := by show _ = _; unfold lensL; rw [if_pos HNU.out, hn.out]
      go_wp2
      go_ret2
      refine ⟨some ⟨o, 0, none⟩, n, ?_, ?_, B12⟩
      · rw [HER.out.1, HER.out.2, HLL.out, List.length_replicate]; rfl
      · rw [HER.out.2, HLL.out, List.length_replicate]
        exact own_base O2 (by have := HO.out; have := B1.size; omega)
    · obtain ⟨g, rfl, S1, hgB, hgs, hmc⟩ := LF.row (by omega)
      have S2 := S1.old hgs B2
      have hgo : g ≠ o := by have := HO.out; omega
      by_cases hm1 : m = 1
      · subst hm1
        have it0' := S2.it (k := 0) (by omega)
        have hy : Y 0 ∈ leafL zs zs.length := LF.pm.mem_iff.1 (mem_lst.2 ⟨0, Nat.le_refl _, by omega, rfl⟩)
        obtain ⟨g1, g2, g3, g4, g5, g6⟩ := leaf_good (fun i => (hbx i).1) _ hy
        obtain ⟨s, hsy⟩ : ∃ s : Nat, (Y 0).sy = (s : Int) := ⟨(Y 0).sy.toNat, by omega⟩
        have HLL : Hid (lensL lim zs = (List.replicate n 0).set s 1) := by
          show _ = _
          unfold lensL
          rw [if_neg (by rw [HNU.out]; decide), if_pos HNU.out, ← HSRT.out, hn.out]
          have : lst Y 0 1 = [Y 0] := rfl
          rw [this]
          simp [toP, hsy]
        have hsn : s < n := by have := hn.out; omega
        obtain ⟨c0, c1, c2, c3⟩ := it0'
        rw [hsy] at c1
        simp only [Nat.zero_mul, Nat.zero_add] at c0 c1 c2 c3
        obtain ⟨a0, fz⟩ := own_cell1 O2 (i := s) (by simp; omega)
        have f0 := fz s
        have HST := O2.stored s (.int .i64 1)
        rw [← List.map_set] at HST
        have HSS : Hid _ := HST
        clear HST
        have zi : (s : Int) < (n : Int) := by omega
        have hl9 : ((List.replicate n (0 : Int)).set s 1).length = n := by simp
        clear hsy g1 g2 g3 g4 g5 g6 hy
        generalize (List.replicate n (0 : Int)).getD s 0 = zz at *
        go_wp2
        go_ret2
        obtain ⟨o3, g3⟩ := HSS.out
        refine ⟨some ⟨o, 0, none⟩, n, ?_, ?_, B12.trans ((Below.refl _ _).grown g3 B12.size (by intro k e; simp at e; have := HO.out; have := B1.size; omega))⟩
        · rw [HER.out.1, HER.out.2, HLL.out, hl9]; rfl
        · rw [HER.out.2, HLL.out, hl9]
          exact own_base o3 (by have := HO.out; have := B1.size; omega)
      · have hm2 : 2 ≤ m := by omega
        have hLl := lst_len Y m
        have hLFl : (LFz zs).length = m := HNU.out
        have hFl : (itF (LFz zs)).length = m := by rw [itF_len]; exact hLFl
        have CL := lastRow_any (some ⟨g, 0, none⟩) m c lim o (lst Y 0 m) (itF (LFz zs)) w2 hLl (lst_RL S2) (leaf_row (fun i => (hbx i).1) LF.pm LF.ord) (by intro x hx; cases hx; exact hgo) hsz2 (fun t ht => by
          unfold itF at ht
          obtain ⟨x, hx, rfl⟩ := List.mem_map.1 ht
          have h3 := LF_mem (fun i => (hbx i).1) hx
          have h4 := hbx x.2
          simp only
          omega) hm288 hmc (by intro h; cases h) h1 h15
        have HHAS : Hid (2 * m - 2 ≤ (row (itF (LFz zs)) (lim - 1)).length) := by
          have h3 := row_has (itF (LFz zs)) lim h1 (by rw [hFl, ← HPP.out]; omega)
          rw [hFl] at h3
          exact h3
        have HLL : Hid (lensL lim zs = bumps (List.replicate n 0) (taken (LFz zs) lim)) := by
          show _ = _
          unfold lensL
          rw [if_neg (by rw [HNU.out]; omega), if_neg (by rw [HNU.out]; omega), hn.out]
        obtain ⟨q, hq⟩ : ∃ q, q = 2 * m - 2 := ⟨_, rfl⟩
        have rq : 2 * (m : Int) - 2 = (q : Int) := by omega
        have HQ : Hid (q = 2 * m - 2) := hq
        have HTK : Hid (taken (LFz zs) lim = syms ((row (itF (LFz zs)) (lim - 1)).take q) q) := by
          show _ = _
          unfold taken syms
          rw [List.take_take, Nat.min_self, hq, hLFl]
        have HSY : Hid (∀ s ∈ taken (LFz zs) lim, s < n) := by
          intro s hs
          unfold taken at hs
          obtain ⟨t, ht, hst⟩ := List.mem_flatMap.1 hs
          have h3 := row_sym (itF (LFz zs)) (fun s => s < n) (fun t ht s hs => by
            unfold itF at ht
            obtain ⟨x, hx, rfl⟩ := List.mem_map.1 ht
            simp at hs
            subst hs
            have := (LF_mem (fun i => (hbx i).1) hx).1
            have := hn.out
            omega) (lim - 1) t (List.mem_of_mem_take ht)
          exact h3 s hst
        have HLN : Hid ((taken (LFz zs) lim).length ≤ 4611686018427387904) := by
          unfold taken
          have h3 := flat_len 16384 ((row (itF (LFz zs)) (lim - 1)).take (2 * (LFz zs).length - 2)) (fun t ht => by
            have h4 := row_sl (itF (LFz zs)) (fun t ht => by
              unfold itF at ht
              obtain ⟨x, hx, rfl⟩ := List.mem_map.1 ht
              simp) (lim - 1) t (List.mem_of_mem_take ht)
            have h5 := pow14 ⟨lim - 1, by omega⟩
            simp only at h5
            omega)
          have h6 : ((row (itF (LFz zs)) (lim - 1)).take (2 * (LFz zs).length - 2)).length ≤ 576 := by
            rw [hLFl, List.length_take]; omega
          show _ ≤ _
          have h7 := Nat.mul_le_mul_right 16384 h6
          omega
        have hmi1 : ¬ (m : Int) = 1 := by omega
        have hmi2 : (1 : Int) < (m : Int) := by omega
        clear hq hLl hFl hLFl
        go_wp2_with fail
        refine CL.mono ?_
        rintro e w3 ⟨b3, c3, R, rfl, hRc, rr, hbo, mr, B3⟩
        have hRl : q ≤ R.length := by have := mr.len; have := HHAS.out; have := HQ.out; omega
        have hqc : (q : Int) ≤ (c3 : Int) := by omega
        have CT := tally_any o n o b3 q c3 (lim - 1) (List.replicate n 0) (R.take q) ((row (itF (LFz zs)) (lim - 1)).take q) w3 (by show _ = _; simp; omega) (rr.takeL q) (mr.takeL q) hbo (own_below O2 B3) (Nat.lt_of_lt_of_le hsz2 B3.size) (by show _ = _; simp) (by omega) (by omega) (by rw [← HTK.out]; exact HSY.out) (fun i => by
          by_cases h : i < n
          · simp [List.getD, h]
          · simp [List.getD, h]) (by rw [← HTK.out]; exact HLN.out)
        rw [← HTK.out] at CT
        clear CL
        go_wp2_with fail
        refine CT.mono ?_
        rintro e w4 ⟨rfl, O4, g4⟩
        go_wp2
        go_ret2
        have hbl : (bumps (List.replicate n (0 : Int)) (taken (LFz zs) lim)).length = n := by rw [bumps_len]; simp
        refine ⟨some ⟨o, 0, none⟩, n, ?_, ?_, ?_⟩
        · rw [HER.out.1, HER.out.2, HLL.out, hbl]; rfl
        · rw [HER.out.2, HLL.out, hbl]
          exact own_base O4 (by have := HO.out; have := B1.size; omega)
        · have B13 : Below w.heap.size w w3 := B12.trans (B3.mono B12.size)
          exact B13.trans ((Below.refl _ _).grown g4 B13.size (by intro k e; simp at e; have := HO.out; have := B1.size; omega))

def LenO (w : World) (lim : Int) (zs : List Int) (e : Ending) (w' : World) : Prop := ∃ b c, e = .returned (.tuple #[.slice b (lensR lim zs).length c, .int .i64 (errL lim zs)]) ∧ w'.ownsRow w.heap.size 3 1 (.slice b (lensR lim zs).length c) (lensR lim zs).length ((lensR lim zs).map (Value.int .i64)) ∧ Below w.heap.size w w'
set_option maxRecDepth 100000 in
theorem lengths_own (lim : Int) (a : Option Addr) (zs : List Int) (n cap : Nat) (hn : Hid (zs.length = n)) (w : World) (hs : SegZ w a zs) (hl : n ≤ 9223372036854775807) :
    Calls Tryz.prog 68 #[.int .i64 lim, .slice a n cap] w fun e w' => LenO w lim zs e w' := by
  by_cases h1 : lim < 1
  · have HER : Hid (errL lim zs = 1 ∧ lensR lim zs = []) := by
      have e1 : errL lim zs = 1 := by unfold errL; rw [if_pos (.inl h1)]
      exact ⟨e1, by unfold lensR; rw [e1]; rfl⟩
    go_enter Tryz.func68, Tryz.ntmps68
    go_wp2
    go_ret2
    exact ⟨none, 0, by rw [HER.out.1, HER.out.2]; rfl, by rw [HER.out.2]; exact World.ownsRow_nil _ _ _ _, Below.refl _ _⟩
  · by_cases h2 : 15 < lim
    · have HER : Hid (errL lim zs = 1 ∧ lensR lim zs = []) := by
        have e1 : errL lim zs = 1 := by unfold errL; rw [if_pos (.inr h2)]
        exact ⟨e1, by unfold lensR; rw [e1]; rfl⟩
      go_enter Tryz.func68, Tryz.ntmps68
      go_wp2
      go_ret2
      exact ⟨none, 0, by rw [HER.out.1, HER.out.2]; rfl, by rw [HER.out.2]; exact World.ownsRow_nil _ _ _ _, Below.refl _ _⟩
    · by_cases he : errOf zs = 0
      · obtain ⟨l, rfl⟩ : ∃ l : Nat, lim = (l : Int) := ⟨lim.toNat, by omega⟩
        exact lengths_okO l a zs n cap hn w hs (by omega) (by omega) he
      · have HER : Hid (errL lim zs = errOf zs ∧ lensR lim zs = []) := by
          have e1 : errL lim zs = errOf zs := by unfold errL; rw [if_neg (by omega), if_neg he]
          exact ⟨e1, by unfold lensR; rw [e1, if_neg he]⟩
        have HC := refusal_any a zs cap w hs (by have := hn.out; omega)
        rw [hn.out] at HC
        generalize errOf zs = E at *
        go_enter Tryz.func68, Tryz.ntmps68
        go_wp2_with fail
        refine HC.mono ?_
        rintro e w' ⟨rfl, hw'⟩
        subst w'
        go_wp2
        go_ret2
        exact ⟨none, 0, by rw [HER.out.1, HER.out.2]; rfl, by rw [HER.out.2]; exact World.ownsRow_nil _ _ _ _, Below.refl _ _⟩
end Go.Proofs.YtcifalelnfeggaaGreatDoor

namespace Go.Proofs.YtcifalelnfeggaaGreatDoor
open Go.RowKit
set_option linter.unusedVariables false

/-! What is laid down of a head, as mathematics; the landed head: planned. -/
def rw8 (lit dist : List Int) : List Int := sht8 lit 257 ++ sht8 dist 1
def rs8 (lit dist : List Int) : List Rn8 := runs8 (rw8 lit dist)
def fr8 (lit dist : List Int) : List Int := tly8 (rs8 lit dist)
def sz8 (lit dist : List Int) : List Int := lensL 7 (fr8 lit dist)
theorem sht8_mem {zs : List Int} {k : Nat} (h : ∀ z ∈ zs, 0 ≤ z ∧ z ≤ 15) : ∀ z ∈ sht8 zs k, 0 ≤ z ∧ z ≤ 15 := by
  intro z hz
  unfold sht8 at hz
  rcases List.mem_append.1 hz with hz | hz
  · exact h z (List.mem_of_mem_take hz)
  · rw [List.eq_of_mem_replicate hz]; omega
theorem sht8_len {zs : List Int} {k m : Nat} (h : zs.length ≤ m) (hk : k ≤ m) : k ≤ (sht8 zs k).length ∧ (sht8 zs k).length ≤ m := by
  unfold sht8
  have := cut8_le zs zs.length
  rw [List.length_append, List.length_take, List.length_replicate]
  omega
theorem tld8_ok {lit dist : List Int} (h : tld8 errC lit dist) : LOk lit ∧ LOk dist ∧ may8 (rw8 lit dist) ∧ (257 ≤ (sht8 lit 257).length ∧ (sht8 lit 257).length ≤ 286) ∧ (1 ≤ (sht8 dist 1).length ∧ (sht8 dist 1).length ≤ 30) := by
  obtain ⟨h1, h2, h3, h4, h5, h6⟩ := h
  have a := (errS_zero (errC_zero h4).1).2
  have b := (errS_zero (errC_zero h5).1).2
  have la := sht8_len (zs := lit) (k := 257) (m := 286) h2 (by omega)
  have lb := sht8_len (zs := dist) (k := 1) (m := 30) h3 (by omega)
  refine ⟨a, b, ⟨?_, ?_⟩, la, lb⟩
  · unfold rw8
    rw [List.length_append]
    omega
  · intro z hz
    unfold rw8 at hz
    rcases List.mem_append.1 hz with hz | hz
    · exact sht8_mem a z hz
    · exact sht8_mem b z hz
theorem fr8_err (lit dist : List Int) (h : tld8 errC lit dist) : errOf (fr8 lit dist) = 0 ∧ nUse (fr8 lit dist) ≤ 2 ^ 7 ∧ errL 7 (fr8 lit dist) = 0 ∧ lensR 7 (fr8 lit dist) = sz8 lit dist := by
  have hm := (tld8_ok h).2.2.1
  have hrl := (runs8_ok hm).2
  have hl : (fr8 lit dist).length = 19 := tly8_len _
  have he : errOf (fr8 lit dist) = 0 := by
    unfold errOf
    rw [if_neg (by omega), if_pos]
    rw [List.all_eq_true]
    intro z hz
    have := tly8_bd _ z hz
    have h320 := hm.1
    have hr2 : (rs8 lit dist).length ≤ 320 := by unfold rs8; omega
    unfold okF
    simp only [decide_eq_true_eq]
    omega
  have hn : nUse (fr8 lit dist) ≤ 19 := by
    rw [nUse_us]
    unfold usI
    have := List.length_filter_le (fun i => decide ((fr8 lit dist).getD i 0 ≠ 0)) (List.range (fr8 lit dist).length)
    rw [List.length_range, hl] at this
    rw [hl]
    exact this
  have hL : errL 7 (fr8 lit dist) = 0 := by
    unfold errL
    rw [if_neg (by omega), if_pos he, if_neg]
    have : (2 : Nat) ^ (7 : Int).toNat = 128 := rfl
    omega
  refine ⟨he, by have : (2 : Nat) ^ 7 = 128 := rfl; omega, hL, ?_⟩
  unfold lensR
  rw [if_pos hL]
  rfl
theorem sz8_ok {lit dist : List Int} (h : tld8 errC lit dist) : errC (sz8 lit dist) = 0 ∧ (sz8 lit dist).length = 19 ∧ (∀ i, i < 19 → 0 ≤ (sz8 lit dist).getD i 0 ∧ (sz8 lit dist).getD i 0 ≤ 7) ∧ ∀ r ∈ rs8 lit dist, (sz8 lit dist).getD r.sy.toNat 0 ≠ 0 := by
  obtain ⟨he, hn, _, _⟩ := fr8_err lit dist h
  have hl : (fr8 lit dist).length = 19 := tly8_len _
  obtain ⟨c1, c2, c3⟩ := lens_code he (lim := 7) (by omega) (by omega) hn
  have hok := (errS_zero (errC_zero c1).1).2
  refine ⟨c1, by unfold sz8; rw [lens_len, hl], fun i hi => ⟨(hok.get i).1, c2 i (by omega)⟩, fun r hr => ?_⟩
  have hrok := (runs8_ok (tld8_ok h).2.2.1).1 r hr
  have hs : r.sy.toNat < 19 := by unfold ok8 at hrok; omega
  refine c3 r.sy.toNat (by omega) ?_
  unfold fr8
  rw [tly8_get _ hs]
  have : r ∈ (rs8 lit dist).filter fun q => q.sy == ((r.sy.toNat : Nat) : Int) := by
    refine List.mem_filter.2 ⟨hr, ?_⟩
    unfold ok8 at hrok
    rw [beq_iff_eq]
    omega
  have hp := List.length_pos_of_mem this
  omega
end Go.Proofs.YtcifalelnfeggaaGreatDoor
