import Derived.Test.YtmjlpfmacblcpaaDoorPo
import Derived.Test.YtmjlpfmacblcpaaDoorPl
import Derived.Test.YtmjlpfmacblcpaaDoorPh
import Derived.Test.YtmjlpfmacblcpaaDoorPe
import Derived.Test.YtmjlpfmacblcpaaDoorPn
import Derived.Test.YtmjlpfmacblcpaaDoorPf
namespace Go.Proofs.YtmjlpfmacblcpaaDoor
open Go.RowKit Go.Shelf
set_option linter.unusedVariables false
set_option linter.unusedSimpArgs false
def Bd24 (L : List Int) : Prop := ∀ z ∈ L, 0 ≤ z ∧ z ≤ 255
theorem Bd24.drop {L : List Int} (h : Bd24 L) (n : Nat) : Bd24 (L.drop n) := fun z hz => h z (List.mem_of_mem_drop hz)
theorem Bd24.take {L : List Int} (h : Bd24 L) (n : Nat) : Bd24 (L.take n) := fun z hz => h z (List.mem_of_mem_take hz)
theorem nb24_back {lo hi : Int} {L R : List Int} {x : Bool} (hb : Bd24 L) (h : nb24 lo hi (L, x) = (R, false)) : x = false ∧ L = encI (nbv24 lo hi L) ++ R ∧ lo ≤ nbv24 lo hi L ∧ nbv24 lo hi L ≤ hi ∧ Bd24 R := by
  unfold nb24 at h
  simp only at h
  by_cases hok : nok24 lo hi L = true
  · rw [if_pos hok] at h
    unfold nbv24
    rw [if_pos hok]
    unfold nok24 at hok
    simp only [Bool.and_eq_true, decide_eq_true_eq] at hok
    obtain ⟨h0, h1, h2⟩ := hok
    obtain ⟨dv, dn, de, hd⟩ : ∃ dv dn de, decL 0 0 L = (dv, dn, de) := ⟨_, _, _, rfl⟩
    rw [hd] at h h0 h1 h2 ⊢
    simp only at h h0 h1 h2 ⊢
    subst h0
    obtain ⟨m, g1, g2, rfl, g4, g5, g6⟩ := decI_ok L dv dn hb hd
    injection h with e1 e2
    subst e2
    subst e1
    refine ⟨rfl, ?_, h1, h2, hb.drop _⟩
    rw [← g6]
    simp
  · rw [if_neg hok] at h
    injection h with _ e2
    cases e2
theorem tk24_back {n : Nat} {L R : List Int} {x : Bool} (hb : Bd24 L) (h : tk24 n (L, x) = (R, false)) : x = false ∧ L = tkv24 n L ++ R ∧ (tkv24 n L).length = n ∧ Bd24 R := by
  unfold tk24 at h
  simp only at h
  by_cases hl : L.length < n
  · rw [if_pos hl] at h
    injection h with _ e2
    cases e2
  · rw [if_neg hl] at h
    injection h with e1 e2
    subst e1
    unfold tkv24
    rw [if_neg hl]
    exact ⟨e2, by simp, by simp; omega, hb.drop _⟩
theorem st24_back {pg : Nat} {L R : List Int} {x : Bool} (hb : Bd24 L) (h : st24 pg (L, x) = (R, false)) : x = false ∧ L = svp21 pg (stv24 pg (L, x)) ++ R ∧ Bd24 R ∧ (stv24 pg (L, x)).b.length ≤ pg ∧ 0 ≤ (stv24 pg (L, x)).wr ∧ (stv24 pg (L, x)).wr ≤ 1099511627776 ∧ ((stv24 pg (L, x)).er = true → (stv24 pg (L, x)).b = []) := by
  obtain ⟨L1, x1, h1⟩ : ∃ L1 x1, sw24 (L, x) = (L1, x1) := ⟨_, _, rfl⟩
  obtain ⟨L2, x2, h2⟩ : ∃ L2 x2, nb24 0 1 (L1, x1) = (L2, x2) := ⟨_, _, rfl⟩
  have hse : se24 (L, x) = (L2, x2) := by unfold se24; rw [h1, h2]
  have her : er24 (L, x) = (nbv24 0 1 L1 == 1) := by unfold er24; rw [h1]
  obtain ⟨E, hE⟩ : ∃ E, E = er24 (L, x) := ⟨_, rfl⟩
  have hst : stv24 pg (L, x) = ⟨if E then [] else tkv24 pg L2, E, nbv24 0 1099511627776 L⟩ := by unfold stv24 stb24; rw [← hE, hse]
  unfold st24 at h
  rw [← hE, hse] at h
  cases E
  · simp only [Bool.false_eq_true, if_false] at h hst
    have hbs : ∀ {lo hi : Int} {L R : List Int} {x y : Bool}, Bd24 L → nb24 lo hi (L, x) = (R, y) → Bd24 R := fun hb e => by
      unfold nb24 at e
      split at e
      · injection e with e1 _; subst e1; exact Bd24.drop hb _
      · injection e with e1 _; subst e1; exact hb
    have hb1 : Bd24 L1 := hbs hb h1
    have hb2 : Bd24 L2 := hbs hb1 h2
    obtain ⟨rfl, t1, t2, t3⟩ := tk24_back hb2 h
    obtain ⟨rfl, n1, n2, n3, -⟩ := nb24_back hb1 h2
    obtain ⟨rfl, w1, w2, w3, -⟩ := nb24_back hb h1
    have hv : nbv24 0 1 L1 = 0 := by
      rw [her] at hE
      have : ¬ nbv24 0 1 L1 = 1 := fun e => by rw [e] at hE; cases hE
      omega
    rw [hst]
    refine ⟨rfl, ?_, t3, by show (tkv24 pg L2).length ≤ pg; omega, w2, w3, fun e => by cases e⟩
    unfold svp21
    simp only [Bool.false_eq_true, if_false]
    rw [t2, Nat.sub_self, List.replicate_zero, List.append_nil]
    rw [hv, encI_small 0 (by decide)] at n1
    rw [List.append_assoc, List.cons_append, ← t1]
    have : L1 = 0 :: L2 := n1
    rw [← this]
    exact w1
  · simp only [if_true] at h hst
    injection h with e1 e2
    subst e1
    subst e2
    have hbs : ∀ {lo hi : Int} {L R : List Int} {x y : Bool}, Bd24 L → nb24 lo hi (L, x) = (R, y) → Bd24 R := fun hb e => by
      unfold nb24 at e
      split at e
      · injection e with e1 _; subst e1; exact Bd24.drop hb _
      · injection e with e1 _; subst e1; exact hb
    have hb1 : Bd24 L1 := hbs hb h1
    obtain ⟨rfl, n1, n2, n3, n4⟩ := nb24_back hb1 h2
    obtain ⟨rfl, w1, w2, w3, -⟩ := nb24_back hb h1
    have hv : nbv24 0 1 L1 = 1 := by
      rw [her] at hE
      simpa using hE.symm
    rw [hst]
    refine ⟨rfl, ?_, n4, Nat.zero_le _, w2, w3, fun _ => rfl⟩
    unfold svp21
    simp only [if_true]
    rw [hv, encI_small 1 (by decide)] at n1
    rw [List.append_assoc, ← n1]
    exact w1
/-- A device but for its pages' names. -/
def dv24 (pg : Nat) (pa : Int → Int → Option Sh21) : Fs21 := ⟨pg, 1, 0, true, 0, pa, 0, [], []⟩
theorem pgl24_congr {S S' : Fs21} (hp : S'.pg = S.pg) (x : Int) (n : Nat) (h : ∀ y : Nat, y < n → S'.pa x (y : Int) = S.pa x (y : Int)) : pgl21 S' x n = pgl21 S x n := by
  induction n with
  | zero => rfl
  | succ n ih =>
    rw [pgl21_succ, pgl21_succ, ih (fun y hy => h y (by omega)), hp]
    have : sh21 S' x (n : Int) = sh21 S x (n : Int) := by unfold sh21; rw [h n (by omega)]
    rw [this]
def Gd24 (pg : Nat) (s : Sh21) : Prop := s.b.length ≤ pg ∧ 0 ≤ s.wr ∧ s.wr ≤ 1099511627776 ∧ (s.er = true → s.b = [])
theorem fp24_back {pg : Nat} {x : Int} (n : Nat) {L R : List Int} {b : Bool} {pa pa' : Int → Int → Option Sh21} (hb : Bd24 L) (h : fp24 pg x n ((L, b), pa) = ((R, false), pa')) :
    b = false ∧ L = pgl21 (dv24 pg pa') x n ++ R ∧ Bd24 R ∧ (∀ x' y', ¬ (x' = x ∧ 0 ≤ y' ∧ y' < (n : Int)) → pa' x' y' = pa x' y') ∧ (∀ y', 0 ≤ y' → y' < (n : Int) → ∃ s, pa' x y' = some s ∧ Gd24 pg s) := by
  induction n generalizing R pa' with
  | zero =>
    have h' : ((L, b), pa) = ((R, false), pa') := h
    injection h' with h1 h2
    injection h1 with h3 h4
    subst h3; subst h4; subst h2
    exact ⟨rfl, rfl, hb, fun _ _ _ => rfl, fun y' h0 h1 => by omega⟩
  | succ n ih =>
    obtain ⟨⟨⟨L1, b1⟩, p1⟩, hs⟩ : ∃ s, fp24 pg x n ((L, b), pa) = s := ⟨_, rfl⟩
    have h' : (st24 pg (fp24 pg x n ((L, b), pa)).1, up21 (fp24 pg x n ((L, b), pa)).2 x (n : Int) (stv24 pg (fp24 pg x n ((L, b), pa)).1)) = ((R, false), pa') := h
    rw [hs] at h'
    injection h' with h1 h2
    simp only at h1 h2
    have hbl : b1 = false := by
      cases b1
      · rfl
      · exfalso
        have : (st24 pg (L1, true)).2 = true := by
          unfold st24 se24 sw24
          have hn : ∀ (lo hi : Int) (M : List Int), (nb24 lo hi (M, true)).2 = true := fun lo hi M => by unfold nb24; split <;> rfl
          have ht : ∀ (k : Nat) (r : Rs24), r.2 = true → (tk24 k r).2 = true := fun k r hr => by unfold tk24; split; rfl; exact hr
          have hn' : ∀ (lo hi : Int) (r : Rs24), r.2 = true → (nb24 lo hi r).2 = true := fun lo hi r hr => by unfold nb24; split; exact hr; rfl
          split
          · exact hn' _ _ _ (hn _ _ _)
          · exact ht _ _ (hn' _ _ _ (hn _ _ _))
        rw [h1] at this
        cases this
    subst hbl
    obtain ⟨rfl, i1, i2, i3, i4⟩ := ih hs
    obtain ⟨-, s1, s2, s3⟩ := st24_back i2 h1
    subst h2
    refine ⟨rfl, ?_, s2, fun x' y' hn => ?_, fun y' h0 h1 => ?_⟩
    · rw [pgl21_succ, List.append_assoc]
      have e : sh21 (dv24 pg (up21 p1 x (n : Int) (stv24 pg (L1, false)))) x (n : Int) = stv24 pg (L1, false) := by
        show ((up21 p1 x (n : Int) (stv24 pg (L1, false))) x (n : Int)).getD _ = _
        unfold up21
        rw [if_pos ⟨rfl, rfl⟩]
        rfl
      rw [e]
      show L = pgl21 _ x n ++ (svp21 pg (stv24 pg (L1, false)) ++ R)
      have e2 : pgl21 (dv24 pg (up21 p1 x (n : Int) (stv24 pg (L1, false)))) x n = pgl21 (dv24 pg p1) x n := pgl24_congr (S := dv24 pg p1) (S' := dv24 pg (up21 p1 x (n : Int) (stv24 pg (L1, false)))) rfl x n (fun y hy => by
        show up21 p1 x (n : Int) (stv24 pg (L1, false)) x (y : Int) = p1 x (y : Int)
        unfold up21
        rw [if_neg (by omega)])
      rw [← s1, e2]
      exact i1
    · show up21 p1 x (n : Int) _ x' y' = pa x' y'
      unfold up21
      rw [if_neg (by omega)]
      exact i3 x' y' (by omega)
    · show ∃ s, up21 p1 x (n : Int) _ x y' = some s ∧ _
      unfold up21
      by_cases hc : y' = (n : Int)
      · rw [if_pos ⟨rfl, hc⟩]
        exact ⟨_, rfl, s3⟩
      · rw [if_neg (by omega)]
        exact i4 y' h0 (by omega)
theorem arl24_congr {S S' : Fs21} (hp : S'.pg = S.pg) (hq : S'.ps = S.ps) (n : Nat) (h : ∀ (x y : Int), 0 ≤ x → x < (n : Int) → 0 ≤ y → S'.pa x y = S.pa x y) : arl21 S' n = arl21 S n := by
  induction n with
  | zero => rfl
  | succ n ih =>
    rw [arl21_succ, arl21_succ, ih (fun x y h0 h1 h2 => h x y h0 (by omega) h2), hq, pgl24_congr hp (n : Int) _ (fun y _ => h (n : Int) (y : Int) (by omega) (by omega) (by omega))]
theorem fa24_back {pg ps : Nat} (n : Nat) {L R : List Int} {b : Bool} {pa pa' : Int → Int → Option Sh21} (hb : Bd24 L) (h : fa24 pg ps n ((L, b), pa) = ((R, false), pa')) :
    b = false ∧ L = arl21 ⟨pg, ps, 0, true, 0, pa', 0, [], []⟩ n ++ R ∧ Bd24 R ∧ (∀ x' y', ¬ ((0 ≤ x' ∧ x' < (n : Int)) ∧ 0 ≤ y' ∧ y' < pn21 ps x') → pa' x' y' = pa x' y') ∧ (∀ x' y', 0 ≤ x' → x' < (n : Int) → 0 ≤ y' → y' < pn21 ps x' → ∃ s, pa' x' y' = some s ∧ Gd24 pg s) := by
  induction n generalizing R pa' with
  | zero =>
    have h' : ((L, b), pa) = ((R, false), pa') := h
    injection h' with h1 h2
    injection h1 with h3 h4
    subst h3; subst h4; subst h2
    exact ⟨rfl, rfl, hb, fun _ _ _ => rfl, fun x' y' h0 h1 => by omega⟩
  | succ n ih =>
    obtain ⟨⟨⟨L1, b1⟩, p1⟩, hs⟩ : ∃ s, fa24 pg ps n ((L, b), pa) = s := ⟨_, rfl⟩
    have h' : fp24 pg (n : Int) (pn21 ps (n : Int)).toNat (fa24 pg ps n ((L, b), pa)) = ((R, false), pa') := h
    rw [hs] at h'
    have hbL : Bd24 L1 := by
      have : ∀ (m : Nat) (s : Ps24), Bd24 s.1.1 → Bd24 (fa24 pg ps m s).1.1 := by
        have hnb : ∀ (lo hi : Int) (r : Rs24), Bd24 r.1 → Bd24 (nb24 lo hi r).1 := fun lo hi r hr => by unfold nb24; split; exact hr.drop _; exact hr
        have htk : ∀ (k : Nat) (r : Rs24), Bd24 r.1 → Bd24 (tk24 k r).1 := fun k r hr => by unfold tk24; split; exact hr; exact hr.drop _
        have hst : ∀ (r : Rs24), Bd24 r.1 → Bd24 (st24 pg r).1 := fun r hr => by
          unfold st24 se24 sw24
          split
          · exact hnb _ _ _ (hnb _ _ _ hr)
          · exact htk _ _ (hnb _ _ _ (hnb _ _ _ hr))
        have hfp : ∀ (x : Int) (k : Nat) (s : Ps24), Bd24 s.1.1 → Bd24 (fp24 pg x k s).1.1 := by
          intro x k s hs
          induction k with
          | zero => exact hs
          | succ k ih => exact hst _ ih
        intro m s hs
        induction m with
        | zero => exact hs
        | succ m ih => exact hfp _ _ _ ih
      have h2 := this n ((L, b), pa) hb
      rw [hs] at h2
      exact h2
    obtain ⟨rfl, f1, f2, f3, f4⟩ := fp24_back _ hbL h'
    obtain ⟨rfl, i1, i2, i3, i4⟩ := ih hs
    refine ⟨rfl, ?_, f2, fun x' y' hn => ?_, fun x' y' h0 h1 h2 h3 => ?_⟩
    · rw [arl21_succ, List.append_assoc]
      have e1 : pgl21 (⟨pg, ps, 0, true, 0, pa', 0, [], []⟩ : Fs21) (n : Int) (pn21 ps (n : Int)).toNat = pgl21 (dv24 pg pa') (n : Int) (pn21 ps (n : Int)).toNat := pgl24_congr (S := dv24 pg pa') rfl _ _ (fun _ _ => rfl)
      show L = arl21 _ n ++ (pgl21 (⟨pg, ps, 0, true, 0, pa', 0, [], []⟩ : Fs21) (n : Int) (pn21 ps (n : Int)).toNat ++ R)
      have e2 : arl21 (⟨pg, ps, 0, true, 0, pa', 0, [], []⟩ : Fs21) n = arl21 (⟨pg, ps, 0, true, 0, p1, 0, [], []⟩ : Fs21) n := arl24_congr (S := ⟨pg, ps, 0, true, 0, p1, 0, [], []⟩) (S' := ⟨pg, ps, 0, true, 0, pa', 0, [], []⟩) rfl rfl n (fun x y h0 h1 _ => f3 x y (by omega))
      rw [e1, ← f1, e2]
      exact i1
    · rw [f3 x' y' (by
        rintro ⟨rfl, h0, h1⟩
        exact hn ⟨⟨by omega, by omega⟩, h0, by omega⟩)]
      exact i3 x' y' (fun e => hn ⟨⟨e.1.1, by omega⟩, e.2⟩)
    · by_cases hx : x' = (n : Int)
      · subst hx
        exact f4 y' h2 (by omega)
      · rw [f3 x' y' (fun e => hx e.1)]
        exact i4 x' y' h0 (by omega) h2 h3
/-- Bytes that Load takes are those that Save says of the device that it makes. -/
theorem sav_ld24 {B : List Int} (hb : Bd24 B) (h : ld24 B = true) : sav21 (ls24 (hd24 B)) = B ∧ Ok21 (ls24 (hd24 B)) ∧ (ls24 (hd24 B)).on = true ∧ (ls24 (hd24 B)).lg = [] := by
  unfold ld24 su24 at h
  simp only [Bool.and_eq_true, decide_eq_true_eq] at h
  obtain ⟨⟨h4, hsum⟩, hlo⟩ := h
  obtain ⟨H, hH⟩ : ∃ H, H = hd24 B := ⟨_, rfl⟩
  rw [← hH] at hsum hlo ⊢
  have hbH : Bd24 H := by rw [hH]; exact hb.take _
  have hB : B = H ++ sm21 H := by
    rw [hsum, hH]
    unfold hd24
    simp
  unfold lo24 at hlo
  simp only [Bool.and_eq_true, Bool.not_eq_true', decide_eq_true_eq] at hlo
  obtain ⟨l1, l2⟩ := hlo
  obtain ⟨⟨⟨R, xx⟩, pa'⟩, hlf⟩ : ∃ s, lf24 H = s := ⟨_, rfl⟩
  rw [hlf] at l1 l2
  simp only at l1 l2
  subst l1
  subst l2
  obtain ⟨⟨L4, x4⟩, hd⟩ : ∃ s, bd24 (H, false) = s := ⟨_, rfl⟩
  obtain ⟨⟨L3, x3⟩, hc⟩ : ∃ s, bc24 (H, false) = s := ⟨_, rfl⟩
  obtain ⟨⟨L2, x2⟩, hbb⟩ : ∃ s, bb24 (H, false) = s := ⟨_, rfl⟩
  obtain ⟨⟨L1, x1⟩, ha⟩ : ∃ s, ba24 (H, false) = s := ⟨_, rfl⟩
  obtain ⟨⟨L0, x0⟩, hm⟩ : ∃ s, bm24 (H, false) = s := ⟨_, rfl⟩
  have ea : nb24 64 4096 (L0, x0) = (L1, x1) := by rw [← ha]; unfold ba24; rw [hm]
  have eb : nb24 1 4096 (L1, x1) = (L2, x2) := by rw [← hbb]; unfold bb24; rw [ha]
  have ec : nb24 0 1 (L2, x2) = (L3, x3) := by rw [← hc]; unfold bc24; rw [hbb]
  have ed : nb24 0 1099511627776 (L3, x3) = (L4, x4) := by rw [← hd]; unfold bd24; rw [hc]
  have hnb : ∀ {lo hi : Int} {L R : List Int} {x y : Bool}, Bd24 L → nb24 lo hi (L, x) = (R, y) → Bd24 R := fun hb e => by
    unfold nb24 at e
    split at e
    · injection e with e1 _; subst e1; exact Bd24.drop hb _
    · injection e with e1 _; subst e1; exact hb
  have hb0 : Bd24 L0 := by
    have : L0 = (tk24 5 (H, false)).1 := by
      have e : (bm24 (H, false)).1 = (tk24 5 (H, false)).1 := by unfold bm24; split <;> rfl
      rw [hm] at e
      exact e
    rw [this]
    unfold tk24
    split
    · exact hbH
    · exact hbH.drop _
  have hb1 := hnb hb0 ea
  have hb2 := hnb hb1 eb
  have hb3 := hnb hb2 ec
  have hb4 := hnb hb3 ed
  have hS : bs24 (H, false) = ⟨(nbv24 64 4096 L0).toNat, (nbv24 1 4096 L1).toNat, nbv24 0 1 L2, true, nbv24 0 1099511627776 L3, fun _ _ => none, 0, [], []⟩ := by
    unfold bs24; rw [hm, ha, hbb, hc]
  have hfa : fa24 (nbv24 64 4096 L0).toNat (nbv24 1 4096 L1).toNat 3 ((L4, x4), fun _ _ => none) = (([], false), pa') := by
    rw [← hlf]
    unfold lf24
    rw [hS, hd]
  obtain ⟨rfl, f1, f2, f3, f4⟩ := fa24_back 3 hb4 hfa
  obtain ⟨rfl, d1, d2, d3, -⟩ := nb24_back hb3 ed
  obtain ⟨rfl, c1, c2, c3, -⟩ := nb24_back hb2 ec
  obtain ⟨rfl, b1, b2, b3, -⟩ := nb24_back hb1 eb
  obtain ⟨rfl, a1, a2, a3, -⟩ := nb24_back hb0 ea
  have hmg : H = mg21 ++ L0 := by
    unfold bm24 at hm
    by_cases hg : tkv24 5 H = mg21
    · rw [if_pos (by exact hg)] at hm
      obtain ⟨-, t1, t2, t3⟩ := tk24_back hbH hm
      rw [hg] at t1
      exact t1
    · rw [if_neg (by exact hg)] at hm
      injection hm with _ e
      cases e
  have hls : ls24 H = ⟨(nbv24 64 4096 L0).toNat, (nbv24 1 4096 L1).toNat, nbv24 0 1 L2, true, nbv24 0 1099511627776 L3, pa', 0, [], []⟩ := by
    unfold ls24; rw [hS, hlf]
  have hsv : svb21 (ls24 H) = H := by
    rw [hls]
    unfold svb21 hdb21 nm21
    simp only [encA, Int.toNat_of_nonneg (show 0 ≤ nbv24 64 4096 L0 by omega), Int.toNat_of_nonneg (show 0 ≤ nbv24 1 4096 L1 by omega)]
    have e2 : arl21 (⟨(nbv24 64 4096 L0).toNat, (nbv24 1 4096 L1).toNat, nbv24 0 1 L2, true, nbv24 0 1099511627776 L3, pa', 0, [], []⟩ : Fs21) 3 = L4 := by
      rw [List.append_nil] at f1
      rw [f1]
      exact arl24_congr rfl rfl 3 (fun _ _ _ _ _ => rfl)
    rw [e2]
    simp only [List.append_assoc, List.append_nil, List.nil_append]
    rw [← d1, ← c1, ← b1, ← a1]
    exact hmg.symm
  refine ⟨by unfold sav21; rw [hsv]; exact hB.symm, ?_, by rw [hls], by rw [hls]⟩
  rw [hls]
  refine ⟨by show 64 ≤ (nbv24 64 4096 L0).toNat ∧ (nbv24 64 4096 L0).toNat ≤ 4096; omega, by show 1 ≤ (nbv24 1 4096 L1).toNat ∧ (nbv24 1 4096 L1).toNat ≤ 4096; omega, by show nbv24 0 1 L2 = 0 ∨ nbv24 0 1 L2 = 1; omega, ⟨d2, d3⟩, by show (0 : Int) ≤ 0 ∧ (0 : Int) ≤ _; omega, Nat.zero_le _, fun x y s hs => ?_⟩
  have hs' : pa' x y = some s := hs
  by_cases hv : (0 ≤ x ∧ x < ((3 : Nat) : Int)) ∧ 0 ≤ y ∧ y < pn21 (nbv24 1 4096 L1).toNat x
  · obtain ⟨s', e1, e2⟩ := f4 x y hv.1.1 hv.1.2 hv.2.1 hv.2.2
    rw [e1] at hs'
    injection hs' with e
    subst e
    exact e2
  · rw [f3 x y hv] at hs'
    cases hs'
end Go.Proofs.YtmjlpfmacblcpaaDoor

namespace Go.Proofs.YtmjlpfmacblcpaaDoor
open Go.RowKit Go.Shelf
set_option linter.unusedVariables false
set_option linter.unusedSimpArgs false
def erV21 (S : Fs21) (x y : Int) : Bool := if rf21 S.on S.ps x y ≠ 0 then false else (sh21 S x y).er
set_option maxRecDepth 100000 in
set_option maxHeartbeats 2000000 in
theorem perd21 {w : World} {b : Nat} {F : Nat → Prop} {S : Fs21} (hF : Fl21 w b F S) (hO : Ok21 S) (x y : Int) (hx : In21 x) (hy : In21 y) : Calls Tryd.prog 55 #[.pointer (some ⟨b, 0, none⟩), .int .i64 x, .int .i64 y] w fun e w' => e = .returned (.tuple #[.bool (erV21 S x y), .int .i64 (rf21 S.on S.ps x y)]) ∧ Below w.heap.size w w' := by
  obtain ⟨m, c, f, ta, tc, la, lc, V, hI, hFb, hFm, hFl, hFV, hFs⟩ := hF
  obtain ⟨w1, hw1⟩ : ∃ w1, w1 = w.alloc (.cells #[.int .i64 x, .int .i64 y] 98) := ⟨_, rfl⟩
  have HW : Hid (w.alloc (.cells #[.int .i64 x, .int .i64 y] 98) = w1) := hw1.symm
  have b1 : Below w.heap.size w w1 := by rw [hw1]; exact (Below.refl _ _).alloc (Nat.le_refl _) _
  have q1 : w1.heap[w.heap.size]? = some (.cells #[.int .i64 x, .int .i64 y] 98 (0, 0)) := by rw [hw1]; exact heap_alloc_new _ _
  have HB1 : Hid (Below w.heap.size w w1) := b1
  have HR : Hid (∀ W : World, Below w.heap.size w W → Calls Tryd.prog 92 #[.pointer (some ⟨b, 0, none⟩), .agg #[.int .i64 x, .int .i64 y]] W fun e w' => e = .returned (.int .i64 (rf21 S.on S.ps x y)) ∧ Below W.heap.size W w') := fun W hW => pref21 b S.pg S.ps S.on x y W ((hI.old hW).cel (i := 0) rfl) hO.pg.1 ((hI.old hW).cel (i := 1) rfl) ((hI.old hW).cel (i := 3) rfl)
  have HS : Hid (∀ W : World, Below w.heap.size w W → Calls Tryd.prog 50 #[.pointer (some ⟨b, 0, none⟩), .agg #[.int .i64 x, .int .i64 y]] W fun e w' => e = .returned (shv21 (f x y) x) ∧ Below W.heap.size W w') := fun W hW => psht21 b m c f x y hx hy W ((hI.old hW).cel (i := 5) rfl) (hI.old hW).hm (hI.sv x y)
  obtain ⟨wa, wcap, hsv, hsl⟩ := hI.shv x y
  rw [hsv] at HS
  have HE : Hid (erV21 S x y = if rf21 S.on S.ps x y ≠ 0 then false else (sh21 S x y).er) := rfl
  rw [HE.out]
  generalize rf21 S.on S.ps x y = rf at *
  obtain ⟨WR, hWR⟩ : ∃ WR, WR = (sh21 S x y).wr := ⟨_, rfl⟩
  obtain ⟨WL, hWL⟩ : ∃ WL, WL = (sh21 S x y).b.length := ⟨_, rfl⟩
  obtain ⟨WE, hWE⟩ : ∃ WE, WE = (sh21 S x y).er := ⟨_, rfl⟩
  have hfd : ∀ W : World, (Instr.field 89 (.agg #[.slice wa WL wcap, .bool WE, .int .i64 WR]) 1).run Tryd.prog W = .ok (.bool WE) W := fun W => by kernel_rfl
  rw [← hWR, ← hWL, ← hWE] at HS
  rw [← hWE]
  clear hWR hWL hWE hsv hsl hI hFb hFm hFl hFV hFs hw1 b1 HE
  by_cases hrf : rf = 0
  · subst hrf
    rw [if_neg (show ¬ ((0 : Int) ≠ 0) by simp)]
    go_enter Tryd.func55, Tryd.ntmps55
    go_wp2_with fail
    rw [HW.out]
    refine (HR.out _ HB1.out).mono ?_
    rintro e w2 ⟨rfl, b2⟩
    have b2' : Below w.heap.size w w2 := HB1.out.trans (b2.mono HB1.out.size)
    have q2 := (b2.block _ (Array.getElem?_eq_some_iff.1 q1).1).trans q1
    have q20 := two_cell0 q2
    have q21 := two_cell1 q2
    go_wp2_with fail
    refine (HS.out _ b2').mono ?_
    rintro e w3 ⟨rfl, b3⟩
    go_wp2_with fail
    go_ret2
    exact ⟨rfl, b2'.trans (b3.mono b2'.size)⟩
  · rw [if_pos (show rf ≠ 0 from hrf)]
    have hrf' : (rf == 0) = false := by simp [hrf]
    go_enter Tryd.func55, Tryd.ntmps55
    go_wp2_with fail
    rw [HW.out]
    refine (HR.out _ HB1.out).mono ?_
    rintro e w2 ⟨rfl, b2⟩
    go_wp2_with fail
    go_ret2
    exact ⟨rfl, HB1.out.trans (b2.mono HB1.out.size)⟩
section
variable {w : World} {b : Nat} {G : Nat → Prop} {S : Fs21}
theorem Rl21d.pgl (h : Rl21d w b G S) (hO : Ok21 S) {x y : Int} (hm : ms21 S.ps x y = 0) : ∃ (X Y gx n cx : Nat) (k off c : Nat), x = (X : Int) ∧ y = (Y : Int) ∧ X < 3 ∧ Y < n ∧ n ≤ 4096 + S.ps ∧ w.cell? ⟨b, 3 + X, none⟩ = some (.slice (some ⟨gx, 0, none⟩) n cx) ∧
    w.cell? ⟨gx, Y * 3, none⟩ = some (.slice (some ⟨k, off, none⟩) S.pg c) ∧ w.cell? ⟨gx, Y * 3 + 1, none⟩ = some (.bool (sh21 S x y).er) ∧ w.cell? ⟨gx, Y * 3 + 2, none⟩ = some (.int .i64 (sh21 S x y).wr) := by
  obtain ⟨g, c, A, tn, ta, tc, la, lc, V, h1, -⟩ := h
  obtain ⟨X, Y, d, rfl, rfl, hX, hY, hd⟩ := h1.at hm
  obtain ⟨p0, p1, p2⟩ := h1.pgc hX hd
  obtain ⟨-, -, q3, q4, q5, -⟩ := h1.hd X Y d hX hd
  have hn := (h1.hn X hX).1
  have hb := pn21_bd S.ps (X : Int) hO.ps.2
  have hl := fb21_len hO (X : Int) (Y : Int)
  rw [← q3] at hl
  rw [hl] at p0
  rw [q4] at p1
  rw [q5] at p2
  exact ⟨X, Y, g X, (A X).length, c X, d.k, d.off, d.c, rfl, rfl, hX, hY, by omega, h1.car hX, p0, p1, p2⟩
set_option maxRecDepth 100000 in
set_option maxHeartbeats 2000000 in
theorem rerd21 (h : Rl21d w b G S) (hO : Ok21 S) (x y : Int) (hx : In21 x) (hy : In21 y) : Calls Tryd.prog 56 #[.pointer (some ⟨b, 0, none⟩), .int .i64 x, .int .i64 y] w fun e w' => e = .returned (.tuple #[.bool (erV21 S x y), .int .i64 (rf21 S.on S.ps x y)]) ∧ w' = w := by
  have c7 : w.cell? ⟨b, 7, none⟩ = some (.bool (!S.on)) := by
    obtain ⟨g, c, A, tn, ta, tc, la, lc, V, h1, -⟩ := h
    exact h1.cel (i := 7) rfl
  have HI := ris21 h x y hx hy
  have HP : ms21 S.ps x y = 0 → _ := fun e => h.pgl hO e
  unfold erV21 rf21
  clear h
  cases hon : S.on
  · rw [hon] at c7
    simp only [Bool.false_eq_true, if_false]
    rw [if_pos (show (213 : Int) ≠ 0 by decide)]
    go_enter Tryd.func56, Tryd.ntmps56
    go_wp2_with fail
    go_ret2
    exact ⟨rfl, rfl⟩
  · rw [hon] at c7
    simp only [if_true]
    by_cases hm : ms21 S.ps x y = 0
    · obtain ⟨X, Y, gx, n, cx, k, off, c, rfl, rfl, hX, hY, hn, a0, a1, a2, a3⟩ := HP hm
      rw [hm] at HI ⊢
      rw [if_neg (show ¬ ((0 : Int) ≠ 0) by decide)]
      have i1 : (Y : Int) < (n : Int) := by omega
      have i2 : (X : Int) < 3 := by omega
      generalize (sh21 S (X : Int) (Y : Int)).er = er at *
      generalize (sh21 S (X : Int) (Y : Int)).wr = wr at *
      clear HP hm hx hy
      go_enter Tryd.func56, Tryd.ntmps56
      go_wp2_with fail
      refine HI.mono ?_
      rintro e w1 ⟨rfl, hw⟩
      subst w1
      go_wp2_with fail
      go_ret2
      exact ⟨rfl, rfl⟩
    · have h211 : ms21 S.ps x y = 211 := by unfold ms21 at hm ⊢; split <;> simp_all
      rw [if_pos hm, h211]
      rw [decide_eq_false hm] at HI
      clear HP hm h211
      go_enter Tryd.func56, Tryd.ntmps56
      go_wp2_with fail
      refine HI.mono ?_
      rintro e w1 ⟨rfl, hw⟩
      subst w1
      go_wp2_with fail
      go_ret2
      exact ⟨rfl, rfl⟩
set_option maxRecDepth 100000 in
set_option maxHeartbeats 2000000 in
theorem rwea21 (h : Rl21d w b G S) (hO : Ok21 S) (x y : Int) (hx : In21 x) (hy : In21 y) : Calls Tryd.prog 63 #[.pointer (some ⟨b, 0, none⟩), .int .i64 x, .int .i64 y] w fun e w' => e = .returned (.tuple #[.int .i64 (weV21 S x y), .int .i64 (ms21 S.ps x y)]) ∧ w' = w := by
  have HI := ris21 h x y hx hy
  have HP : ms21 S.ps x y = 0 → _ := fun e => h.pgl hO e
  unfold weV21
  clear h
  by_cases hm : ms21 S.ps x y = 0
  · obtain ⟨X, Y, gx, n, cx, k, off, c, rfl, rfl, hX, hY, hn, a0, a1, a2, a3⟩ := HP hm
    rw [hm] at HI ⊢
    rw [if_neg (show ¬ ((0 : Int) ≠ 0) by decide)]
    have i1 : (Y : Int) < (n : Int) := by omega
    have i2 : (X : Int) < 3 := by omega
    generalize (sh21 S (X : Int) (Y : Int)).er = er at *
    generalize (sh21 S (X : Int) (Y : Int)).wr = wr at *
    clear HP hm hx hy
    go_enter Tryd.func63, Tryd.ntmps63
    go_wp2_with fail
    refine HI.mono ?_
    rintro e w1 ⟨rfl, hw⟩
    subst w1
    go_wp2_with fail
    go_ret2
    exact ⟨rfl, rfl⟩
  · have h211 : ms21 S.ps x y = 211 := by unfold ms21 at hm ⊢; split <;> simp_all
    rw [if_pos hm, h211]
    rw [decide_eq_false hm] at HI
    clear HP hm h211
    go_enter Tryd.func63, Tryd.ntmps63
    go_wp2_with fail
    refine HI.mono ?_
    rintro e w1 ⟨rfl, hw⟩
    subst w1
    go_wp2_with fail
    go_ret2
    exact ⟨rfl, rfl⟩
set_option maxRecDepth 100000 in
/-- One cell of the document's device is set anew: 7 (Off) or 8 (Most). -/
theorem rlim21 (h : Rl21d w b G S) (n : Int) : Calls Tryd.prog 61 #[.pointer (some ⟨b, 0, none⟩), .int .i64 n] w fun e w' => e = .returned (.int .i64 (liE21 n)) ∧ Rn21 w w' b G (liS21 S n) := by
  have HL : Hid (Rl21d w b G S) := h
  obtain ⟨g, c, A, tn, ta, tc, la, lc, V, h1, h2, h3, h4, h5, h6⟩ := h
  have y2 := h1.fr 10
  have HR : Hid (Rf21 w b g c A tn ta tc la lc V S ∧ G b ∧ (∀ x, x < 3 → G (g x)) ∧ (∀ k, (Value.slice la S.lg.length lc).ownBlock = some k → G k) ∧ (∀ k, V k → G k) ∧ (∀ k, G k → k < w.heap.size)) := ⟨h1, h2, h3, h4, h5, h6⟩
  have c10 := h1.cel (i := 10) rfl
  clear h1 h2 h3 h4 h5 h6
  unfold liE21 liS21
  by_cases h1 : n < 0
  · rw [if_pos (.inl h1), if_pos (.inl h1)]
    go_enter Tryd.func61, Tryd.ntmps61
    go_wp2_with fail
    go_ret
    exact ⟨rfl, HL.out.stay (Below.refl _ _)⟩
  · by_cases h2 : 1099511627776 < n
    · rw [if_pos (.inr h2), if_pos (.inr h2)]
      go_enter Tryd.func61, Tryd.ntmps61
      go_wp2_with fail
      go_ret
      exact ⟨rfl, HL.out.stay (Below.refl _ _)⟩
    · rw [if_neg (by omega), if_neg (by omega)]
      go_enter Tryd.func61, Tryd.ntmps61
      go_wp2_with fail
      go_ret
      obtain ⟨h1, h2, h3, h4, h5, h6⟩ := HR.out
      have hk : Kp (fun k => k = b) w (w.setCell ⟨b, 10, none⟩ (.int .i64 n)) := Kp.set (S := fun k => k = b) rfl _
      exact ⟨rfl, G, ⟨g, c, A, tn, ta, tc, la, lc, V, h1.re (S' := { S with lm := n }) hk rfl rfl rfl rfl ⟨h1.ht.1, h1.ht.2⟩ (by simp [World.setCell, Array.getElem?_modify, h1.hp]), h2, h3, h4, h5, fun k e => Nat.lt_of_lt_of_le (h6 k e) hk.size⟩, fun _ e => .inl e, hk.mono (fun i _ e => e ▸ h2)⟩
/-- The power comes back. -/
theorem Rl21d.power (h : Rl21d w b G S) : Rn21 w (w.setCell ⟨b, 7, none⟩ (.bool false)) b G { S with on := true } := by
  obtain ⟨g, c, A, tn, ta, tc, la, lc, V, h1, h2, h3, h4, h5, h6⟩ := h
  have hk : Kp (fun k => k = b) w (w.setCell ⟨b, 7, none⟩ (.bool false)) := Kp.set (S := fun k => k = b) rfl _
  exact ⟨G, ⟨g, c, A, tn, ta, tc, la, lc, V, h1.re (S' := { S with on := true }) hk rfl rfl rfl rfl ⟨h1.ht.1, h1.ht.2⟩ (by simp [World.setCell, Array.getElem?_modify, h1.hp]), h2, h3, h4, h5, fun k e => Nat.lt_of_lt_of_le (h6 k e) hk.size⟩, fun _ e => .inl e, hk.mono (fun i _ e => e ▸ h2)⟩
end
end Go.Proofs.YtmjlpfmacblcpaaDoor

namespace Go.Proofs.YtmjlpfmacblcpaaDoor
open Go.RowKit Go.Shelf
set_option linter.unusedVariables false
set_option linter.unusedSimpArgs false
theorem pgl_split24 (S : Fs21) (x : Int) (n i : Nat) (hi : i < n) : ∃ rest, pgl21 S x n = pgl21 S x i ++ (svp21 S.pg (sh21 S x (i : Int)) ++ rest) := by
  induction n with
  | zero => omega
  | succ n ih =>
    rw [pgl21_succ]
    by_cases h : i = n
    · subst h
      exact ⟨[], by simp⟩
    · obtain ⟨r, hr⟩ := ih (by omega)
      exact ⟨r ++ svp21 S.pg (sh21 S x (n : Int)), by rw [hr]; simp⟩
theorem arl_split24 (S : Fs21) (n a : Nat) (ha : a < n) : ∃ rest, arl21 S n = arl21 S a ++ (pgl21 S (a : Int) (pn21 S.ps (a : Int)).toNat ++ rest) := by
  induction n with
  | zero => omega
  | succ n ih =>
    rw [arl21_succ]
    by_cases h : a = n
    · subst h
      exact ⟨[], by simp⟩
    · obtain ⟨r, hr⟩ := ih (by omega)
      exact ⟨r ++ pgl21 S (n : Int) (pn21 S.ps (n : Int)).toNat, by rw [hr]; simp⟩
/-- What is saved, from page (a, i) on. -/
theorem sav_at24 (S : Fs21) (a i : Nat) (ha : a < 3) (hi : (i : Int) < pn21 S.ps (a : Int)) : ∃ rest, sav21 S = (hdb21 S ++ (arl21 S a ++ pgl21 S (a : Int) i)) ++ (svp21 S.pg (sh21 S (a : Int) (i : Int)) ++ rest) := by
  obtain ⟨r1, h1⟩ := arl_split24 S 3 a ha
  obtain ⟨r2, h2⟩ := pgl_split24 S (a : Int) (pn21 S.ps (a : Int)).toNat i (by omega)
  refine ⟨r2 ++ (r1 ++ sm21 (svb21 S)), ?_⟩
  unfold sav21
  have : svb21 S = hdb21 S ++ arl21 S 3 := rfl
  rw [show svb21 S ++ sm21 (svb21 S) = (hdb21 S ++ arl21 S 3) ++ sm21 (svb21 S) from rfl, h1, h2]
  simp only [List.append_assoc]
theorem slice_lohi24 (x : Addr) (n k m h : Nat) (hnk : n ≤ k) (hm : m ≤ h) (hh : h ≤ n) (hmk : m < k) (W : World) : (Instr.slice 22 (.slice (some x) n k) (some (.int .i64 (m : Int))) (some (.int .i64 (h : Int))) none).run Tryd.prog W = .ok (.slice (some (x.add m)) (h - m) (k - m)) W := by
  have h1 : (m : Int) ≤ (h : Int) := by omega
  have h2 : (h : Int) ≤ (k : Int) := by omega
  have h0 : (0 : Int) ≤ (m : Int) := by omega
  have h3 : (0 : Int) ≤ (h : Int) := by omega
  have h4 : (m : Int) ≤ (k : Int) := by omega
  have hkm' : ¬ ((k : Int) = (m : Int)) := by omega
  have hkm : ¬ (k = m) := by omega
  go_simp
section
variable {w w' : World} {b : Nat} {g c : Nat → Nat} {A : Nat → List Pd21} {tn : List Int} {ta : Option Addr} {tc : Nat} {la : Option Addr} {lc : Nat} {V : Nat → Prop} {S S' : Fs21} {G : Nat → Prop}
/-- The document's device tells of a state just what shows of it. -/
theorem Rf21.congr24 (h : Rf21 w b g c A tn ta tc la lc V S) (h1 : S'.pg = S.pg) (h2 : S'.ps = S.ps) (h3 : S'.ac = S.ac) (h4 : S'.on = S.on) (h5 : S'.lf = S.lf) (h6 : S'.tn = S.tn) (h7 : S'.lm = S.lm) (h8 : S'.lg = S.lg)
    (hs : ∀ x y : Int, 0 ≤ y → y < pn21 S.ps x → ((sh21 S' x y).er = (sh21 S x y).er ∧ (sh21 S' x y).wr = (sh21 S x y).wr ∧ fb21 S' x y = fb21 S x y)) : Rf21 w b g c A tn ta tc la lc V S' := by
  refine ⟨by rw [h1, h2, h3, h4, h5, h7, h8]; exact h.hp, h.ha, by rw [h2]; exact h.hn, fun x y d hx hy => ?_, ⟨by rw [h5, h6]; exact h.ht.1, h.ht.2⟩, by rw [h8]; exact h.hl, h.gi, h.vb, h.vg, by rw [h8]; exact h.vl, h.vs⟩
  obtain ⟨q1, q2, q3, q4, q5, q6⟩ := h.hd x y d hx hy
  have hlt : y < (A x).length := by
    rcases Nat.lt_or_ge y (A x).length with q | q
    · exact q
    · rw [List.getElem?_eq_none q] at hy; cases hy
  have hn := (h.hn x hx).1
  obtain ⟨e1, e2, e3⟩ := hs (x : Int) (y : Int) (by omega) (by omega)
  exact ⟨q1, q2, by rw [e3]; exact q3, by rw [e1]; exact q4, by rw [e2]; exact q5, q6⟩
theorem Rl21d.congr24 (h : Rl21d w b G S) (h1 : S'.pg = S.pg) (h2 : S'.ps = S.ps) (h3 : S'.ac = S.ac) (h4 : S'.on = S.on) (h5 : S'.lf = S.lf) (h6 : S'.tn = S.tn) (h7 : S'.lm = S.lm) (h8 : S'.lg = S.lg)
    (hs : ∀ x y : Int, 0 ≤ y → y < pn21 S.ps x → ((sh21 S' x y).er = (sh21 S x y).er ∧ (sh21 S' x y).wr = (sh21 S x y).wr ∧ fb21 S' x y = fb21 S x y)) : Rl21d w b G S' := by
  obtain ⟨g, c, A, tn, ta, tc, la, lc, V, p1, p2, p3, p4, p5, p6⟩ := h
  exact ⟨g, c, A, tn, ta, tc, la, lc, V, p1.congr24 h1 h2 h3 h4 h5 h6 h7 h8 hs, p2, p3, by rw [h8]; exact p4, p5, p6⟩
/-- The limit is set. -/
theorem Rl21d.lm24 (h : Rl21d w b G S) (n : Int) : Rl21d (w.setCell ⟨b, 10, none⟩ (.int .i64 n)) b G { S with lm := n } ∧ Kp G w (w.setCell ⟨b, 10, none⟩ (.int .i64 n)) ∧ w.frozen? ⟨b, 10, none⟩ = false ∧ w.cell? ⟨b, 10, none⟩ = some (.int .i64 S.lm) := by
  obtain ⟨g, c, A, tn, ta, tc, la, lc, V, h1, h2, h3, h4, h5, h6⟩ := h
  have hk : Kp (fun k => k = b) w (w.setCell ⟨b, 10, none⟩ (.int .i64 n)) := Kp.set (S := fun k => k = b) rfl _
  exact ⟨⟨g, c, A, tn, ta, tc, la, lc, V, h1.re (S' := { S with lm := n }) hk rfl rfl rfl rfl ⟨h1.ht.1, h1.ht.2⟩ (by simp [World.setCell, Array.getElem?_modify, h1.hp]), h2, h3, h4, h5, fun k e => Nat.lt_of_lt_of_le (h6 k e) hk.size⟩, hk.mono (fun i _ e => by subst e; exact h2), h1.fr 10, h1.cel (i := 10) rfl⟩
/-- A page is laid whole: three cells of its area's row. -/
theorem Rl21d.lay24 (h : Rl21d w b G S) (x y : Nat) (hx : x < 3) (hy : (y : Int) < pn21 S.ps (x : Int)) :
    ∃ q len cap, w.cell? ⟨b, 3 + x, none⟩ = some (.slice (some ⟨q, 0, none⟩) len cap) ∧ (len : Int) = pn21 S.ps (x : Int) ∧ y < len ∧ len ≤ cap ∧ G q ∧ q < w.heap.size ∧ (∀ j, w.frozen? ⟨q, j, none⟩ = false) ∧ (∀ j, j < 3 → ∃ v, w.cell? ⟨q, y * 3 + j, none⟩ = some v) ∧
      ∀ (k0 cc : Nat) (zs : List Int) (s : Sh21), Seg w (some ⟨k0, 0, none⟩) zs → zs = s.b ++ List.replicate (S.pg - s.b.length) 255 → zs.length ≤ cc → ¬ G k0 → k0 < w.heap.size →
        Rl21d (((w.setCell ⟨q, y * 3, none⟩ (.slice (some ⟨k0, 0, none⟩) zs.length cc)).setCell ⟨q, y * 3 + 1, none⟩ (.bool s.er)).setCell ⟨q, y * 3 + 2, none⟩ (.int .i64 s.wr)) b (fun k => G k ∨ k = k0) { S with pa := up21 S.pa (x : Int) (y : Int) s } ∧
        Kp (fun k => k = q) w (((w.setCell ⟨q, y * 3, none⟩ (.slice (some ⟨k0, 0, none⟩) zs.length cc)).setCell ⟨q, y * 3 + 1, none⟩ (.bool s.er)).setCell ⟨q, y * 3 + 2, none⟩ (.int .i64 s.wr)) := by
  obtain ⟨g, c, A, tn, ta, tc, la, lc, V, h1, h2, h3, h4, h5, h6⟩ := h
  have hn := h1.hn x hx
  have hlt : y < (A x).length := by have := hn.1; omega
  obtain ⟨d, hd⟩ : ∃ d, (A x)[y]? = some d := ⟨_, List.getElem?_eq_getElem hlt⟩
  obtain ⟨p0, p1, p2⟩ := h1.pgc hx hd
  refine ⟨g x, (A x).length, c x, h1.car hx, hn.1, hlt, hn.2, h3 x hx, h1.gl hx, fun j => h1.frg hx j, fun j hj => ?_, fun k0 cc zs s hz hzs hc hG hk0 => ?_⟩
  · rcases (show j = 0 ∨ j = 1 ∨ j = 2 by omega) with rfl | rfl | rfl
    · exact ⟨_, p0⟩
    · exact ⟨_, p1⟩
    · exact ⟨_, p2⟩
  · obtain ⟨X, hX⟩ := h1.ha x hx
    have hq := pgrow21 (d' := ⟨k0, 0, cc, zs, s.er, s.wr⟩) hX hd
    simp only at hq
    have hk : Kp (fun k => k = g x) w (((w.setCell ⟨g x, y * 3, none⟩ (.slice (some ⟨k0, 0, none⟩) zs.length cc)).setCell ⟨g x, y * 3 + 1, none⟩ (.bool s.er)).setCell ⟨g x, y * 3 + 2, none⟩ (.int .i64 s.wr)) :=
      ((Kp.set (S := fun k => k = g x) rfl _).trans (Kp.set (S := fun k => k = g x) rfl _) (fun _ _ e => e)).trans (Kp.set (S := fun k => k = g x) rfl _) (fun _ _ e => e)
    have hw : Rf21 w b g c A tn ta tc la lc (fun k => V k ∨ k = k0) S := h1.wid (fun k e => .inl e) (by rintro (e | e); (exact h1.vb e); (exact hG (e ▸ h2))) (fun z hz' => by rintro (e | e); (exact h1.vg z hz' e); (exact hG (e ▸ h3 z hz'))) (fun k e => by rintro (q | q); (exact h1.vl k e q); (exact hG (q ▸ h4 k e))) (fun k e => by rcases e with e | e; (exact h1.vs k e); omega)
    have hseg := hz.of_cells (w' := ((w.setCell ⟨g x, y * 3, none⟩ (.slice (some ⟨k0, 0, none⟩) zs.length cc)).setCell ⟨g x, y * 3 + 1, none⟩ (.bool s.er)).setCell ⟨g x, y * 3 + 2, none⟩ (.int .i64 s.wr)) (fun b' off i v hi ha hcl => by
      cases ha
      rw [World.cell?_of_block (a := ⟨k0, 0 + i, none⟩) (hk.block k0 hk0 (fun e => hG (by have e' : k0 = g x := e; rw [e']; exact h3 x hx)))]
      exact hcl)
    have := hw.page hx hlt ⟨k0, 0, cc, zs, s.er, s.wr⟩ s hk ⟨X, hq⟩ hseg (.inr rfl) hzs rfl rfl hc
    exact ⟨⟨g, c, ad21 A x y ⟨k0, 0, cc, zs, s.er, s.wr⟩, tn, ta, tc, la, lc, _, this, .inl h2, fun z hz' => .inl (h3 z hz'), fun k e => .inl (h4 k e), fun k e => by rcases e with e | e; (exact .inl (h5 k e)); (exact .inr e), fun k e => by rcases e with e | e; (exact Nat.lt_of_lt_of_le (h6 k e) hk.size); (have := hk.size; omega)⟩, hk⟩
end
end Go.Proofs.YtmjlpfmacblcpaaDoor

namespace Go.Proofs.YtmjlpfmacblcpaaDoor
open Go.RowKit Go.Shelf
set_option linter.unusedVariables false
set_option linter.unusedSimpArgs false
theorem ops22d {w : World} {N n rc : Nat} {ra : Option Addr} {L : List (Int × Int × Int)} (h : w.ownsRow N 177 3 (.slice ra n rc) n (lgc21 L)) (hn : L.length = n) {i : Nat} (hi : i < n) :
    ∃ (g : Nat) (o : Int × Int × Int), L[i]? = some o ∧ ra = some ⟨g, 0, none⟩ ∧ g < w.heap.size ∧ w.cell? ⟨g, i * 3, none⟩ = some (.int .i64 o.1) ∧ w.cell? ⟨g, i * 3 + 1, none⟩ = some (.int .i64 o.2.1) ∧ w.cell? ⟨g, i * 3 + 2, none⟩ = some (.int .i64 o.2.2) := by
  obtain ⟨o, ho⟩ : ∃ o, L[i]? = some o := ⟨_, List.getElem?_eq_getElem (by omega)⟩
  rcases h.2 with ⟨h1, h2⟩ | ⟨g, cp, cu, h1, h2, h3, h4⟩
  · omega
  · simp only [Value.slice.injEq] at h1
    obtain ⟨rfl, -, rfl⟩ := h1
    obtain ⟨e1, e2, e3⟩ := lgc21_get L i o ho
    have hadd : ∀ j, (⟨g, 0, none⟩ : Addr).add j = ⟨g, j, none⟩ := fun j => by unfold Addr.add; split <;> simp_all
    have c1 := h.cells (g := g) rfl _ _ e1
    have c2 := h.cells (g := g) rfl _ _ e2
    have c3 := h.cells (g := g) rfl _ _ e3
    rw [hadd] at c1 c2 c3
    exact ⟨g, o, ho, rfl, (Array.getElem?_eq_some_iff.1 h3).1, c1, c2, c3⟩
end Go.Proofs.YtmjlpfmacblcpaaDoor
