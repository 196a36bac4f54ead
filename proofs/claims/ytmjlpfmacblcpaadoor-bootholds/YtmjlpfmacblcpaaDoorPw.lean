import Derived.Test.YtmjlpfmacblcpaaDoorPu
import Derived.Test.YtmjlpfmacblcpaaDoorPv
import Derived.Test.YtmjlpfmacblcpaaDoorPf
import Derived.Test.YtmjlpfmacblcpaaDoorPb
import Derived.Test.YtmjlpfmacblcpaaDoorPd
import Derived.Deep.MidRow
import Derived.Test.YtmjlpfmacblcpaaDoorPg
import Derived.Test.YtmjlpfmacblcpaaDoorPs
import Derived.WalkKit
import Derived.ProofKit
import Derived.OpenShut
import Derived.Lib.SmallJoins
namespace Go.Proofs.YtmjlpfmacblcpaaDoor
open Go.RowKit Go.Shelf
set_option linter.unusedVariables false
set_option linter.unusedSimpArgs false
theorem sh_go25 (S : Fs21) (kd x y : Int) (nn : Sh21) (a b : Int) : sh21 (go21 S kd x y nn) a b = if a = x ∧ b = y then nn else sh21 S a b := by
  show (up21 S.pa x y nn a b).getD _ = _
  unfold up21
  split
  · rfl
  · rfl
theorem sh_cu25 (S : Fs21) (kd x y : Int) (nn : Sh21) (a b : Int) : sh21 (cu21 S kd x y nn) a b = if a = x ∧ b = y then ⟨la21 S.pg S.tn (sh21 S x y).b, false, nn.wr⟩ else sh21 S a b := by
  show (up21 S.pa x y _ a b).getD _ = _
  unfold up21
  split
  · rfl
  · rfl
theorem pb_congr25 {S S' : Fs21} {k : Nat} (h : sh21 S' 2 (k : Int) = sh21 S 2 (k : Int)) : pb25 S' k = pb25 S k := by unfold pb25; rw [h]
theorem pb_list25 {S : Fs21} {k : Nat} {L : List Int} (h : (sh21 S 2 (k : Int)).b = L) (hl : L.length ≤ 64) : pb25 S k = L ++ List.replicate (64 - L.length) 255 := by
  unfold pb25
  rw [h]
  have := pad21 L 0 64
  simp only [Nat.zero_add, List.drop_zero] at this
  rw [this, List.take_of_length_le hl]
structure Hi25 (S : Fs21) (last : Rc25) (wrote : Bool) (c tp : Nat) : Prop where
  ok : Ok21 S
  on : S.on = true
  lf : S.lf = 0
  lm : S.lm = 0
  pg : S.pg = 64
  ps : S.ps = 1
  lg : S.lg.length ≤ 2 * c
  t1 : tp ≤ 1
  w0 : 2 * (sh21 S 2 (tp : Int)).wr ≤ (c : Int)
  w1 : 2 * (sh21 S 2 ((1 - tp : Nat) : Int)).wr ≤ (c : Int) + 1
  q : last.q = (c : Int)
  no : wrote = false → last = zr25 ∧ tp = 0 ∧ (dc25 S 0).1 = zr25 ∧ (dc25 S 1).1 = zr25
  ye : wrote = true → last.may ∧ dc25 S (1 - tp) = (last, 0) ∧ (dc25 S tp).1.q < last.q
theorem zr_q25 {r : Rc25} (h : r = zr25) : r.q = 0 := by rw [h]; rfl
theorem not_zr25 {r : Rc25} (h : r.may) : r ≠ zr25 := fun e => zr_not_may25 (e ▸ h)
theorem nr_hi25 {x y : Rc25} (h : x.q < y.q) (hy : y ≠ zr25) : nr25 x y = (y, 1, 0) := by unfold nr25; rw [if_pos h, if_neg hy]
theorem nr_lo25 {x y : Rc25} (h : ¬ x.q < y.q) (hx : x ≠ zr25) : nr25 x y = (x, 0, 0) := by unfold nr25; rw [if_neg h, if_neg hx]
theorem nr_no25 {x y : Rc25} (hx : x = zr25) (hy : y = zr25) : nr25 x y = (zr25, 0, 251) := by subst hx hy; rfl
section
variable {S : Fs21} {last : Rc25} {wrote : Bool} {c tp : Nat}
theorem rd_of25 (hon : S.on = true) : rd25 S = nr25 (dc25 S 0).1 (dc25 S 1).1 := if_neg (by rw [hon]; decide)
theorem rd_ye25 (hon : S.on = true) (h1 : tp ≤ 1) (hm : last.may) (hd : dc25 S (1 - tp) = (last, 0)) (ho : (dc25 S tp).1.q < last.q) : rd25 S = (last, 1 - tp, 0) ∧ tp25 S = tp := by
  have hr : rd25 S = (last, 1 - tp, 0) := by
    rw [rd_of25 hon]
    rcases (show tp = 0 ∨ tp = 1 by omega) with rfl | rfl
    · have e1 : (dc25 S 1).1 = last := by rw [show dc25 S 1 = (last, 0) from hd]
      rw [e1]
      exact nr_hi25 ho (not_zr25 hm)
    · have e1 : (dc25 S 0).1 = last := by rw [show dc25 S 0 = (last, 0) from hd]
      rw [e1]
      exact nr_lo25 (by omega) (not_zr25 hm)
  refine ⟨hr, ?_⟩
  unfold tp25
  rw [hr]
  simp only [if_true]
  omega
theorem rd_no25 (hon : S.on = true) (h0 : (dc25 S 0).1 = zr25) (h1 : (dc25 S 1).1 = zr25) : rd25 S = (zr25, 0, 251) ∧ tp25 S = 0 := by
  have hr : rd25 S = (zr25, 0, 251) := by rw [rd_of25 hon]; exact nr_no25 h0 h1
  refine ⟨hr, ?_⟩
  unfold tp25
  rw [hr]
  rfl
/-- What Read says, and the page of the next Write. -/
theorem Hi25.rd (h : Hi25 S last wrote c tp) : ((wrote = true ∧ rd25 S = (last, 1 - tp, 0)) ∨ (wrote = false ∧ rd25 S = (zr25, 0, 251))) ∧ tp25 S = tp ∧ (rd25 S).1.q = (c : Int) ∧ ((rd25 S).2.2 = 0 ∨ (rd25 S).2.2 = 251) := by
  cases hw : wrote
  · obtain ⟨e1, e2, e3, e4⟩ := h.no hw
    obtain ⟨r1, r2⟩ := rd_no25 h.on e3 e4
    have hq := h.q
    rw [e1] at hq
    exact ⟨.inr ⟨rfl, r1⟩, by rw [r2, e2], by rw [r1]; exact hq, by rw [r1]; exact .inr rfl⟩
  · obtain ⟨e1, e2, e3⟩ := h.ye hw
    obtain ⟨r1, r2⟩ := rd_ye25 h.on h.t1 e1 e2 e3
    exact ⟨.inl ⟨rfl, r1⟩, r2, by rw [r1]; exact h.q, by rw [r1]; exact .inl rfl⟩
theorem wr_no25 {r : Rc25} (h : Hi25 S last wrote c tp) (hm : ¬ (⟨(c : Int) + 1, r.g, r.n, r.t⟩ : Rc25).may) : wr25 S r = (zr25, 250, S) := by
  obtain ⟨-, -, h3, h4⟩ := h.rd
  unfold wr25
  rw [if_neg (by omega)]
  simp only [h3]
  rw [if_pos hm]
theorem ms_tp25 (h1 : tp ≤ 1) (on : Bool) (hon : on = true) : rf21 on 1 2 (tp : Int) = 0 := by
  subst hon
  rcases (show tp = 0 ∨ tp = 1 by omega) with rfl | rfl <;> decide
/-- Write behind the newest record, where the record may be. -/
theorem wr_ok25 {r : Rc25} (h : Hi25 S last wrote c tp) (hw : r.wd) (hc : c ≤ 2000000000000) (hm : (⟨(c : Int) + 1, r.g, r.n, r.t⟩ : Rc25).may) :
    ∃ S2, wr25 S r = (⟨(c : Int) + 1, r.g, r.n, r.t⟩, 0, S2) ∧ Hi25 S2 ⟨(c : Int) + 1, r.g, r.n, r.t⟩ true (c + 1) (1 - tp) := by
  obtain ⟨hrd, htp, h3, h4⟩ := h.rd
  obtain ⟨r', hr'⟩ : ∃ x : Rc25, x = ⟨(c : Int) + 1, r.g, r.n, r.t⟩ := ⟨_, rfl⟩
  rw [← hr'] at hm ⊢
  have hwd : r'.wd := by rw [hr']; exact hw
  have hq' : r'.q = (c : Int) + 1 := by rw [hr']
  have hsok := sh21_ok h.ok 2 (tp : Int)
  have hwo : wo21 S 2 (tp : Int) = false := by
    unfold wo21
    have h0 := h.w0
    have hl := h.lm
    rw [hl]
    simp
    omega
  have hrf : rf21 S.on S.ps 2 (tp : Int) = 0 := by rw [h.ps]; exact ms_tp25 h.t1 _ h.on
  have hlf : ¬ S.lf = 1 := by rw [h.lf]; decide
  have hrc : rc21 S = 0 := if_neg hlf
  have he1 : erE21 S 2 (tp : Int) = 0 := by unfold erE21; rw [if_neg (by rw [hrf]; decide), hwo]; exact hrc
  obtain ⟨n1, hn1⟩ : ∃ n : Sh21, n = ⟨[], true, (sh21 S 2 (tp : Int)).wr + 1⟩ := ⟨_, rfl⟩
  have hs1 : erS21 S 2 (tp : Int) = go21 S 1 2 (tp : Int) n1 := by
    unfold erS21
    rw [if_neg (by rw [hrf]; decide), hwo, ← hn1]
    exact if_neg hlf
  obtain ⟨S1, hS1⟩ : ∃ s, s = go21 S 1 2 (tp : Int) n1 := ⟨_, rfl⟩
  rw [← hS1] at hs1
  have hsh1 : ∀ a b : Int, sh21 S1 a b = if a = 2 ∧ b = (tp : Int) then n1 else sh21 S a b := fun a b => by rw [hS1]; exact sh_go25 S 1 2 (tp : Int) n1 a b
  have hok1 : Ok21 S1 := by rw [← hs1]; exact ok21_er h.ok 2 (tp : Int)
  have f1 : S1.on = true ∧ S1.lf = 0 ∧ S1.lm = 0 ∧ S1.pg = 64 ∧ S1.ps = 1 ∧ S1.lg.length = S.lg.length + 1 := by
    rw [hS1]
    exact ⟨h.on, by show max 0 (S.lf - 1) = 0; rw [h.lf]; decide, h.lm, h.pg, h.ps, by show (S.lg ++ [_]).length = _; simp⟩
  have hrf1 : rf21 S1.on S1.ps 2 (tp : Int) = 0 := by rw [f1.2.2.2.2.1]; exact ms_tp25 h.t1 _ f1.1
  have hlf1 : ¬ S1.lf = 1 := by rw [f1.2.1]; decide
  have her : (sh21 S1 2 (tp : Int)).er = true ∧ (sh21 S1 2 (tp : Int)).wr = (sh21 S 2 (tp : Int)).wr + 1 := by rw [hsh1, if_pos ⟨rfl, rfl⟩, hn1]; exact ⟨rfl, rfl⟩
  have he2 : pgE21 S1 2 (tp : Int) 43 = 0 := by
    unfold pgE21
    rw [if_neg (by rw [hrf1]; decide), if_neg (by rw [f1.2.2.2.1]; decide), if_neg (by rw [her.1]; decide)]
    exact if_neg hlf1
  obtain ⟨n2, hn2⟩ : ∃ n : Sh21, n = ⟨by25 r', false, (sh21 S 2 (tp : Int)).wr + 1⟩ := ⟨_, rfl⟩
  obtain ⟨S2, hS2⟩ : ∃ s, s = go21 S1 2 2 (tp : Int) n2 := ⟨_, rfl⟩
  have hs2 : pgS21 S1 2 (tp : Int) (by25 r') = S2 := by
    unfold pgS21
    rw [if_neg (by rw [hrf1]; decide), if_neg (by rw [f1.2.2.2.1, by25_len]; decide), if_neg (by rw [her.1]; decide), her.2, ← hn2, hS2]
    exact if_neg hlf1
  have hsh2 : ∀ a b : Int, sh21 S2 a b = if a = 2 ∧ b = (tp : Int) then n2 else sh21 S1 a b := fun a b => by rw [hS2]; exact sh_go25 S1 2 2 (tp : Int) n2 a b
  have hoth : ∀ k : Nat, k ≠ tp → sh21 S2 2 (k : Int) = sh21 S 2 (k : Int) := fun k hk => by
    rw [hsh2, if_neg (by omega), hsh1, if_neg (by omega)]
  have hthis : sh21 S2 2 (tp : Int) = n2 := by rw [hsh2, if_pos ⟨rfl, rfl⟩]
  have hpb : pb25 S2 tp = by25 r' ++ List.replicate 21 255 := by
    have := pb_list25 (S := S2) (k := tp) (L := by25 r') (by rw [hthis, hn2]) (by rw [by25_len]; omega)
    rw [this, by25_len]
  have hdc : dc25 S2 tp = (r', 0) := by
    show de25 (pb25 S2 tp) = _
    rw [hpb]
    exact de_by25 hm hwd _
  have ht1 := h.t1
  have hne : 1 - tp ≠ tp := by omega
  have hdo : dc25 S2 (1 - tp) = dc25 S (1 - tp) := by
    show de25 _ = de25 _
    rw [pb_congr25 (hoth _ hne)]
  have hold : (dc25 S (1 - tp)).1.q ≤ (c : Int) := by
    have hq := h.q
    cases hwr : wrote
    · obtain ⟨e1, e2, e3, e4⟩ := h.no hwr
      subst e2
      show (dc25 S 1).1.q ≤ _
      rw [zr_q25 e4]; omega
    · obtain ⟨e1, e2, e3⟩ := h.ye hwr
      rw [e2]
      show last.q ≤ _
      omega
  refine ⟨S2, ?_, ?_⟩
  · have hq : (rd25 S).1.q + 1 = (c : Int) + 1 := by rw [h3]
    unfold wr25
    rw [if_neg (by omega)]
    simp only [hq]
    rw [← hr']
    have ht : (if (rd25 S).2.2 = 0 then 1 - (rd25 S).2.1 else 0) = tp := htp
    rw [ht, if_neg (fun h => h hm), he1, hs1, he2, hs2]
    rfl
  · refine ⟨by rw [← hs2]; exact ok21_pg hok1 2 (tp : Int) (by25 r'), by rw [hS2]; exact f1.1, by rw [hS2]; show max 0 (S1.lf - 1) = 0; rw [f1.2.1]; decide, by rw [hS2]; exact f1.2.2.1, by rw [hS2]; exact f1.2.2.2.1, by rw [hS2]; exact f1.2.2.2.2.1, ?_, by omega, ?_, ?_, by rw [hq']; omega, (fun h => by cases h), fun _ => ⟨hm, ?_, ?_⟩⟩
    · have hl := h.lg
      have : S2.lg.length = S1.lg.length + 1 := by rw [hS2]; show (S1.lg ++ [_]).length = _; simp
      omega
    · rw [hoth _ hne]
      have := h.w1
      omega
    · rw [show 1 - (1 - tp) = tp by omega, hthis, hn2]
      have := h.w0
      show 2 * ((sh21 S 2 (tp : Int)).wr + 1) ≤ _
      omega
    · rw [show 1 - (1 - tp) = tp by omega]
      exact hdc
    · rw [hdo, hq']
      omega
/-- A flash without records. -/
theorem new_pa25 (x y : Int) : sh21 (nw21 64 1 0 [] []) x y = ⟨[], x == 2, 0⟩ := by
  have h : (nw21 64 1 0 [] []).pa x y = none := by
    show pj21 64 (Ls21 [] []) 2 0 x y = none
    unfold pj21 ck21 Ls21
    split
    · rw [if_neg (by split <;> simp)]
    · rfl
  unfold sh21
  rw [h]
  rfl
theorem de_ff25 : de25 (List.replicate 64 255) = (zr25, 250) := by decide +kernel
theorem hi_new25 : Hi25 (nw21 64 1 0 [] []) zr25 false 0 0 := by
  have hp : ∀ k : Nat, pb25 (nw21 64 1 0 [] []) k = List.replicate 64 255 := fun k => by
    have := pb_list25 (S := nw21 64 1 0 [] []) (k := k) (L := []) (by rw [new_pa25]) (by simp)
    simpa using this
  have hd : ∀ k : Nat, (dc25 (nw21 64 1 0 [] []) k).1 = zr25 := fun k => by
    show (de25 _).1 = _
    rw [hp, de_ff25]
  exact ⟨ok21_new 64 1 0 [] [] (by omega) (by omega) (.inl rfl), rfl, rfl, rfl, rfl, rfl, Nat.le_refl _, by omega, by rw [new_pa25]; decide, by rw [new_pa25]; decide, rfl, fun _ => ⟨rfl, rfl, hd 0, hd 1⟩, (fun h => by cases h)⟩
/-- What a Write leaves that is cut. -/
structure Ct25 (S S3 : Fs21) (last : Rc25) (wrote : Bool) (tp : Nat) : Prop where
  ok : Ok21 S3
  on : S3.on = false
  pg : S3.pg = 64
  ps : S3.ps = 1
  same : pb25 S3 (1 - tp) = pb25 S (1 - tp)
theorem cut_write25 (h : Hi25 S last wrote c tp) (hc : c ≤ 2000000000000) (n : Int) (hn : n = 1 ∨ n = 2) (L : List Int) (hL : L.length ≤ 64) :
    cuE21 S n L.length = 0 ∧ ∃ S3, wr25 (cuS21 S n L) ex25 = (zr25, 213, S3) ∧ Ct25 S S3 last wrote tp := by
  obtain ⟨hrd, htp, h3, h4⟩ := h.rd
  have hce : cuE21 S n L.length = 0 := by
    unfold cuE21
    rw [if_neg (by rw [h.on]; decide), if_neg (by rw [h.pg]; omega)]
  refine ⟨hce, ?_⟩
  obtain ⟨S', hS'⟩ : ∃ s, s = cuS21 S n L := ⟨_, rfl⟩
  have hS'2 : S' = { S with lf := n, tn := L } := by
    rw [hS']
    unfold cuS21
    rw [if_neg (by rw [h.on]; decide), if_neg (by rw [h.pg]; omega), if_pos (by omega)]
  rw [← hS']
  have hok' : Ok21 S' := by rw [hS']; exact ok21_cu' h.ok n (by unfold In21; omega) L
  have hsh' : ∀ a b : Int, sh21 S' a b = sh21 S a b := fun a b => by rw [hS'2]; rfl
  have hpb' : ∀ k : Nat, pb25 S' k = pb25 S k := fun k => pb_congr25 (hsh' 2 (k : Int))
  have f : S'.on = true ∧ S'.lf = n ∧ S'.lm = 0 ∧ S'.pg = 64 ∧ S'.ps = 1 := by rw [hS'2]; exact ⟨h.on, rfl, h.lm, h.pg, h.ps⟩
  have hrd' : rd25 S' = rd25 S := by
    rw [rd_of25 f.1, rd_of25 h.on]
    show nr25 (de25 (pb25 S' 0)).1 (de25 (pb25 S' 1)).1 = nr25 (de25 (pb25 S 0)).1 (de25 (pb25 S 1)).1
    rw [hpb', hpb']
  have htp' : tp25 S' = tp := by
    have : tp25 S' = tp25 S := by unfold tp25; rw [hrd']
    rw [this, htp]
  rw [← hrd'] at h3 h4
  obtain ⟨r', hr'⟩ : ∃ x : Rc25, x = ⟨(c : Int) + 1, ⟨0, 1, 3, 7⟩, no25, 0⟩ := ⟨_, rfl⟩
  have hm : r'.may := by
    rw [hr']
    exact ⟨⟨by show (1 : Int) ≤ (c : Int) + 1; omega, by show (c : Int) + 1 ≤ 1152921504606846976; omega⟩, ⟨by show (0 : Int) ≤ 0; omega, by show (0 : Int) ≤ 15; omega⟩, (by decide : (⟨0, 1, 3, 7⟩ : Im25).may 1), .inl ⟨rfl, rfl⟩⟩
  have hwo : wo21 S' 2 (tp : Int) = false := by
    unfold wo21
    rw [hsh', f.2.2.1]
    have h0 := h.w0
    simp
    omega
  have hrf : rf21 S'.on S'.ps 2 (tp : Int) = 0 := by rw [f.2.2.2.2]; exact ms_tp25 h.t1 _ f.1
  obtain ⟨n1, hn1⟩ : ∃ n : Sh21, n = ⟨[], true, (sh21 S' 2 (tp : Int)).wr + 1⟩ := ⟨_, rfl⟩
  have ht1 := h.t1
  have hne : 1 - tp ≠ tp := by omega
  have hu : ∀ E1 S1, erE21 S' 2 (tp : Int) = E1 → erS21 S' 2 (tp : Int) = S1 → wr25 S' ex25 = if E1 ≠ 0 then (zr25, E1, S1) else if pgE21 S1 2 (tp : Int) 43 ≠ 0 then (zr25, pgE21 S1 2 (tp : Int) 43, pgS21 S1 2 (tp : Int) (by25 r')) else (r', 0, pgS21 S1 2 (tp : Int) (by25 r')) := fun E1 S1 e1 e2 => by
    have hq : (rd25 S').1.q + 1 = (c : Int) + 1 := by rw [h3]
    unfold wr25
    rw [if_neg (by omega)]
    simp only [hq]
    have e : (⟨(c : Int) + 1, ex25.g, ex25.n, ex25.t⟩ : Rc25) = r' := by rw [hr']; rfl
    rw [e]
    have ht : (if (rd25 S').2.2 = 0 then 1 - (rd25 S').2.1 else 0) = tp := htp'
    rw [ht, if_neg (fun h => h hm), e1, e2]
  rcases hn with rfl | rfl
  · have hl1 : S'.lf = 1 := f.2.1
    have hrc : rc21 S' = 213 := if_pos hl1
    have he1 : erE21 S' 2 (tp : Int) = 213 := by unfold erE21; rw [if_neg (by rw [hrf]; decide), hwo]; exact hrc
    have hs1 : erS21 S' 2 (tp : Int) = cu21 S' 1 2 (tp : Int) n1 := by
      unfold erS21
      rw [if_neg (by rw [hrf]; decide), hwo, ← hn1]
      exact if_pos hl1
    refine ⟨cu21 S' 1 2 (tp : Int) n1, by rw [hu _ _ he1 hs1, if_pos (by decide)], ⟨by rw [← hs1]; exact ok21_er hok' 2 (tp : Int), rfl, f.2.2.2.1, f.2.2.2.2, ?_⟩⟩
    rw [← hpb']
    exact pb_congr25 (by rw [sh_cu25, if_neg (by omega)])
  · have hl1 : ¬ S'.lf = 1 := by rw [f.2.1]; decide
    have hrc : rc21 S' = 0 := if_neg hl1
    have he1 : erE21 S' 2 (tp : Int) = 0 := by unfold erE21; rw [if_neg (by rw [hrf]; decide), hwo]; exact hrc
    have hs1 : erS21 S' 2 (tp : Int) = go21 S' 1 2 (tp : Int) n1 := by
      unfold erS21
      rw [if_neg (by rw [hrf]; decide), hwo, ← hn1]
      exact if_neg hl1
    obtain ⟨S1, hS1⟩ : ∃ s, s = go21 S' 1 2 (tp : Int) n1 := ⟨_, rfl⟩
    rw [← hS1] at hs1
    have hok1 : Ok21 S1 := by rw [← hs1]; exact ok21_er hok' 2 (tp : Int)
    have f1 : S1.on = true ∧ S1.lf = 1 ∧ S1.pg = 64 ∧ S1.ps = 1 := by
      rw [hS1]
      exact ⟨f.1, by show max 0 (S'.lf - 1) = 1; rw [f.2.1]; decide, f.2.2.2.1, f.2.2.2.2⟩
    have hsh1 : ∀ a b : Int, sh21 S1 a b = if a = 2 ∧ b = (tp : Int) then n1 else sh21 S' a b := fun a b => by rw [hS1]; exact sh_go25 S' 1 2 (tp : Int) n1 a b
    have hrf1 : rf21 S1.on S1.ps 2 (tp : Int) = 0 := by rw [f1.2.2.2]; exact ms_tp25 h.t1 _ f1.1
    have her : (sh21 S1 2 (tp : Int)).er = true := by rw [hsh1, if_pos ⟨rfl, rfl⟩, hn1]
    have he2 : pgE21 S1 2 (tp : Int) 43 = 213 := by
      unfold pgE21
      rw [if_neg (by rw [hrf1]; decide), if_neg (by rw [f1.2.2.1]; decide), if_neg (by rw [her]; decide)]
      exact if_pos f1.2.1
    have hs2 : pgS21 S1 2 (tp : Int) (by25 r') = cu21 S1 2 2 (tp : Int) ⟨by25 r', false, (sh21 S1 2 (tp : Int)).wr⟩ := by
      unfold pgS21
      rw [if_neg (by rw [hrf1]; decide), if_neg (by rw [f1.2.2.1, by25_len]; decide), if_neg (by rw [her]; decide)]
      exact if_pos f1.2.1
    refine ⟨cu21 S1 2 2 (tp : Int) ⟨by25 r', false, (sh21 S1 2 (tp : Int)).wr⟩, by rw [hu _ _ he1 hs1, if_neg (by decide), he2, if_pos (by decide), hs2], ⟨by rw [← hs2]; exact ok21_pg hok1 2 (tp : Int) _, rfl, f1.2.2.1, f1.2.2.2, ?_⟩⟩
    rw [← hpb']
    exact pb_congr25 (by rw [sh_cu25, if_neg (by omega), hsh1, if_neg (by omega)])
/-- Behind the cut, where no torn page holds a record that is none of these: what Read says. -/
theorem rd_cut25 {S3 : Fs21} (h : Hi25 S last wrote c tp) (hc : Ct25 S S3 last wrote tp)
    (h0 : ¬ ((dc25 { S3 with on := true } 0).2 = 0 ∧ (dc25 { S3 with on := true } 0).1 ≠ last ∧ last.q ≤ (dc25 { S3 with on := true } 0).1.q))
    (h1 : ¬ ((dc25 { S3 with on := true } 1).2 = 0 ∧ (dc25 { S3 with on := true } 1).1 ≠ last ∧ last.q ≤ (dc25 { S3 with on := true } 1).1.q)) :
    (wrote = false ∧ (rd25 { S3 with on := true }).2.2 = 251) ∨ (wrote = true ∧ (rd25 { S3 with on := true }).2.2 = 0 ∧ (rd25 { S3 with on := true }).1 = last) := by
  obtain ⟨S4, hS4⟩ : ∃ s : Fs21, s = { S3 with on := true } := ⟨_, rfl⟩
  rw [← hS4] at h0 h1 ⊢
  have hon : S4.on = true := by rw [hS4]
  have hsame : dc25 S4 (1 - tp) = dc25 S (1 - tp) := by
    show de25 _ = de25 _
    rw [← hc.same, hS4]
    rfl
  have hcase : ∀ k : Nat, k ≤ 1 → (dc25 S4 k).1 = last ∨ (dc25 S4 k).1 = zr25 ∨ ((dc25 S4 k).1.may ∧ (dc25 S4 k).1.q < last.q) := fun k hk => by
    have hn : ¬ ((dc25 S4 k).2 = 0 ∧ (dc25 S4 k).1 ≠ last ∧ last.q ≤ (dc25 S4 k).1.q) := by
      rcases (show k = 0 ∨ k = 1 by omega) with rfl | rfl
      · exact h0
      · exact h1
    rcases de_cases25 (pb25 S4 k) with ⟨e1, e2⟩ | ⟨e1, e2⟩
    · by_cases he : (dc25 S4 k).1 = last
      · exact .inl he
      · exact .inr (.inr ⟨e2, Int.not_le.1 (fun h => hn ⟨e1, he, h⟩)⟩)
    · exact .inr (.inl e2)
  have hq := h.q
  cases hw : wrote
  · obtain ⟨e1, -, -, -⟩ := h.no hw
    have hz : ∀ k : Nat, k ≤ 1 → (dc25 S4 k).1 = zr25 := fun k hk => by
      rcases hcase k hk with e | e | ⟨e, e'⟩
      · rw [e, e1]
      · exact e
      · have := may_q25 e
        rw [e1] at e'
        have : zr25.q = 0 := rfl
        omega
    exact .inl ⟨rfl, by rw [(rd_no25 hon (hz 0 (by omega)) (hz 1 (by omega))).1]⟩
  · obtain ⟨e1, e2, -⟩ := h.ye hw
    refine .inr ⟨rfl, ?_⟩
    have hql := may_q25 e1
    rw [← hsame] at e2
    have ht := h.t1
    rcases hcase tp ht with e | e | ⟨-, e⟩
    · have hb : (dc25 S4 0).1 = last ∧ (dc25 S4 1).1 = last := by
        rcases (show tp = 0 ∨ tp = 1 by omega) with rfl | rfl
        · exact ⟨e, by rw [show dc25 S4 1 = (last, 0) from e2]⟩
        · exact ⟨by rw [show dc25 S4 0 = (last, 0) from e2], e⟩
      rw [rd_of25 hon, hb.1, hb.2, nr_lo25 (by omega) (not_zr25 e1)]
      exact ⟨rfl, rfl⟩
    · rw [(rd_ye25 hon ht e1 e2 (by rw [e]; show (0 : Int) < _; omega)).1]
      exact ⟨rfl, rfl⟩
    · rw [(rd_ye25 hon ht e1 e2 e).1]
      exact ⟨rfl, rfl⟩
end
end Go.Proofs.YtmjlpfmacblcpaaDoor

namespace Go.Proofs.YtmjlpfmacblcpaaDoor
open Go.RowKit
set_option linter.unusedVariables false
set_option linter.unusedSimpArgs false
set_option maxRecDepth 100000 in
theorem rin25 (n lo hi : Int) (w : World) : Calls Tryd.prog 74 #[.int .i64 n, .int .i64 lo, .int .i64 hi] w fun e w' => e = .returned (.bool (decide (lo ≤ n ∧ n ≤ hi))) ∧ w' = w := by
  by_cases h1 : lo ≤ n
  · by_cases h2 : n ≤ hi
    · rw [decide_eq_true ⟨h1, h2⟩]
      go_enter Tryd.func74, Tryd.ntmps74
      go_wp2
      go_ret
      exact ⟨rfl, rfl⟩
    · rw [decide_eq_false (fun x => h2 x.2)]
      go_enter Tryd.func74, Tryd.ntmps74
      go_wp2
      go_ret
      exact ⟨rfl, rfl⟩
  · rw [decide_eq_false (fun x => h1 x.1)]
    go_enter Tryd.func74, Tryd.ntmps74
    go_wp2
    go_ret
    exact ⟨rfl, rfl⟩
set_option maxRecDepth 100000 in
set_option maxHeartbeats 4000000 in
theorem rimage25 (i : Im25) (w : World) : Calls Tryd.prog 75 #[.agg i.cs] w fun e w' => e = .returned (.bool (decide (i.may 1))) ∧ Below w.heap.size w w' := by
  have HB : Hid (decide (i.may 1) = true ↔ (i.s = 0 ∨ i.s = 1) ∧ 1 ≤ i.v ∧ i.v ≤ 2147483647 ∧ 0 ≤ i.z ∧ i.z ≤ 16777216) := decide_eq_true_iff
  generalize decide (i.may 1) = B at *
  obtain ⟨s, v, z, m⟩ := i
  unfold Im25.cs
  simp only at *
  have BA : Below w.heap.size w (w.alloc (.cells #[.int .i64 s, .int .i64 v, .int .i64 z, .int .u32 m] 50)) := (Below.refl _ _).alloc (Nat.le_refl _) _
  have HBA : Hid (Below w.heap.size w (w.alloc (.cells #[.int .i64 s, .int .i64 v, .int .i64 z, .int .u32 m] 50))) := BA
  clear BA
  go_enter Tryd.func75, Tryd.ntmps75
  go_wp2_with fail
  refine (rin25 s 0 1 _).mono ?_
  rintro e1 w1 ⟨rfl, rfl⟩
  by_cases h1 : 0 ≤ s ∧ s ≤ 1
  rotate_left
  · rw [decide_eq_false h1]
    go_wp2_with fail
    go_ret
    exact ⟨by have : B = false := by { cases hb : B with | false => rfl | true => { have := HB.out.1 hb; omega } }
              rw [this]; rfl, HBA.out⟩
  rw [decide_eq_true h1]
  go_wp2_with fail
  refine (rin25 v 1 2147483647 _).mono ?_
  rintro e1 w1 ⟨rfl, rfl⟩
  by_cases h2 : 1 ≤ v ∧ v ≤ 2147483647
  rotate_left
  · rw [decide_eq_false h2]
    go_wp2_with fail
    go_ret
    exact ⟨by have : B = false := by { cases hb : B with | false => rfl | true => { have := HB.out.1 hb; omega } }
              rw [this]; rfl, HBA.out⟩
  rw [decide_eq_true h2]
  go_wp2_with fail
  refine (rin25 z 0 16777216 _).mono ?_
  rintro e1 w1 ⟨rfl, rfl⟩
  have hb : B = decide (0 ≤ z ∧ z ≤ 16777216) := by
    rw [Bool.eq_iff_iff, HB.out, decide_eq_true_iff]
    omega
  rw [← hb]
  clear hb h1 h2 HB
  go_wp2_with fail
  go_ret
  exact ⟨rfl, HBA.out⟩
set_option maxRecDepth 100000 in
set_option maxHeartbeats 8000000 in
theorem rcheck25 (r : Rc25) (w : World) : Calls Tryd.prog 25 #[.agg r.cs] w fun e w' => e = .returned (.int .i64 (ck25 r)) ∧ Below w.heap.size w w' := by
  obtain ⟨q, g, n, t⟩ := r
  unfold Rc25.cs
  simp only
  obtain ⟨wA, hwA⟩ : ∃ wA, wA = w.alloc (.cells #[.int .i64 q, .int .i64 g.s, .int .i64 g.v, .int .i64 g.z, .int .u32 g.m, .int .i64 n.s, .int .i64 n.v, .int .i64 n.z, .int .u32 n.m, .int .i64 t] 52) := ⟨_, rfl⟩
  have HWA : Hid (w.alloc (.cells #[.int .i64 q, .int .i64 g.s, .int .i64 g.v, .int .i64 g.z, .int .u32 g.m, .int .i64 n.s, .int .i64 n.v, .int .i64 n.z, .int .u32 n.m, .int .i64 t] 52) = wA) := hwA.symm
  have bA : Below w.heap.size w wA := by rw [hwA]; exact (Below.refl _ _).alloc (Nat.le_refl _) _
  have qA : wA.heap[w.heap.size]? = some (.cells #[.int .i64 q, .int .i64 g.s, .int .i64 g.v, .int .i64 g.z, .int .u32 g.m, .int .i64 n.s, .int .i64 n.v, .int .i64 n.z, .int .u32 n.m, .int .i64 t] 52 (0, 0)) := by rw [hwA]; exact heap_alloc_new _ _
  have HE : Hid (∀ W, (binOp .eql 50 (.agg #[.int .i64 n.s, .int .i64 n.v, .int .i64 n.z, .int .u32 n.m]) (.agg #[.int .i64 0, .int .i64 0, .int .i64 0, .int .u32 0])).run Tryd.prog W = .ok (.bool (decide (n = no25))) W) := fun W => bei25d n no25 W
  have HQ : Hid (∀ V, Below wA.heap.size wA V → V.heap[w.heap.size]? = some (.cells #[.int .i64 q, .int .i64 g.s, .int .i64 g.v, .int .i64 g.z, .int .u32 g.m, .int .i64 n.s, .int .i64 n.v, .int .i64 n.z, .int .u32 n.m, .int .i64 t] 52 (0, 0))) := fun V hV => (hV.block _ (Array.getElem?_eq_some_iff.1 qA).1).trans qA
  have HA : Hid (Below w.heap.size w wA) := bA
  have B0 : Hid (Below wA.heap.size wA wA) := Below.refl _ _
  clear hwA bA qA
  go_enter Tryd.func25, Tryd.ntmps25
  go_wp2_with fail
  rw [HWA.out]
  obtain ⟨c0, c1, c2, c3, c4, c5, c6, c7, c8, c9⟩ := cells25 (HQ.out wA (Below.refl _ _))
  refine (rin25 q 1 1152921504606846976 wA).mono ?_
  rintro e1 w1 ⟨rfl, hw1⟩
  rw [hw1]
  clear hw1
  by_cases h1 : 1 ≤ q ∧ q ≤ 1152921504606846976
  rotate_left
  · rw [decide_eq_false h1]
    go_wp2_with fail
    go_ret
    exact ⟨by rw [ck25, if_neg (fun h => h1 h.1)]; rfl, HA.out.trans (B0.out.mono HA.out.size)⟩
  rw [decide_eq_true h1]
  go_wp2_with fail
  refine (rimage25 g wA).mono ?_
  rintro e1 w1 ⟨rfl, b1⟩
  have B1 : Hid (Below wA.heap.size wA w1) := b1
  clear c0 c1 c2 c3 c4 c5 c6 c7 c8 c9 b1
  obtain ⟨c0, c1, c2, c3, c4, c5, c6, c7, c8, c9⟩ := cells25 (HQ.out w1 B1.out)
  by_cases hg : g.may 1
  rotate_left
  · rw [decide_eq_false hg]
    go_wp2_with fail
    go_ret
    exact ⟨by rw [ck25, if_neg (fun h => hg h.2.2.1)]; rfl, HA.out.trans (B1.out.mono HA.out.size)⟩
  rw [decide_eq_true hg]
  go_wp2_with fail
  refine (rin25 t 0 15 w1).mono ?_
  rintro e1 w2 ⟨rfl, hw1⟩
  rw [hw1]
  clear hw1
  by_cases h3 : 0 ≤ t ∧ t ≤ 15
  rotate_left
  · rw [decide_eq_false h3]
    go_wp2_with fail
    go_ret
    exact ⟨by rw [ck25, if_neg (fun h => h3 h.2.1)]; rfl, HA.out.trans (B1.out.mono HA.out.size)⟩
  rw [decide_eq_true h3]
  have H13 : Hid ((1 ≤ q ∧ q ≤ 1152921504606846976) ∧ (0 ≤ t ∧ t ≤ 15) ∧ g.may 1) := ⟨h1, h3, hg⟩
  clear h1 hg
  have E1 := HE.out w1
  by_cases hn : n = no25
  · rw [decide_eq_true hn] at E1
    have HN : Hid (n = no25) := hn
    clear hn
    by_cases h5 : t = 0
    · have ht0 : (t != 0) = false := by simp [h5]
      have HT : Hid (t = 0) := h5
      subst h5
      go_wp2_with (refine wpList_bin25 rfl .eql 50 (.tmp 20) (.tmp 21) 50 rfl rfl rfl egi25d E1 ?_)
      go_ret
      have hm : (Rc25.mk q g n 0).may := ⟨H13.out.1, H13.out.2.1, H13.out.2.2, .inl ⟨HN.out, rfl⟩⟩
      exact ⟨by rw [ck25, if_pos hm]; rfl, HA.out.trans (B1.out.mono HA.out.size)⟩
    · have ht0 : (t != 0) = true := by simp [h5]
      have HT : Hid (t ≠ 0) := h5
      clear h5
      go_wp2_with (refine wpList_bin25 rfl .eql 50 (.tmp 20) (.tmp 21) 50 rfl rfl rfl egi25d E1 ?_)
      go_ret
      exact ⟨by rw [ck25, if_neg (fun h => h.2.2.2.elim (fun x => HT.out x.2) (fun x => x.1 HN.out))]; rfl, HA.out.trans (B1.out.mono HA.out.size)⟩
  rw [decide_eq_false hn] at E1
  have HN : Hid (n ≠ no25) := hn
  clear hn
  go_wp2_with (refine wpList_bin25 rfl .eql 50 (.tmp 20) (.tmp 21) 50 rfl rfl rfl egi25d E1 ?_)
  refine (rimage25 n w1).mono ?_
  rintro e2 w2 ⟨rfl, b2⟩
  have B2 : Hid (Below wA.heap.size wA w2) := B1.out.trans (b2.mono B1.out.size)
  clear c0 c1 c2 c3 c4 c5 c6 c7 c8 c9 b2 E1
  obtain ⟨c0, c1, c2, c3, c4, c5, c6, c7, c8, c9⟩ := cells25 (HQ.out w2 B2.out)
  by_cases hm : n.may 1
  rotate_left
  · rw [decide_eq_false hm]
    have HMM : Hid (¬ n.may 1) := hm
    clear hm
    go_wp2_with fail
    go_ret
    exact ⟨by rw [ck25, if_neg (fun h => h.2.2.2.elim (fun x => HN.out x.1) (fun x => HMM.out ⟨x.2.1.1, Int.le_trans H13.out.2.2.2.1 x.2.1.2.1, x.2.1.2.2⟩))]; rfl, HA.out.trans (B2.out.mono HA.out.size)⟩
  rw [decide_eq_true hm]
  have HMM : Hid (n.may 1) := hm
  clear hm
  obtain ⟨gs, gv, gz, gm⟩ := g
  obtain ⟨ns, nv, nz, nm⟩ := n
  have gs01 : gs = 0 ∨ gs = 1 := H13.out.2.2.1
  simp only at c0 c1 c2 c3 c4 c5 c6 c7 c8 c9 HQ HE ⊢
  rcases gs01 with rfl | rfl
  · by_cases hs : ns = 1
    rotate_left
    · have HSS : Hid (ns ≠ 1) := hs
      go_wp2_with fail
      go_ret
      exact ⟨by rw [ck25, if_neg (fun h => h.2.2.2.elim (fun x => HN.out x.1) (fun x => by have a : ns = 0 ∨ ns = 1 := x.2.1.1; have b : ns ≠ 0 := x.2.2; have := HSS.out; omega))]; rfl, HA.out.trans (B2.out.mono HA.out.size)⟩
    have HSS : Hid (ns = 1) := hs
    subst hs
    by_cases hv : nv < gv
    · have HV : Hid (nv < gv) := hv
      go_wp2_with fail
      go_ret
      exact ⟨by rw [ck25, if_neg (fun h => h.2.2.2.elim (fun x => HN.out x.1) (fun x => by have y := HV.out; have z : gv ≤ nv := x.2.1.2.1; omega))]; rfl, HA.out.trans (B2.out.mono HA.out.size)⟩
    have HV : Hid (¬ nv < gv) := hv
    go_wp2_with fail
    go_ret
    have hm : (Rc25.mk q ⟨0, gv, gz, gm⟩ ⟨1, nv, nz, nm⟩ t).may := ⟨H13.out.1, H13.out.2.1, H13.out.2.2, .inr ⟨HN.out, ⟨HMM.out.1, by have := HV.out; show gv ≤ nv; omega, HMM.out.2.2⟩, by show (1 : Int) ≠ 0; decide⟩⟩
    exact ⟨by rw [ck25, if_pos hm]; rfl, HA.out.trans (B2.out.mono HA.out.size)⟩
  · by_cases hs : ns = 0
    rotate_left
    · have HSS : Hid (ns ≠ 0) := hs
      go_wp2_with fail
      go_ret
      exact ⟨by rw [ck25, if_neg (fun h => h.2.2.2.elim (fun x => HN.out x.1) (fun x => by have a : ns = 0 ∨ ns = 1 := x.2.1.1; have b : ns ≠ 1 := x.2.2; have := HSS.out; omega))]; rfl, HA.out.trans (B2.out.mono HA.out.size)⟩
    have HSS : Hid (ns = 0) := hs
    subst hs
    by_cases hv : nv < gv
    · have HV : Hid (nv < gv) := hv
      go_wp2_with fail
      go_ret
      exact ⟨by rw [ck25, if_neg (fun h => h.2.2.2.elim (fun x => HN.out x.1) (fun x => by have y := HV.out; have z : gv ≤ nv := x.2.1.2.1; omega))]; rfl, HA.out.trans (B2.out.mono HA.out.size)⟩
    have HV : Hid (¬ nv < gv) := hv
    go_wp2_with fail
    go_ret
    have hm : (Rc25.mk q ⟨1, gv, gz, gm⟩ ⟨0, nv, nz, nm⟩ t).may := ⟨H13.out.1, H13.out.2.1, H13.out.2.2, .inr ⟨HN.out, ⟨HMM.out.1, by have := HV.out; show gv ≤ nv; omega, HMM.out.2.2⟩, by show (0 : Int) ≠ 1; decide⟩⟩
    exact ⟨by rw [ck25, if_pos hm]; rfl, HA.out.trans (B2.out.mono HA.out.size)⟩
end Go.Proofs.YtmjlpfmacblcpaaDoor

namespace Go.Proofs.YtmjlpfmacblcpaaDoor
set_option linter.unusedVariables false
/-- A record may be, and is started at most so often. -/
def Iv25 (r : Rc25) (l : Int) : Prop := r.may ∧ r.t ≤ l ∧ l ≤ 15
end Go.Proofs.YtmjlpfmacblcpaaDoor

namespace Go.Proofs.YtmjlpfmacblcpaaDoor
open Go.RowKit Go.Shelf
set_option linter.unusedVariables false
set_option linter.unusedSimpArgs false
theorem yields_row25 {P : Program} {ops : Array Oper} {S : World → Prop} {op : Oper} {a : Act} (hw : Region.wanted op (yielded ops a.tmps) = true) (ty : TypeId) (x : Operand) (ho : op.op = .load ty x) (g : Nat) (hx : a.eval x = .pointer (some ⟨g, 0, none⟩)) (t : TypeId) (cs : Array Value) (fr : Nat × Nat) (d : TypeDesc) (hS : ∀ w, S w → w.heap[g]? = some (.cells cs t fr))
    (hu : P.underlying ty = some d) (hd : (match d with | .struct _ | .array _ _ => true | _ => false) = true) (hi : (P.info? ty).map (·.size) = some cs.size) : YieldsIf P ops S op (.agg cs) a :=
  .inl ⟨hw, fun w hw' => by
    unfold execOp
    simp only [ho, hx, Instr.loadAt, Instr.sureAddr, Sem.run_bind, Sem.run_pure, Result.andThen_ok, run_loadVar_row w g t ty cs fr d (hS w hw') hu hd hi]⟩
end Go.Proofs.YtmjlpfmacblcpaaDoor

namespace Go.Proofs.YtmjlpfmacblcpaaDoor
open Go.RowKit Go.Shelf
set_option linter.unusedVariables false
set_option linter.unusedSimpArgs false
/-- A guarded operation whose guard is met is as one without a guard. -/
theorem wpList_ung25 {P : Program} {ops : Array Oper} {Q : Exit → Act → World → Prop} {a : Act} {w : World} {rest : List Oper} {o : Oper} (hw : Region.wanted o (yielded ops a.tmps) = true) (h : wpList P ops Q ({ o with guard := none } :: rest) a w) : wpList P ops Q (o :: rest) a w := by
  unfold wpList at h ⊢
  rw [if_pos hw]
  rw [if_pos (by simp [Region.wanted])] at h
  exact h
/-- What holds at the head of BootTries' loop, and behind the switch of its round. -/
structure St25 (w wr : World) (ba : Nat) (r : Rc25) (l : Int) : Prop where
  row : wr.heap[ba]? = some (.cells r.cs 63 (0, 0))
  below : Below w.heap.size w wr
  iv : Iv25 r l
theorem St25.at_ {w wr : World} {ba : Nat} {r : Rc25} {l : Int} (h : St25 w wr ba r l) : 0 ≤ r.t ∧ r.t ≤ l ∧ l ≤ 15 ∧ 0 ≤ l := ⟨h.iv.1.2.1.1, h.iv.2.1, h.iv.2.2, by have := h.iv.1.2.1.1; have := h.iv.2.1; omega⟩
end Go.Proofs.YtmjlpfmacblcpaaDoor

namespace Go.Proofs.YtmjlpfmacblcpaaDoor
open Go.ChangeShapes Go.WideShapes Go.ChangeAt Go.RowKit
set_option linter.unusedVariables false
set_option maxRecDepth 100000
theorem cells_int25 : Tryd.prog.cellsOf 3 = 1 := by kernel_rfl
theorem cells_u3225 : Tryd.prog.cellsOf 48 = 1 := by kernel_rfl
theorem cells_im25 : Tryd.prog.cellsOf 50 = 4 := by kernel_rfl
theorem cells_rc25 : Tryd.prog.cellsOf 52 = 10 := by kernel_rfl
def Im25.wd (i : Im25) : Prop := 0 ≤ i.m ∧ i.m ≤ 4294967295
end Go.Proofs.YtmjlpfmacblcpaaDoor
