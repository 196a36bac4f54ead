import Derived.Test.YtjoghmdjnkdokaaDoorPq
import Derived.Test.YtjoghmdjnkdokaaDoorPv
import Derived.Test.YtjoghmdjnkdokaaDoorPe
import Derived.Test.YtjoghmdjnkdokaaDoorPh
import Derived.Lib.SmallJoins
namespace Go.Proofs.YtjoghmdjnkdokaaDoor
open Go.RowKit Go.Shelf
set_option linter.unusedVariables false
set_option linter.unusedSimpArgs false

/-! Twins: devices that answer alike: pure. -/
def Sq24 (S S' : Fs21) (x y : Int) : Prop := (sh21 S' x y).er = (sh21 S x y).er ∧ (sh21 S' x y).wr = (sh21 S x y).wr ∧ fb21 S' x y = fb21 S x y
structure Tw24 (S S' : Fs21) : Prop where
  pg : S'.pg = S.pg
  ps : S'.ps = S.ps
  ac : S'.ac = S.ac
  on : S'.on = S.on
  lm : S'.lm = S.lm
  lf : S'.lf = S.lf
  tn : S'.tn = S.tn
  sh : ∀ x y, 0 ≤ y → y < pn21 S.ps x → Sq24 S S' x y
theorem fb_getD24 (S : Fs21) (x y : Int) (i : Nat) : (fb21 S x y).getD i 255 = (sh21 S x y).b.getD i 255 := by
  unfold fb21
  by_cases h : i < (sh21 S x y).b.length
  · simp [List.getD, List.getElem?_append, h]
  · rw [List.getD_eq_getElem?_getD, List.getD_eq_getElem?_getD, List.getElem?_append_right (by omega), List.getElem?_eq_none (show (sh21 S x y).b.length ≤ i by omega)]
    by_cases h2 : i - (sh21 S x y).b.length < S.pg - (sh21 S x y).b.length
    · simp [List.getElem?_replicate, h2]
    · simp [List.getElem?_replicate, h2]
theorem sh_nf24 {S : Fs21} (x y : Int) (h0 : 0 ≤ y) (h1 : y < pn21 S.ps x) : sh21 (nf24 S) x y = nz24 S.pg (sh21 S x y) := by
  have hx : 0 ≤ x ∧ x < 3 := by
    unfold pn21 at h1
    split at h1
    · omega
    · omega
  show ((nf24 S).pa x y).getD _ = _
  have : (nf24 S).pa x y = some (nz24 S.pg (sh21 S x y)) := by
    show nfp24 S x y = _
    unfold nfp24
    rw [if_pos ⟨hx, h0, h1⟩]
  rw [this]
  rfl
theorem er_b24 {S : Fs21} (hO : Ok21 S) (x y : Int) (h : (sh21 S x y).er = true) : (sh21 S x y).b = [] := by
  unfold sh21 at h ⊢
  cases e : S.pa x y with
  | none => rfl
  | some s => rw [e] at h; exact (hO.sh x y s e).2.2.2 h
theorem Tw24.of_nf {S : Fs21} (hO : Ok21 S) (hon : S.on = true) (hlf : S.lf = 0) (htn : S.tn = []) : Tw24 S (nf24 S) := by
  refine ⟨rfl, rfl, rfl, hon.symm, rfl, hlf.symm, htn.symm, fun x y h0 h1 => ?_⟩
  have e := sh_nf24 (S := S) x y h0 h1
  have hb := (sh21_ok hO x y).1
  refine ⟨by rw [e]; rfl, by rw [e]; rfl, ?_⟩
  unfold fb21
  rw [e]
  show (if (sh21 S x y).er then ([] : List Int) else (sh21 S x y).b ++ List.replicate (S.pg - (sh21 S x y).b.length) 255) ++ List.replicate (S.pg - (if (sh21 S x y).er then ([] : List Int) else (sh21 S x y).b ++ List.replicate (S.pg - (sh21 S x y).b.length) 255).length) 255 = _
  cases he : (sh21 S x y).er
  · simp only [Bool.false_eq_true, if_false]
    have : S.pg - ((sh21 S x y).b ++ List.replicate (S.pg - (sh21 S x y).b.length) 255).length = 0 := by simp; omega
    rw [this]
    simp
  · have := er_b24 hO x y he
    simp [this]
theorem ok21_nf {S : Fs21} (hO : Ok21 S) : Ok21 (nf24 S) := by
  refine ⟨hO.pg, hO.ps, hO.ac, hO.lm, by show (0 : Int) ≤ 0 ∧ (0 : Int) ≤ _; omega, Nat.zero_le _, fun x y s hs => ?_⟩
  have hs' : nfp24 S x y = some s := hs
  unfold nfp24 at hs'
  split at hs'
  · injection hs' with e
    subst e
    have h := sh21_ok hO x y
    refine ⟨?_, h.2.1, h.2.2, ?_⟩
    · show (if (sh21 S x y).er then ([] : List Int) else _).length ≤ S.pg
      split
      · exact Nat.zero_le _
      · simp; omega
    · intro he
      have he' : (sh21 S x y).er = true := he
      show (if (sh21 S x y).er then ([] : List Int) else _) = []
      rw [if_pos he']
  · cases hs'
section
variable {S S' : Fs21}
theorem Tw24.rf (h : Tw24 S S') (x y : Int) : rf21 S'.on S'.ps x y = rf21 S.on S.ps x y := by rw [h.on, h.ps]
theorem rf_ok24 {on : Bool} {ps : Nat} {x y : Int} (h : rf21 on ps x y = 0) : 0 ≤ y ∧ y < pn21 ps x := by
  unfold rf21 at h
  split at h
  · unfold ms21 at h
    split at h
    · omega
    · omega
  · omega
theorem Tw24.shv (h : Tw24 S S') {x y : Int} (hr : rf21 S.on S.ps x y = 0) : Sq24 S S' x y := h.sh x y (rf_ok24 hr).1 (rf_ok24 hr).2
theorem Tw24.rc (h : Tw24 S S') : rc21 S' = rc21 S := by unfold rc21; rw [h.lf]
theorem Tw24.wo (h : Tw24 S S') {x y : Int} (hr : rf21 S.on S.ps x y = 0) : wo21 S' x y = wo21 S x y := by unfold wo21; rw [(h.shv hr).2.1, h.lm]
theorem sh_up24 (S : Fs21) (pa : Int → Int → Option Sh21) (x y : Int) (s : Sh21) (lg : List (Int × Int × Int)) (on : Bool) (lf : Int) (tn : List Int) (x' y' : Int) : sh21 ⟨S.pg, S.ps, S.ac, on, S.lm, up21 S.pa x y s, lf, tn, lg⟩ x' y' = if x' = x ∧ y' = y then s else sh21 S x' y' := by
  show ((up21 S.pa x y s) x' y').getD _ = _
  unfold up21
  split
  · rfl
  · rfl
theorem Tw24.rn (h : Tw24 S S') (hO : Ok21 S) (hO' : Ok21 S') (kd x y : Int) (hv : Sq24 S S' x y) (nn nn' : Sh21) (hn : nn' = nn) : Tw24 (rn21 S kd x y nn) (rn21 S' kd x y nn') := by
  subst hn
  unfold rn21
  rw [h.lf]
  by_cases hl : S.lf = 1
  · rw [if_pos hl, if_pos hl]
    have hla : la21 S'.pg S'.tn (sh21 S' x y).b = la21 S.pg S.tn (sh21 S x y).b := by
      rw [← la21_fb hO', ← la21_fb hO, hv.2.2, h.tn]
    refine ⟨h.pg, h.ps, h.ac, rfl, h.lm, rfl, rfl, fun x' y' h0 h1 => ?_⟩
    have e1 : sh21 (cu21 S kd x y nn') x' y' = if x' = x ∧ y' = y then (⟨la21 S.pg S.tn (sh21 S x y).b, false, nn'.wr⟩ : Sh21) else sh21 S x' y' := sh_up24 S S.pa _ _ _ _ _ _ _ _ _
    have e2 : sh21 (cu21 S' kd x y nn') x' y' = if x' = x ∧ y' = y then (⟨la21 S'.pg S'.tn (sh21 S' x y).b, false, nn'.wr⟩ : Sh21) else sh21 S' x' y' := sh_up24 S' S'.pa _ _ _ _ _ _ _ _ _
    have hp : (cu21 S' kd x y nn').pg = (cu21 S kd x y nn').pg := h.pg
    unfold Sq24 fb21
    rw [hp, e1, e2, hla]
    by_cases hc : x' = x ∧ y' = y
    · rw [if_pos hc, if_pos hc]; exact ⟨rfl, rfl, rfl⟩
    · rw [if_neg hc, if_neg hc]
      have := h.sh x' y' h0 h1
      unfold Sq24 fb21 at this
      rw [h.pg] at this
      exact this
  · rw [if_neg hl, if_neg hl]
    refine ⟨h.pg, h.ps, h.ac, h.on, h.lm, by show max 0 (S'.lf - 1) = max 0 (S.lf - 1); rw [h.lf], h.tn, fun x' y' h0 h1 => ?_⟩
    have e1 : sh21 (go21 S kd x y nn') x' y' = if x' = x ∧ y' = y then nn' else sh21 S x' y' := sh_up24 S S.pa _ _ _ _ _ _ _ _ _
    have e2 : sh21 (go21 S' kd x y nn') x' y' = if x' = x ∧ y' = y then nn' else sh21 S' x' y' := sh_up24 S' S'.pa _ _ _ _ _ _ _ _ _
    have hp : (go21 S' kd x y nn').pg = (go21 S kd x y nn').pg := h.pg
    unfold Sq24 fb21
    rw [hp, e1, e2]
    by_cases hc : x' = x ∧ y' = y
    · rw [if_pos hc, if_pos hc]; exact ⟨rfl, rfl, rfl⟩
    · rw [if_neg hc, if_neg hc]
      have := h.sh x' y' h0 h1
      unfold Sq24 fb21 at this
      rw [h.pg] at this
      exact this
theorem Tw24.erE (h : Tw24 S S') (x y : Int) : erE21 S' x y = erE21 S x y := by
  unfold erE21
  rw [h.rf]
  by_cases hr : rf21 S.on S.ps x y = 0
  · rw [h.wo hr, h.rc]
  · rw [if_pos hr, if_pos hr]
theorem Tw24.pgE (h : Tw24 S S') (x y : Int) (n : Nat) : pgE21 S' x y n = pgE21 S x y n := by
  unfold pgE21
  rw [h.rf]
  by_cases hr : rf21 S.on S.ps x y = 0
  · rw [h.pg, (h.shv hr).1, h.rc]
  · rw [if_pos hr, if_pos hr]
theorem Tw24.erV (h : Tw24 S S') (x y : Int) : erV21 S' x y = erV21 S x y := by
  unfold erV21
  rw [h.rf]
  by_cases hr : rf21 S.on S.ps x y = 0
  · rw [(h.shv hr).1]
  · rw [if_pos hr, if_pos hr]
theorem Tw24.weV (h : Tw24 S S') (x y : Int) : weV21 S' x y = weV21 S x y := by
  unfold weV21
  rw [h.ps]
  by_cases hr : ms21 S.ps x y = 0
  · have : 0 ≤ y ∧ y < pn21 S.ps x := by
      unfold ms21 at hr
      split at hr
      · omega
      · omega
    rw [(h.sh x y this.1 this.2).2.1]
  · rw [if_pos hr, if_pos hr]
theorem Tw24.cuE (h : Tw24 S S') (n : Int) (l : Nat) : cuE21 S' n l = cuE21 S n l := by unfold cuE21; rw [h.on, h.pg]
theorem Tw24.rdE (h : Tw24 S S') (x a n : Int) : rdE21 S' x a n = rdE21 S x a n := by unfold rdE21 sz21; rw [h.on, h.pg, h.ps]
theorem Tw24.rb (h : Tw24 S S') (hO : Ok21 S) (x a n : Int) (hr : rdE21 S x a n = 0) : rb21 S' x a.toNat n.toNat = rb21 S x a.toNat n.toNat := by
  unfold rb21
  rw [h.pg]
  refine List.map_congr_left fun i hi => ?_
  have hi' := List.mem_range.1 hi
  have hb : 0 ≤ a ∧ 0 ≤ n ∧ a + n ≤ pn21 S.ps x * (S.pg : Int) := by
    unfold rdE21 sz21 at hr
    split at hr
    · omega
    · split at hr
      · omega
      · omega
  have hp := hO.pg
  have hpb := pn21_bd S.ps x hO.ps.2
  unfold pb21
  rw [← fb_getD24, ← fb_getD24]
  have hlt : (((a.toNat + i) / S.pg : Nat) : Int) < pn21 S.ps x := by
    obtain ⟨N, hN⟩ := Int.eq_ofNat_of_zero_le hpb.1
    rw [hN] at hb ⊢
    have h2 : a.toNat + i < N * S.pg := by
      have h3 : ((a.toNat + i : Nat) : Int) < ((N * S.pg : Nat) : Int) := by
        have : ((N * S.pg : Nat) : Int) = (N : Int) * (S.pg : Int) := by simp
        rw [this]
        have h5 := hb.2.2
        have : ((a.toNat + i : Nat) : Int) < a + n := by omega
        exact Int.lt_of_lt_of_le this h5
      exact Int.ofNat_lt.1 h3
    have := (Nat.div_lt_iff_lt_mul (show 0 < S.pg by omega)).2 h2
    exact Int.ofNat_lt.2 this
  rw [(h.sh x _ (Int.natCast_nonneg _) hlt).2.2]
theorem Tw24.ds (h : Tw24 S S') (hO : Ok21 S) (hO' : Ok21 S') (c a p n : Int) (L : List Int) : Tw24 (ds21 S c a p n L) (ds21 S' c a p n L) := by
  unfold ds21
  by_cases h1 : c = 1
  · rw [if_pos h1, if_pos h1]
    unfold erS21
    rw [h.rf]
    by_cases hr : rf21 S.on S.ps a p = 0
    · rw [h.wo hr]
      have hv := h.shv hr
      split
      · exact h
      · split
        · exact h
        · exact h.rn hO hO' _ _ _ hv _ _ (by rw [hv.2.1])
    · rw [if_pos hr, if_pos hr]; exact h
  · rw [if_neg h1, if_neg h1]
    by_cases h2 : c = 2
    · rw [if_pos h2, if_pos h2]
      unfold pgS21
      rw [h.rf]
      by_cases hr : rf21 S.on S.ps a p = 0
      · have hv := h.shv hr
        rw [h.pg, hv.1]
        split
        · exact h
        · split
          · exact h
          · split
            · exact h
            · exact h.rn hO hO' _ _ _ hv _ _ (by rw [hv.2.1])
      · rw [if_pos hr, if_pos hr]; exact h
    · rw [if_neg h2, if_neg h2]
      by_cases h4 : c = 4
      · rw [if_pos h4, if_pos h4]
        unfold cuS21
        rw [h.on, h.pg]
        split
        · exact h
        · split
          · exact h
          · exact ⟨by first | rfl | exact h.pg, h.ps, h.ac, by first | rfl | exact h.on, h.lm, rfl, rfl, fun x y h0 h1 => by have := h.sh x y h0 h1; unfold Sq24 fb21 at this ⊢; rw [h.pg] at this; exact this⟩
      · rw [if_neg h4, if_neg h4]
        by_cases h5 : c = 5
        · rw [if_pos h5, if_pos h5]
          exact ⟨h.pg, h.ps, h.ac, rfl, h.lm, h.lf, h.tn, h.sh⟩
        · rw [if_neg h5, if_neg h5]
          by_cases h6 : c = 6
          · rw [if_pos h6, if_pos h6]
            unfold tuS21
            rw [h.on]
            split
            · exact ⟨h.pg, h.ps, by show 1 - S'.ac = 1 - S.ac; rw [h.ac], by first | rfl | exact h.on, h.lm, h.lf, h.tn, h.sh⟩
            · exact h
          · rw [if_neg h6, if_neg h6]
            by_cases h7 : c = 7
            · rw [if_pos h7, if_pos h7]
              unfold liS21
              split
              · exact h
              · exact ⟨h.pg, h.ps, h.ac, h.on, rfl, h.lf, h.tn, h.sh⟩
            · rw [if_neg h7, if_neg h7]; exact h
theorem svp24_eq (pg : Nat) (s s' : Sh21) (h1 : s'.er = s.er) (h2 : s'.wr = s.wr) (h3 : s'.b ++ List.replicate (pg - s'.b.length) 255 = s.b ++ List.replicate (pg - s.b.length) 255) : svp21 pg s' = svp21 pg s := by
  unfold svp21
  rw [h1, h2, h3]
theorem Tw24.sav (h : Tw24 S S') (hO : Ok21 S) : sav21 S' = sav21 S := by
  have hpgl : ∀ (x : Int) (n : Nat), (n : Int) ≤ pn21 S.ps x → pgl21 S' x n = pgl21 S x n := by
    intro x n
    induction n with
    | zero => intro _; rfl
    | succ n ih =>
      intro hn
      rw [pgl21_succ, pgl21_succ, ih (by omega), h.pg]
      have hv := h.sh x (n : Int) (by omega) (by omega)
      have h3 := hv.2.2
      unfold fb21 at h3
      rw [h.pg] at h3
      rw [svp24_eq S.pg _ _ hv.1 hv.2.1 h3]
  have harl : ∀ n, arl21 S' n = arl21 S n := by
    intro n
    induction n with
    | zero => rfl
    | succ n ih =>
      have hp := pn21_bd S.ps (n : Int) hO.ps.2
      rw [arl21_succ, arl21_succ, ih, h.ps, hpgl (n : Int) _ (by omega)]
  have hsvb : svb21 S' = svb21 S := by
    unfold svb21 hdb21 nm21
    rw [harl, h.pg, h.ps, h.ac, h.lm]
  unfold sav21
  rw [hsvb]
end
end Go.Proofs.YtjoghmdjnkdokaaDoor

namespace Go.Proofs.YtjoghmdjnkdokaaDoor
open Go.RowKit Go.Shelf
set_option linter.unusedVariables false
set_option linter.unusedSimpArgs false

/-! The law's call: what a call answers, and what it leaves. -/
def ca24 (S : Fs21) (c a p n : Int) (L : List Int) : List Int × Int :=
  if c = 0 then (if rdE21 S a p n = 0 then rb21 S a p.toNat n.toNat else [], rdE21 S a p n)
  else if c = 1 then ([], erE21 S a p)
  else if c = 2 then ([], pgE21 S a p L.length)
  else if c = 3 then (if erV21 S a p then [1] else [], rf21 S.on S.ps a p)
  else if c = 4 then ([], cuE21 S n L.length)
  else if c = 5 then ([], 0)
  else if c = 6 then ([], st21 S.on)
  else if c = 7 then ([], liE21 n)
  else if c = 8 then ([weV21 S a p % 256, weV21 S a p / 256 % 256], ms21 S.ps a p)
  else ([], 0)
def CaQ24 (w : World) (b : Nat) (F : Nat → Prop) (S : Fs21) (c a p n : Int) (L : List Int) (e : Ending) (w' : World) : Prop :=
  ∃ ra rc, e = .returned (.tuple #[.slice ra (ca24 S c a p n L).1.length rc, .int .i64 (ca24 S c a p n L).2]) ∧ Seg w' ra (ca24 S c a p n L).1 ∧ (∀ k off, ra = some ⟨k, off, none⟩ → 0 < (ca24 S c a p n L).1.length → w.heap.size ≤ k) ∧ Fn21 w w' b F (ds21 S c a p n L)
theorem Tw24.ca {S S' : Fs21} (h : Tw24 S S') (hO : Ok21 S) (c a p n : Int) (L : List Int) : ca24 S' c a p n L = ca24 S c a p n L := by
  unfold ca24
  rw [h.rdE, h.erE, h.pgE, h.erV, h.rf, h.cuE, h.on, h.weV, h.ps]
  by_cases hr : rdE21 S a p n = 0
  · rw [h.rb hO a p n hr]
  · rw [if_neg hr, if_neg hr]
theorem Fn21.of_below {w w' : World} {b : Nat} {F : Nat → Prop} {S : Fs21} (h : Fl21 w b F S) (hb : Below w.heap.size w w') : Fn21 w w' b F S :=
  ⟨F, h.old hb, fun k e => .inl e, Kp.of_below hb⟩
theorem caq_nil24 {w w1 w2 : World} {b : Nat} {F : Nat → Prop} {S S' : Fs21} {c a p n E : Int} {L : List Int} (b1 : Below w.heap.size w w1) (hn : Fn21 w1 w2 b F S') (h : ca24 S c a p n L = ([], E)) (hd : ds21 S c a p n L = S') : CaQ24 w b F S c a p n L (.returned (.tuple #[.slice none 0 0, .int .i64 E])) w2 := by
  refine ⟨none, 0, by rw [h]; rfl, by rw [h]; exact SegK.nil (by decide) _ _, fun k off e => (by cases e), ?_⟩
  rw [hd]
  exact hn.from b1
theorem rb24_bd {S : Fs21} (h : By21 S) (x : Int) (a n : Nat) : ∀ z ∈ rb21 S x a n, 0 ≤ z ∧ z ≤ 255 := by
  intro z hz
  unfold rb21 at hz
  obtain ⟨i, -, rfl⟩ := List.mem_map.1 hz
  have hb := h x (((a + i) / S.pg : Nat) : Int)
  show 0 ≤ ((sh21 S x (((a + i) / S.pg : Nat) : Int)).b.getD ((a + i) % S.pg) 255) ∧ ((sh21 S x (((a + i) / S.pg : Nat) : Int)).b.getD ((a + i) % S.pg) 255) ≤ (255 : Int)
  generalize (sh21 S x (((a + i) / S.pg : Nat) : Int)).b = B at *
  generalize (a + i) % S.pg = r
  by_cases hl : r < B.length
  · have e : B.getD r 255 = B[r] := by simp [List.getD, hl]
    rw [e]; exact hb _ (List.getElem_mem hl)
  · have e : B.getD r 255 = 255 := by simp [List.getD, hl]
    rw [e]; decide
section
variable {w : World} {b : Nat} {F : Nat → Prop} {S : Fs21}
set_option maxRecDepth 100000 in
set_option maxHeartbeats 16000000 in
theorem pcall24 (hF : Fl21 w b F S) (hO : Ok21 S) (hlg : S.lg.length ≤ 5500000001000) (c a p n : Int) (ba : Option Addr) (L : List Int) (l bc : Nat) (hof : Of21 w ⟨c, a, p, n, ba, L, bc⟩) (hl : Hid (L.length = l)) :
    Calls Tryd.prog 20 #[.pointer (some ⟨b, 0, none⟩), .agg #[.int .i64 c, .int .i64 a, .int .i64 p, .int .i64 n, .slice ba l bc]] w fun e w' => CaQ24 w b F S c a p n L e w' := by
  obtain ⟨hs, hcap, hnil, hc, ha, hp, hn⟩ := hof
  simp only at hs hcap hnil hc ha hp hn
  obtain ⟨w1, hw1⟩ : ∃ w1, w1 = w.alloc (.cells #[.int .i64 c, .int .i64 a, .int .i64 p, .int .i64 n, .slice ba l bc] 40) := ⟨_, rfl⟩
  obtain ⟨g, hg⟩ : ∃ g, g = w.heap.size := ⟨_, rfl⟩
  have HW : Hid (w.alloc (.cells #[.int .i64 c, .int .i64 a, .int .i64 p, .int .i64 n, .slice ba l bc] 40) = w1 ∧ w.heap.size = g) := ⟨hw1.symm, hg.symm⟩
  have q1 : w1.heap[g]? = some (.cells #[.int .i64 c, .int .i64 a, .int .i64 p, .int .i64 n, .slice ba l bc] 40 (0, 0)) := by rw [hw1, hg]; exact heap_alloc_new _ _
  have b1 : Below w.heap.size w w1 := by rw [hw1]; exact (Below.refl _ _).alloc (Nat.le_refl _) _
  have hs1 : Seg w1 ba L := hs.old b1
  have hF1 : Fl21 w1 b F S := hF.old b1
  have HB1 : Hid (Below w.heap.size w w1 ∧ Fl21 w1 b F S ∧ L.length = l) := ⟨b1, hF1, hl.out⟩
  have d0 : w1.cell? ⟨g, 0, none⟩ = some (.int .i64 c) := by simp [World.cell?, q1]
  have d1 : w1.cell? ⟨g, 1, none⟩ = some (.int .i64 a) := by simp [World.cell?, q1]
  have d2 : w1.cell? ⟨g, 2, none⟩ = some (.int .i64 p) := by simp [World.cell?, q1]
  have d3 : w1.cell? ⟨g, 3, none⟩ = some (.int .i64 n) := by simp [World.cell?, q1]
  have d4 : w1.cell? ⟨g, 4, none⟩ = some (.slice ba l bc) := by simp [World.cell?, q1]
  have HC0 := pread21 hF1 hO a p n ha hp hn
  have HC1 := perase21 hF1 hO a p ha hp hlg
  have HC2 := pprog21 hF1 hO a p ha hp hlg ba L l bc hs1 hl hnil
  have HC3 := perd21 hF1 hO a p ha hp
  have HC4 := pcut21 hF1 hO n ba L l bc hs1 hl hnil
  have HC5 := ppow21 hF1 hO
  have HC6 := ptrn21 hF1 hO
  have HC7 := plim21 hF1 hO n
  have HC8 := pwear21 hF1 hO a p ha hp
  have hwe : 0 ≤ weV21 S a p ∧ weV21 S a p ≤ 1099511627776 := by
    unfold weV21
    split
    · omega
    · exact (sh21_ok hO a p).2
  clear hw1 hg q1 b1 hs1 hF1 hs hcap hnil hc ha hp hn hF
  by_cases h0 : c = 0
  · subst h0
    clear HC1 HC2 HC3 HC4 HC5 HC6 HC7 HC8
    as_aux_lemma =>
    go_enter Tryd.func20, Tryd.ntmps20
    go_wp2_with fail
    (try rw [HW.out.1])
    (try rw [HW.out.2])
    refine HC0.mono ?_
    rintro e w2 ⟨b2, h2⟩
    clear HC0
    rcases h2 with ⟨hE, rfl⟩ | ⟨hE, r, rfl, hr, hrw⟩
    · have H2 : Hid (rdE21 S a p n ≠ 0 ∧ Below w1.heap.size w1 w2) := ⟨hE, b2⟩
      obtain ⟨E, hEE⟩ : ∃ E, E = rdE21 S a p n := ⟨_, rfl⟩
      rw [← hEE]
      have HEE : Hid (E = rdE21 S a p n) := hEE
      clear hE b2 hEE
      go_wp2_with fail
      go_ret2
      exact caq_nil24 HB1.out.1 (Fn21.of_below HB1.out.2.1 H2.out.2) (by show (if rdE21 S a p n = 0 then _ else [], rdE21 S a p n) = _; rw [if_neg H2.out.1, HEE.out]) rfl
    · have H2 : Hid (rdE21 S a p n = 0 ∧ Below w1.heap.size w1 w2 ∧ w1.heap.size ≤ r ∧ Rw21 w2 r (rb21 S a p.toNat n.toNat)) := ⟨hE, b2, hr, hrw⟩
      obtain ⟨N, hN⟩ : ∃ N, N = n.toNat := ⟨_, rfl⟩
      rw [← hN]
      have HN : Hid (N = n.toNat) := hN
      clear hE b2 hr hrw hN
      go_wp2_with fail
      go_ret2
      obtain ⟨hE, b2, hr, hrw⟩ := H2.out
      have hca : ca24 S 0 a p n L = (rb21 S a p.toNat n.toNat, 0) := by show (if rdE21 S a p n = 0 then _ else [], rdE21 S a p n) = _; rw [if_pos hE, hE]
      have hlen : (rb21 S a p.toNat n.toNat).length = N := by rw [rb21_len, HN.out]
      have hE2 : Ending.returned (.tuple #[.slice (some ⟨r, 0, none⟩) N N, .int .i64 0]) = .returned (.tuple #[.slice (some ⟨r, 0, none⟩) (ca24 S 0 a p n L).1.length N, .int .i64 (ca24 S 0 a p n L).2]) := by rw [hca, hlen]
      refine ⟨some ⟨r, 0, none⟩, N, hE2, by rw [hca]; exact seg_rw22 hrw (rb24_bd HB1.out.2.1.by a p.toNat n.toNat), fun k off e _ => ?_, (Fn21.of_below HB1.out.2.1 b2).from HB1.out.1⟩
      injection e with e; injection e with e1 e2; subst e1; have := HB1.out.1.size; omega
  · by_cases h1 : c = 1
    · subst h1
      clear HC0 HC2 HC3 HC4 HC5 HC6 HC7 HC8
      as_aux_lemma =>
      go_enter Tryd.func20, Tryd.ntmps20
      go_wp2_with fail
      (try rw [HW.out.1])
      (try rw [HW.out.2])
      refine HC1.mono ?_
      rintro e w2 ⟨rfl, h2⟩
      clear HC1
      have H2 : Hid _ := h2
      go_wp2_with fail
      go_ret2
      exact caq_nil24 HB1.out.1 H2.out (by rfl) (by rfl)
    · by_cases h2 : c = 2
      · subst h2
        clear HC0 HC1 HC3 HC4 HC5 HC6 HC7 HC8
        as_aux_lemma =>
        go_enter Tryd.func20, Tryd.ntmps20
        go_wp2_with fail
        (try rw [HW.out.1])
        (try rw [HW.out.2])
        refine HC2.mono ?_
        rintro e w2 ⟨rfl, h2⟩
        clear HC2
        have H2 : Hid _ := h2
        go_wp2_with fail
        go_ret2
        exact caq_nil24 HB1.out.1 H2.out (by show ([], pgE21 S a p L.length) = _; rw [HB1.out.2.2]) (by rfl)
      · by_cases h3 : c = 3
        · subst h3
          clear HC0 HC1 HC2 HC4 HC5 HC6 HC7 HC8
          as_aux_lemma =>
          go_enter Tryd.func20, Tryd.ntmps20
          go_wp2_with fail
          (try rw [HW.out.1])
          (try rw [HW.out.2])
          refine HC3.mono ?_
          rintro e w2 ⟨rfl, b2⟩
          clear HC3
          have H2 : Hid (Below w1.heap.size w1 w2) := b2
          obtain ⟨T, hT⟩ : ∃ T, T = erV21 S a p := ⟨_, rfl⟩
          rw [← hT]
          have HT : Hid (T = erV21 S a p) := hT
          clear b2 hT
          cases T
          · go_wp2_with fail
            go_ret2
            exact caq_nil24 HB1.out.1 (Fn21.of_below HB1.out.2.1 H2.out) (by show (if erV21 S a p then [1] else [], _) = _; rw [← HT.out]; rfl) rfl
          · go_wp2_with fail
            go_ret2
            have hca : ca24 S 3 a p n L = ([1], rf21 S.on S.ps a p) := by show (if erV21 S a p then [1] else [], _) = _; rw [← HT.out]; rfl
            have b3 : Below w2.heap.size w2 (w2.alloc (.cells #[.int .u8 1] 5)) := (Below.refl _ _).alloc (Nat.le_refl _) _
            refine ⟨some ⟨w2.heap.size, 0, none⟩, 1, by rw [hca]; rfl, by rw [hca]; exact one_seg21 w2 1 (by decide), fun k off e _ => ?_, (Fn21.of_below HB1.out.2.1 (H2.out.trans (b3.mono H2.out.size))).from HB1.out.1⟩
            injection e with e; injection e with e1 e2; subst e1; have := HB1.out.1.size; have := H2.out.size; omega
        · by_cases h4 : c = 4
          · subst h4
            clear HC0 HC1 HC2 HC3 HC5 HC6 HC7 HC8
            as_aux_lemma =>
            go_enter Tryd.func20, Tryd.ntmps20
            go_wp2_with fail
            (try rw [HW.out.1])
            (try rw [HW.out.2])
            refine HC4.mono ?_
            rintro e w2 ⟨rfl, h2⟩
            clear HC4
            have H2 : Hid _ := h2
            go_wp2_with fail
            go_ret2
            exact caq_nil24 HB1.out.1 H2.out (by show ([], cuE21 S n L.length) = _; rw [HB1.out.2.2]) (by rfl)
          · by_cases h5 : c = 5
            · subst h5
              clear HC0 HC1 HC2 HC3 HC4 HC6 HC7 HC8
              as_aux_lemma =>
              go_enter Tryd.func20, Tryd.ntmps20
              go_wp2_with fail
              (try rw [HW.out.1])
              (try rw [HW.out.2])
              refine HC5.mono ?_
              rintro e w2 ⟨rfl, h2⟩
              clear HC5
              have H2 : Hid _ := h2
              go_wp2_with fail
              go_ret2
              exact caq_nil24 HB1.out.1 H2.out rfl rfl
            · by_cases h6 : c = 6
              · subst h6
                clear HC0 HC1 HC2 HC3 HC4 HC5 HC7 HC8
                as_aux_lemma =>
                go_enter Tryd.func20, Tryd.ntmps20
                go_wp2_with fail
                (try rw [HW.out.1])
                (try rw [HW.out.2])
                refine HC6.mono ?_
                rintro e w2 ⟨rfl, h2⟩
                clear HC6
                have H2 : Hid _ := h2
                go_wp2_with fail
                go_ret2
                exact caq_nil24 HB1.out.1 H2.out (by rfl) (by rfl)
              · by_cases h7 : c = 7
                · subst h7
                  clear HC0 HC1 HC2 HC3 HC4 HC5 HC6 HC8
                  as_aux_lemma =>
                  go_enter Tryd.func20, Tryd.ntmps20
                  go_wp2_with fail
                  (try rw [HW.out.1])
                  (try rw [HW.out.2])
                  refine HC7.mono ?_
                  rintro e w2 ⟨rfl, h2⟩
                  clear HC7
                  have H2 : Hid _ := h2
                  go_wp2_with fail
                  go_ret2
                  exact caq_nil24 HB1.out.1 H2.out (by rfl) (by rfl)
                · by_cases h8 : c = 8
                  · subst h8
                    clear HC0 HC1 HC2 HC3 HC4 HC5 HC6 HC7
                    as_aux_lemma =>
                    go_enter Tryd.func20, Tryd.ntmps20
                    go_wp2_with fail
                    (try rw [HW.out.1])
                    (try rw [HW.out.2])
                    refine HC8.mono ?_
                    rintro e w2 ⟨rfl, b2⟩
                    clear HC8
                    have H2 : Hid (Below w1.heap.size w1 w2) := b2
                    obtain ⟨T, hT⟩ : ∃ T, T = weV21 S a p := ⟨_, rfl⟩
                    rw [← hT] at hwe ⊢
                    have HT : Hid (T = weV21 S a p) := hT
                    clear b2 hT
                    go_wp2_with fail
                    go_ret2
                    have hca : ca24 S 8 a p n L = ([T % 256, T / 256 % 256], ms21 S.ps a p) := by rw [HT.out]; rfl
                    have b3 : Below w2.heap.size w2 (w2.alloc (.cells #[.int .u8 (T % 256), .int .u8 (T / 256 % 256)] 5)) := (Below.refl _ _).alloc (Nat.le_refl _) _
                    have hsg : Seg (w2.alloc (.cells #[.int .u8 (T % 256), .int .u8 (T / 256 % 256)] 5)) (some ⟨w2.heap.size, 0, none⟩) [T % 256, T / 256 % 256] := seg_lit w2 [T % 256, T / 256 % 256] 5 (0, 0) (by
                      intro z hz
                      simp only [List.mem_cons, List.not_mem_nil, or_false] at hz
                      rcases hz with rfl | rfl <;> omega)
                    refine ⟨some ⟨w2.heap.size, 0, none⟩, 2, by rw [hca]; rfl, by rw [hca]; exact hsg, fun k off e _ => ?_, (Fn21.of_below HB1.out.2.1 (H2.out.trans (b3.mono H2.out.size))).from HB1.out.1⟩
                    injection e with e; injection e with e1 e2; subst e1; have := HB1.out.1.size; have := H2.out.size; omega
                  · clear HC0 HC1 HC2 HC3 HC4 HC5 HC6 HC7 HC8
                    have H : Hid (¬ c = 0 ∧ ¬ c = 1 ∧ ¬ c = 2 ∧ ¬ c = 3 ∧ ¬ c = 4 ∧ ¬ c = 5 ∧ ¬ c = 6 ∧ ¬ c = 7 ∧ ¬ c = 8) := ⟨h0, h1, h2, h3, h4, h5, h6, h7, h8⟩
                    as_aux_lemma =>
                    go_enter Tryd.func20, Tryd.ntmps20
                    go_wp2_with fail
                    (try rw [HW.out.1])
                    go_ret2
                    obtain ⟨z0, z1, z2, z3, z4, z5, z6, z7, z8⟩ := H.out
                    exact caq_nil24 HB1.out.1 (Fn21.of_below HB1.out.2.1 (Below.refl _ _)) (by unfold ca24; rw [if_neg z0, if_neg z1, if_neg z2, if_neg z3, if_neg z4, if_neg z5, if_neg z6, if_neg z7, if_neg z8]) (by unfold ds21; rw [if_neg z1, if_neg z2, if_neg z4, if_neg z5, if_neg z6, if_neg z7])
end
end Go.Proofs.YtjoghmdjnkdokaaDoor

namespace Go.Proofs.YtjoghmdjnkdokaaDoor
open Go.ChangeShapes Go.WideShapes Go.ChangeAt Go.RowKit Go.Deep
set_option linter.unusedVariables false
set_option maxRecDepth 100000

/-! A script that came in, with how long its bytes may be. -/
theorem weightsAll_mem24 {H : Type} {P : Program} {e : TypeId} {d : DataW H} {n : Nat} (hn : n ∈ d.weights P e) : ∀ {l : List (DataW H)}, d ∈ l → n ∈ DataW.weightsAll P e l
  | d0 :: r, h => by
    simp only [DataW.weightsAll, List.mem_append]
    rcases List.mem_cons.1 h with rfl | h
    · exact .inl hn
    · exact .inr (weightsAll_mem24 hn h)
theorem bytes_u24 : Tryd.prog.bytesOf 5 = 1 := by kernel_rfl
theorem one_op21w {H : Type} {enc : TypeId × Value → H} {W : World} {n : Nat} {cs : List Value} {x : DataW H × List MemPlace} (h : DataW.trod enc Tryd.prog W 0 (fun _ => true) true n 40 cs = some x) (hl : cs.length = 5)
    (hw : ∀ m ∈ x.1.weights Tryd.prog 40, m ≤ reachBytes) :
    ∃ (o : Oq21), cs = [.int .i64 o.c, .int .i64 o.a, .int .i64 o.p, .int .i64 o.n, .slice o.ba o.b.length o.bc] ∧ Of21 W o ∧ o.b.length ≤ 140737488351232 := by
  obtain ⟨xs, k, _, hx, _, hxl, hf⟩ := DataW.trod_struct Tryd.underlying40 h
  match cs, hl with
  | [v0, v1, v2, v3, v4], _ =>
    match xs, hxl with
    | [y0, y1, y2, y3, y4], _ =>
      have g0 := hf 0 _ rfl
      have g1 := hf 1 _ rfl
      have g2 := hf 2 _ rfl
      have g3 := hf 3 _ rfl
      have g4 := hf 4 _ rfl
      simp [cells_in21, cells_sl21] at g0 g1 g2 g3 g4
      obtain ⟨V0, e0, _, w0⟩ := DataW.trod_int Tryd.underlying3 g0
      obtain ⟨V1, e1, _, w1⟩ := DataW.trod_int Tryd.underlying3 g1
      obtain ⟨V2, e2, _, w2⟩ := DataW.trod_int Tryd.underlying3 g2
      obtain ⟨V3, e3, _, w3⟩ := DataW.trod_int Tryd.underlying3 g3
      simp at e0 e1 e2 e3
      subst e0 e1 e2 e3
      obtain ⟨ba, p, bc, rfl, hs, hc, hn, hd⟩ := slc21 g4
      refine ⟨⟨V0, V1, V2, V3, ba, p, bc⟩, rfl, ⟨hs, hc, hn, bounds_i64 w0, bounds_i64 w1, bounds_i64 w2, bounds_i64 w3⟩, ?_⟩
      rcases hd with ⟨_, h0⟩ | ⟨elems, spare, h1, h2⟩
      · show p.length ≤ _; omega
      · have hm : (elems.length + spare.length) * Tryd.prog.bytesOf 5 ∈ x.1.weights Tryd.prog 40 := by
          rw [hx]
          simp only [DataW.weights, Tryd.underlying40]
          refine DataW.weights_mem_each (j := 4) (t := 22) (d := y4.1) rfl rfl _ ?_
          rw [h1]
          simp [DataW.weights, Tryd.underlying22]
        have := hw _ hm
        rw [bytes_u24] at this
        simp only [reachBytes] at this
        show p.length ≤ _
        omega
theorem open_script21w {H : Type} {enc : TypeId × Value → H} {W : World} {a : Option Addr} {len cap : Nat} {d : DataW H} {pl : List MemPlace}
    (h : DataW.Trod enc Tryd.prog W 0 (fun _ => true) true 25 (.slice a len cap) d pl) (hw : (d.weights Tryd.prog 25).all (· ≤ reachBytes) = true) :
    ∃ O : Nat → Oq21, Ss21 W a len O ∧ (∀ i, i < len → (O i).b.length ≤ 140737488351232) ∧ ((d = .nil ∧ len = 0) ∨ ∃ elems spare, d = .slice elems spare ∧ elems.length = len) := by
  obtain ⟨fuel, hf⟩ := h
  rcases open_slice Tryd.underlying25 hf with ⟨hcs, hx⟩ | ⟨x, l, c, m, n, D, Pl, hcs, _, hl, hm, hmm, hx, hat⟩
  · simp [Value.cells] at hcs
    obtain ⟨rfl, rfl, rfl⟩ := hcs
    simp only [Prod.mk.injEq] at hx
    exact ⟨fun _ => ⟨0, 0, 0, 0, none, [], 0⟩, ⟨fun i hi => by omega, fun i hi => by omega⟩, fun i hi => by omega, Or.inl ⟨hx.1, rfl⟩⟩
  · simp [Value.cells] at hcs
    obtain ⟨rfl, rfl, rfl⟩ := hcs
    simp only [Prod.mk.injEq] at hx
    simp only [if_true] at hmm
    subst hmm
    rw [cells_op21] at hat
    have hwi : ∀ i, i < len → ∀ y ∈ (D i).weights Tryd.prog 40, y ≤ reachBytes := fun i hi y hy => by
      rw [hx.1] at hw
      have hm : y ∈ DataW.weightsAll Tryd.prog 40 ((List.range len).map D) := weightsAll_mem24 hy (List.mem_map.2 ⟨i, List.mem_range.2 hi, rfl⟩)
      have := List.all_eq_true.1 hw y (by simp only [DataW.weights, Tryd.underlying25, List.mem_cons, List.mem_append]; exact .inr (.inl hm))
      simpa using this
    have key : ∀ i, i < len → ∃ o : Oq21, W.cell? (x.add (i * 5)) = some (.int .i64 o.c) ∧ W.cell? (x.add (i * 5 + 1)) = some (.int .i64 o.a) ∧ W.cell? (x.add (i * 5 + 2)) = some (.int .i64 o.p) ∧ W.cell? (x.add (i * 5 + 3)) = some (.int .i64 o.n) ∧ W.cell? (x.add (i * 5 + 4)) = some (.slice o.ba o.b.length o.bc) ∧ Of21 W o ∧ o.b.length ≤ 140737488351232 := by
      intro i hi
      obtain ⟨cs', h1, h2⟩ := hat i (by omega)
      obtain ⟨_, hlen, hcell⟩ := World.cells?_some h1
      obtain ⟨o, rfl, hO, hB⟩ := one_op21w h2 hlen (hwi i (by omega))
      have e0 := hcell 0 (by omega)
      have e1 := hcell 1 (by omega)
      have e2 := hcell 2 (by omega)
      have e3 := hcell 3 (by omega)
      have e4 := hcell 4 (by omega)
      rw [add_add] at e0 e1 e2 e3 e4
      exact ⟨o, by simpa using e0, by simpa using e1, by simpa using e2, by simpa using e3, by simpa using e4, hO, hB⟩
    haveI : Inhabited Oq21 := ⟨⟨0, 0, 0, 0, none, [], 0⟩⟩
    obtain ⟨q, hq⟩ := choose_lt key
    refine ⟨q, ⟨fun i hi => ?_, fun i hi => (hq i (by omega)).2.2.2.2.2.1⟩, fun i hi => (hq i (by omega)).2.2.2.2.2.2, Or.inr ⟨_, _, hx.1, by simp⟩⟩
    obtain ⟨h0, h1, h2, h3, h4, _⟩ := hq i (by omega)
    obtain ⟨b, off, spot⟩ := x
    have hs : spot = none := by
      obtain ⟨h5, _⟩ := hq 0 (by omega)
      simpa [Addr.add] using World.cell?_spot h5
    subst hs
    have hadd : ∀ j, (⟨b, off, none⟩ : Addr).add j = ⟨b, off + j, none⟩ := by intro j; unfold Addr.add; split <;> simp_all
    rw [hadd] at h0 h1 h2 h3 h4
    exact ⟨b, off, rfl, h0, by rw [Nat.add_assoc]; exact h1, by rw [Nat.add_assoc]; exact h2, by rw [Nat.add_assoc]; exact h3, by rw [Nat.add_assoc]; exact h4⟩
structure Sg21 (s : Su21) : Prop where
  n0 : s.a0 = none → s.k0 = 0
  n1 : s.a1 = none → s.k1 = 0
  b0 : s.l0.length ≤ 140737488351232
  b1 : s.l1.length ≤ 140737488351232
theorem open_setup21w {H : Type} {enc : TypeId × Value → H} {W : World} {r : Reach} {b0 : Nat} {v : Value} {d : DataW H} {pl : List MemPlace}
    (hv : Value.okWide Tryd.prog W r b0 24 v) (h : DataW.Trod enc Tryd.prog W 0 (fun _ => true) true 24 v d pl) (hw : (d.weights Tryd.prog 24).all (· ≤ reachBytes) = true) :
    ∃ s : Su21, v = .agg #[.int .i64 s.p, .int .i64 s.q, .int .i64 s.ac, .slice s.a0 s.l0.length s.k0, .slice s.a1 s.l1.length s.k1] ∧ Sf21 W s ∧ Sg21 s := by
  obtain ⟨cs, rfl, hsz⟩ := okWide_struct Tryd.underlying24 hv
  rw [cells_su21] at hsz
  obtain ⟨l⟩ := cs
  match l, hsz with
  | [u0, u1, u2, u3, u4], _ =>
    obtain ⟨fuel, hf⟩ := h
    obtain ⟨xs, kk, _, hd, _, hxl, hfl⟩ := DataW.trod_struct Tryd.underlying24 hf
    match xs, hxl with
    | [y0, y1, y2, y3, y4], _ =>
      have g0 := hfl 0 _ rfl
      have g1 := hfl 1 _ rfl
      have g2 := hfl 2 _ rfl
      have g3 := hfl 3 _ rfl
      have g4 := hfl 4 _ rfl
      simp [cells_in21, cells_sl21, Value.cells] at g0 g1 g2 g3 g4
      obtain ⟨V0, e0, _, w0⟩ := DataW.trod_int Tryd.underlying3 g0
      obtain ⟨V1, e1, _, w1⟩ := DataW.trod_int Tryd.underlying3 g1
      obtain ⟨V2, e2, _, w2⟩ := DataW.trod_int Tryd.underlying3 g2
      simp at e0 e1 e2
      subst e0 e1 e2
      obtain ⟨ba, p, bc, rfl, hs, hc, hn, hq⟩ := slc21 g3
      obtain ⟨ba', p', bc', rfl, hs', hc', hn', hq'⟩ := slc21 g4
      have key : ∀ (j : Nat) (y : DataW H × List MemPlace) (m : Nat), ((j = 3 ∧ y = y3) ∨ (j = 4 ∧ y = y4)) → ((y.1 = .nil ∧ m = 0) ∨ ∃ elems spare, y.1 = .slice elems spare ∧ elems.length = m) → m ≤ 140737488351232 := by
        intro j y m hj hm
        rcases hm with ⟨_, h0⟩ | ⟨elems, spare, h1, h2⟩
        · omega
        · have hmm : (elems.length + spare.length) * Tryd.prog.bytesOf 5 ∈ d.weights Tryd.prog 24 := by
            have hd' := congrArg Prod.fst hd
            simp only at hd'
            rw [hd']
            simp only [DataW.weights, Tryd.underlying24]
            refine DataW.weights_mem_each (j := j) (t := 22) (d := y.1) ?_ ?_ _ ?_
            · rcases hj with ⟨rfl, _⟩ | ⟨rfl, _⟩ <;> rfl
            · rcases hj with ⟨rfl, rfl⟩ | ⟨rfl, rfl⟩ <;> rfl
            · rw [h1]; simp [DataW.weights, Tryd.underlying22]
          have := List.all_eq_true.1 hw _ hmm
          rw [bytes_u24] at this
          simp [reachBytes] at this
          omega
      exact ⟨⟨V0, V1, V2, ba, p, bc, ba', p', bc'⟩, rfl, ⟨hs, hs', hc, hc', bounds_i64 w0, bounds_i64 w1, bounds_i64 w2⟩, ⟨hn, hn', key 3 y3 _ (.inl ⟨rfl, rfl⟩) hq, key 4 y4 _ (.inr ⟨rfl, rfl⟩) hq'⟩⟩
end Go.Proofs.YtjoghmdjnkdokaaDoor
