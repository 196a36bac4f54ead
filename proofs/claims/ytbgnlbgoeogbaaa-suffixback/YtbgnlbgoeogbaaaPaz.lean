import Derived.Test.YtbgnlbgoeogbaaaPay
import Derived.Test.YtbgnlbgoeogbaaaPas
namespace Go.Proofs.Ytbgnlbgoeogbaaa
open Go.RowKit
set_option linter.unusedVariables false

/-! SuffixTurns: the walk. -/
theorem TV13.len24 {z : List Int} {n : Nat} {x : List Int} {te er : Int} (h : TV13 z n x te er) : x.length ≤ 16777216 := by
  rcases h with ⟨h1, A, h2, rfl, rfl, rfl⟩ | ⟨h1, rfl, rfl, rfl⟩
  · rw [tn13_all h2]; exact h1
  · exact Nat.zero_le _
set_option maxRecDepth 100000 in
set_option maxHeartbeats 8000000 in
theorem suffixTurns_walk (w : World) (a : Option Addr) (z : List Int) (ca : Nat) (hs : Seg w a z) (hc : z.length ≤ ca) (hnil : a = none → ca = 0) (hl : z.length ≤ 140737488351232) (pa : Option Addr) (p : List Int) (pc : Nat) (hp : Seg w pa p) (hpc : p.length ≤ pc) (hpn : pa = none → pc = 0) (hpl : p.length ≤ 140737488351232) (t : Int) (ht0 : -9223372036854775808 ≤ t) (ht1 : t ≤ 9223372036854775807) :
    Calls Try.prog 7 #[.slice a z.length ca, .slice pa p.length pc, .int .i64 t] w fun e w' => e = .returned (.bool true) ∧ Below w.heap.size w w' := by
  have HSD : Hid (∀ W, Below w.heap.size w W → Seg W a z) := fun W b => hs.old b
  have HSP : Hid (∀ W, Below w.heap.size w W → Seg W pa p) := fun W b => hp.old b
  have HLD := lend_any a z ca w hs hnil hl
  have HLP : Hid (∀ W, Below w.heap.size w W → Calls Try.prog 23 #[.slice pa p.length pc] W fun e w' => ∃ g cap', e = .returned (.tuple #[.slice (some ⟨g, 0, none⟩) (p.length + 5) cap', .slice (some ⟨g, 0, none⟩) p.length cap']) ∧ w'.ownsRow W.heap.size 5 1 (.slice (some ⟨g, 0, none⟩) (p.length + 5) cap') (p.length + 5) ((lentL p).map (Value.int .u8)) ∧ Below W.heap.size W w') := fun W hb => lend_any pa p pc W (hp.old hb) hpn hpl
  have HKP : Hid (∀ W g cap', Below w.heap.size w W → Seg W (some ⟨g, 0, none⟩) (lentL z) → Calls Try.prog 27 #[.slice (some ⟨g, 0, none⟩) (z.length + 5) cap', .slice a z.length ca] W fun e w' => e = .returned (.bool true) ∧ Below W.heap.size W w') := fun W g cap' hb sg => by
    have h5 := kept_any a (some ⟨g, 0, none⟩) (lentL z) z cap' ca W sg (hs.old hb) hnil hl
    have e5 : (lentL z).length = z.length + 5 := by simp [lentL]
    rw [e5] at h5
    refine h5.mono ?_
    rintro e w' ⟨rfl, hB⟩
    exact ⟨by simp, hB⟩
  have HKQ : Hid (∀ W g cap', Below w.heap.size w W → Seg W (some ⟨g, 0, none⟩) (lentL p) → Calls Try.prog 27 #[.slice (some ⟨g, 0, none⟩) (p.length + 5) cap', .slice pa p.length pc] W fun e w' => e = .returned (.bool true) ∧ Below W.heap.size W w') := fun W g cap' hb sg => by
    have h5 := kept_any pa (some ⟨g, 0, none⟩) (lentL p) p cap' pc W sg (hp.old hb) hpn hpl
    have e5 : (lentL p).length = p.length + 5 := by simp [lentL]
    rw [e5] at h5
    refine h5.mono ?_
    rintro e w' ⟨rfl, hB⟩
    exact ⟨by simp, hB⟩
  have HV : Hid (∀ y ∈ z, 0 ≤ y ∧ y ≤ 255) := seg_bd13 hs
  have HVP : Hid (∀ y ∈ p, 0 ≤ y ∧ y ≤ 255) := seg_bd13 hp
  have HSM : Hid (∀ W xa xc ya yc (u : List Int), Seg W xa u → Seg W ya u → Calls Try.prog 26 #[.slice xa u.length xc, .slice ya u.length yc] W fun e w' => e = .returned (.bool true) ∧ w' = W) := fun W xa xc ya yc u s1 s2 => by
    refine (bsame_any xa ya u u xc yc W s1 s2).mono ?_
    rintro e w' ⟨rfl, hB⟩
    exact ⟨by simp, hB⟩
  clear hs hp
  generalize hn0 : z.length = n at *
  have hn : Hid (z.length = n) := hn0
  generalize hm0 : p.length = m at *
  have hm : Hid (p.length = m) := hm0
  clear hn0 hm0
  obtain ⟨ux, uer, hul, hub, HU1, HU2⟩ := unt13_all p m hm.out HVP.out t hpl
  have HUL : Hid (∀ y ∈ ux, 0 ≤ y ∧ y ≤ 255) := hub
  have HUP : Hid (∀ W a cap, Seg W a p → Calls Try.prog 29 #[.slice a m cap, .int .i64 t] W (UuQ13 W ux uer)) := HU1
  have HUR : Hid (∀ W a cap, Seg W a p → Calls Try.prog 30 #[.slice a m cap, .int .i64 t] W (UuQ13 W ux uer)) := HU2
  clear hub HU1 HU2 hul
  go_enter Try.func7, Try.ntmps7
  go_wp2_with (first
    | (go_at_call 23; refine HLD.mono ?_; rintro e1 w1 ⟨gL, cL, rfl, o1, B1⟩; clear HLD)
    | (go_at_call 24; fail))
  have sL := own_seg13 o1 (lent_bd HV.out)
  have sP : Seg w1 (some ⟨gL, 0, none⟩) z := by have h5 := sL; unfold lentL at h5; have := h5.take z.length; simpa using this
  refine (pturnU13 (some ⟨gL, 0, none⟩) z n cL w1 sP hn hl).mono ?_
  rintro e2 w2 ⟨x, te, er, hTV, ra2, rc2, rfl, o2, B2⟩
  have C2 := pturnU13 (some ⟨gL, 0, none⟩) z n cL w2 (sP.old B2) hn hl
  go_wp2_with (first
    | (go_at_call 24; fail))
  refine C2.mono ?_
  rintro e3 w3 ⟨x', te', er', hTV', ra3, rc3, rfl, o3, B3⟩
  obtain ⟨rfl, rfl, rfl⟩ := hTV.unique hTV'
  have D2 := B1.trans (B2.mono B1.size)
  have D3 := D2.trans (B3.mono D2.size)
  have C3 := rturnU13 a z n ca x te er w3 (HSD.out w3 D3) hc hn hl hTV
  have HXB : Hid (∀ y ∈ x, 0 ≤ y ∧ y ≤ 255) := hTV.bd HV.out
  have hxl := hTV.len24
  clear hTV hTV' C2
  go_wp2_with (first
    | (go_at_call 25; fail))
  refine C3.mono ?_
  rintro e4 w4 ⟨ra4, rc4, rfl, o4, B4⟩
  clear C3
  have D4 := D3.trans (B4.mono D3.size)
  have s2 := own_seg13 (own_below (own_below o2 B3) B4) HXB.out
  have s3 := own_seg13 (own_below o3 B4) HXB.out
  have s4 := own_seg13 o4 HXB.out
  have sL4 := ((sL.old B2).old B3).old B4
  have M1 := HSM.out w4 ra2 rc2 ra4 rc4 x s2 s4
  have M2 := HSM.out w4 ra3 rc3 ra4 rc4 x s3 s4
  have K4 := HKP.out w4 gL cL D4 sL4
  have r2 : Row 5 w4 w1.heap.size (.slice ra2 x.length rc2) x := own_below (own_below o2 B3) B4
  have r3 : Row 5 w4 w2.heap.size (.slice ra3 x.length rc3) x := own_below o3 B4
  have hap : Ap (Value.slice ra2 x.length rc2).ownBlock (Value.slice ra3 x.length rc3).ownBlock := ap_of (eT := 5) o2 (Nat.le_refl _) o3 (Nat.le_refl _)
  have z1 := B1.size
  have z2 := B2.size
  have z3 := B3.size
  have z4 := B4.size
  have HOW : Hid (∀ W, Below w4.heap.size w4 W → Calls Try.prog 28 #[.slice (some ⟨W.heap.size, 0, none⟩) 2 2] (W.alloc (.cells #[.slice ra2 x.length rc2, .slice ra3 x.length rc3] 41)) fun e w' => e = .returned (.bool true) ∧ Below w.heap.size W w') := fun W hb =>
    own_two w.heap.size _ _ x x W (row_base (row_below r2 hb) (by omega)) (row_base (row_below r3 hb) (by omega)) hap (by omega) (by omega) (by have := hb.size; omega)
  clear s2 s3 s4 sL4 sL sP o1 o2 o3 o4 r2 r3 hap z1 z2 z3 z4 B1 B2 B3 B4 D2 D3 HKP
  generalize x.length = xl at *
  go_wp2_with (first
    | (go_at_call 26; refine M1.mono ?_; rintro e5 w5 ⟨rfl, hw5⟩; subst hw5; clear M1)
    | (go_at_call 26; refine M2.mono ?_; rintro e6 w6 ⟨rfl, hw6⟩; subst hw6; clear M2)
    | (go_at_call 27; refine K4.mono ?_; rintro e7 w7 ⟨rfl, B7⟩; clear K4)
    | (go_at_call 28; refine (HOW.out w7 B7).mono ?_; rintro e8 w8 ⟨rfl, B8⟩; clear HOW)
    | (go_at_call 23; fail))
  have D8 := (D4.trans (B7.mono D4.size)).trans B8
  refine (HLP.out w8 D8).mono ?_
  rintro e9 w9 ⟨gM, cM, rfl, o9, B9⟩
  have sM := own_seg13 o9 (lent_bd HVP.out)
  have sQ : Seg w9 (some ⟨gM, 0, none⟩) p := by have h5 := sM; unfold lentL at h5; have := h5.take p.length; simpa using this
  have C9 := HUP.out w9 (some ⟨gM, 0, none⟩) cM sQ
  have D9 := D8.trans (B9.mono D8.size)
  clear HLP sQ o9
  go_wp2_with (first
    | (go_at_call 29; fail))
  refine C9.mono ?_
  rintro e10 w10 ⟨ra10, rc10, rfl, o10, B10⟩
  clear C9
  have D10 := D9.trans (B10.mono D9.size)
  have C10 := HUR.out w10 pa pc (HSP.out w10 D10)
  go_wp2_with (first
    | (go_at_call 30; fail))
  refine C10.mono ?_
  rintro e11 w11 ⟨ra11, rc11, rfl, o11, B11⟩
  have D11 := D10.trans (B11.mono D10.size)
  have M3 := HSM.out w11 ra10 rc10 ra11 rc11 ux (own_seg13 (own_below o10 B11) HUL.out) (own_seg13 o11 HUL.out)
  have K11 := HKQ.out w11 gM cM D11 ((sM.old B10).old B11)
  clear C10 o10 o11 sM HKQ
  generalize ux.length = ul at *
  go_wp2_with (first
    | (go_at_call 26; refine M3.mono ?_; rintro e12 w12 ⟨rfl, hw12⟩; subst hw12; clear M3)
    | (go_at_call 27; refine K11.mono ?_; rintro e13 w13 ⟨rfl, B13⟩; clear K11)
    | (go_at_call 31; refine (plives13 _).mono ?_; rintro e14 w14 ⟨rfl, B14⟩))
  go_ret
  have D13 := D11.trans (B13.mono D11.size)
  exact ⟨rfl, D13.trans (B14.mono D13.size)⟩
end Go.Proofs.Ytbgnlbgoeogbaaa

namespace Go.Proofs.Ytbgnlbgoeogbaaa
set_option linter.unusedVariables false

/-! Unturn of Turn, pure; the bytes of the one are those of the other. -/
theorem cut13 {f : Nat → Nat} {n : Nat} (hf : ∀ k, k < n → f k < n) (hi : ∀ i j, i < n → j < n → f i = f j → i = j) : ∀ v, v ≤ n → cn12 (fun j => f j < v) n = v
  | 0, _ => cn12_none fun j _ h => by omega
  | v + 1, hv => by
    obtain ⟨k, hk, hfk⟩ := onto13 hf hi (y := v) (by omega)
    rw [cn12_upd (P := fun j => f j < v) (Q := fun j => f j < v + 1) (j := k) hk (by omega) (fun j hj => by
      constructor
      · intro h
        by_cases c : f j = v
        · exact Or.inr (hi j k hj hk (c.trans hfk.symm))
        · exact Or.inl (by omega)
      · rintro (h | h)
        · omega
        · subst h; omega), cut13 hf hi v (by omega)]
/-- Two ways to number that order alike are the same. -/
theorem like13 {f g : Nat → Nat} {n : Nat} (hf : ∀ k, k < n → f k < n) (hfi : ∀ i j, i < n → j < n → f i = f j → i = j) (hg : ∀ k, k < n → g k < n) (hgi : ∀ i j, i < n → j < n → g i = g j → i = j) (h : ∀ i j, i < n → j < n → (f i < f j ↔ g i < g j)) {k : Nat} (hk : k < n) : f k = g k := by
  have h1 := cut13 hf hfi (f k) (Nat.le_of_lt (hf k hk))
  have h2 := cut13 hg hgi (g k) (Nat.le_of_lt (hg k hk))
  rw [← h1, ← h2]
  exact cn12_congr fun j hj => h j k hj hk
theorem moved13 {f : Nat → Nat} {n : Nat} (hf : ∀ k, k < n → f k < n) (hi : ∀ i j, i < n → j < n → f i = f j → i = j) (P : Nat → Prop) : ∀ m, m ≤ n → cn12 (fun i => P (f i)) m = cn12 (fun y => P y ∧ ∃ k, k < m ∧ f k = y) n
  | 0, _ => by
    rw [cn12_none (P := fun y => P y ∧ ∃ k, k < 0 ∧ f k = y) (fun y _ ⟨_, k, hk, _⟩ => by omega)]
    rfl
  | m + 1, hm => by
    have ih := moved13 hf hi P m (by omega)
    by_cases c : P (f m)
    · have stp : cn12 (fun i => P (f i)) (m + 1) = cn12 (fun i => P (f i)) m + 1 := by simp [cn12, c]
      rw [stp, ih]
      rw [cn12_upd (P := fun y => P y ∧ ∃ k, k < m ∧ f k = y) (Q := fun y => P y ∧ ∃ k, k < m + 1 ∧ f k = y) (j := f m) (hf m (by omega)) (fun ⟨_, k, hk, he⟩ => by have := hi k m (by omega) (by omega) he; omega) (fun y _ => by
        constructor
        · rintro ⟨h1, k, hk, he⟩
          by_cases c2 : k = m
          · subst c2; exact Or.inr he.symm
          · exact Or.inl ⟨h1, k, by omega, he⟩
        · rintro (⟨h1, k, hk, he⟩ | h1)
          · exact ⟨h1, k, by omega, he⟩
          · subst h1; exact ⟨c, m, by omega, rfl⟩)]
    · have stp : cn12 (fun i => P (f i)) (m + 1) = cn12 (fun i => P (f i)) m := by simp [cn12, c]
      rw [stp, ih]
      refine cn12_congr fun y _ => ?_
      constructor
      · rintro ⟨h1, k, hk, he⟩
        exact ⟨h1, k, by omega, he⟩
      · rintro ⟨h1, k, hk, he⟩
        by_cases c2 : k = m
        · subst c2; rw [he] at c; exact absurd h1 c
        · exact ⟨h1, k, by omega, he⟩
theorem move13 {f : Nat → Nat} {n : Nat} (hf : ∀ k, k < n → f k < n) (hi : ∀ i j, i < n → j < n → f i = f j → i = j) (P : Nat → Prop) : cn12 (fun i => P (f i)) n = cn12 P n := by
  rw [moved13 hf hi P n (Nat.le_refl _)]
  refine cn12_congr fun y hy => ?_
  constructor
  · exact fun h => h.1
  · intro h
    obtain ⟨k, hk, he⟩ := onto13 hf hi hy
    exact ⟨h, k, hk, he⟩
/-- The row of the suffix of k bytes. -/
def qr13 (n : Nat) (A : List Nat) (k : Nat) : Nat := if k = 0 then 0 else rk13 A (n - k) + 1
theorem qr13_le {n : Nat} {S : Nat → Int} {A : List Nat} (h : Ar12 n S A) {k : Nat} (hk : k ≤ n) : qr13 n A k ≤ n := by
  unfold qr13
  split
  · omega
  · have := (h.rk (j := n - k) (by omega)).1
    omega
theorem qr13_row {n : Nat} {S : Nat → Int} {A : List Nat} (h : Ar12 n S A) {k : Nat} (hk : k ≤ n) : (n :: A).getD (qr13 n A k) 0 = n - k := by
  unfold qr13
  split
  · next c => subst c; rfl
  · exact (h.rk (j := n - k) (by omega)).2
theorem qr13_inj {n : Nat} {S : Nat → Int} {A : List Nat} (h : Ar12 n S A) {i j : Nat} (hi : i ≤ n) (hj : j ≤ n) (e : qr13 n A i = qr13 n A j) : i = j := by
  have h1 := qr13_row h hi
  have h2 := qr13_row h hj
  rw [e] at h1
  omega
theorem qr13_end {n : Nat} {S : Nat → Int} {A : List Nat} (h : Ar12 n S A) : qr13 n A n = te13 n A := by
  have h1 := qr13_row h (Nat.le_refl n)
  rw [Nat.sub_self] at h1
  exact (te13_iff h (qr13_le h (Nat.le_refl n))).1 h1
theorem qr13_lt {n : Nat} {S : Nat → Int} {A : List Nat} (h : Ar12 n S A) {i j : Nat} (hi : i ≤ n) (hj : j ≤ n) : qr13 n A i < qr13 n A j ↔ Ls12 n S (n - i) (n - j) := by
  have key : ∀ i j, i ≤ n → j ≤ n → qr13 n A i < qr13 n A j → Ls12 n S (n - i) (n - j) := by
    intro i j hi hj hlt
    by_cases c : i = 0
    · subst c
      have : j ≠ 0 := by intro e; subst e; omega
      exact .fin (by omega) (by omega)
    · have cj : j ≠ 0 := by intro e; subst e; simp [qr13] at hlt
      unfold qr13 at hlt
      rw [if_neg c, if_neg cj] at hlt
      obtain ⟨a1, a2⟩ := h.rk (j := n - i) (by omega)
      obtain ⟨b1, b2⟩ := h.rk (j := n - j) (by omega)
      have h5 := h.pair (r := rk13 A (n - i)) (q := rk13 A (n - j)) (by omega) b1
      rw [a2, b2] at h5
      exact h5
  refine ⟨key i j hi hj, fun hL => ?_⟩
  rcases Nat.lt_trichotomy (qr13 n A i) (qr13 n A j) with c | c | c
  · exact c
  · have := qr13_inj h hi hj c
    subst this
    exact hL.irrefl.elim
  · exact (hL.asymm (key j i hj hi c)).elim
/-- What stands in a row's last. -/
theorem tn13_at {z : List Int} {n : Nat} {S : Nat → Int} {A : List Nat} (h : Ar12 n S A) {r : Nat} (hr : r ≤ n) (hne : r ≠ te13 n A) : (tn13 z (n :: A)).getD (la13 (te13 n A) r) 0 = z.getD ((n :: A).getD r 0 - 1) 0 := by
  have h1 := tn13_take z (n :: A) r (by simp [h.len]; omega)
  have h0 : ¬ (n :: A).getD r 0 = 0 := fun c => hne ((te13_iff h hr).1 c)
  rw [if_neg h0] at h1
  have hl := tn13_len (z := z) h r (by omega)
  have hsplit : tn13 z (n :: A) = tn13 z ((n :: A).take (r + 1)) ++ tn13 z ((n :: A).drop (r + 1)) := by
    conv => lhs; rw [← List.take_append_drop (r + 1) (n :: A)]
    unfold tn13
    rw [List.flatMap_append]
  rw [hsplit, h1, ← hl]
  simp [List.getD]
theorem back13 {z : List Int} {n : Nat} {A : List Nat} (hz : z.length = n) (h : Ar12 n (S12 z) A) : Wk13 (S12 (tn13 z (n :: A))) n (te13 n A) ∧ Rd13 (S12 (tn13 z (n :: A))) n (te13 n A) z ∧ ∀ k, k ≤ n → rw13 (S12 (tn13 z (n :: A))) n (te13 n A) k = qr13 n A k := by
  have hne : ∀ k, k < n → qr13 n A k ≠ te13 n A := fun k hk e => by
    rw [← qr13_end h] at e
    have := qr13_inj h (by omega) (Nat.le_refl n) e
    omega
  have hB : ∀ k, k < n → S12 (tn13 z (n :: A)) (la13 (te13 n A) (qr13 n A k)) = S12 z (n - 1 - k) := fun k hk => by
    have h1 := tn13_at (z := z) h (qr13_le h (by omega)) (hne k hk)
    rw [qr13_row h (by omega)] at h1
    rw [show n - k - 1 = n - 1 - k by omega] at h1
    exact h1
  have hla : ∀ k, k < n → la13 (te13 n A) (qr13 n A k) < n := fun k hk => la13_lt (te13_le h) (qr13_le h (by omega)) (hne k hk)
  have hlt : ∀ i j, i < n → j < n → (nx13 (S12 (tn13 z (n :: A))) n (la13 (te13 n A) (qr13 n A i)) < nx13 (S12 (tn13 z (n :: A))) n (la13 (te13 n A) (qr13 n A j)) ↔ qr13 n A (i + 1) < qr13 n A (j + 1)) := by
    intro i j hi hj
    rw [nx13_lt (hla i hi) (hla j hj), qr13_lt h (by omega) (by omega)]
    unfold lt13
    rw [hB i hi, hB j hj, la13_mono (hne i hi) (hne j hj), qr13_lt h (by omega) (by omega)]
    rw [show n - (i + 1) = n - 1 - i by omega, show n - (j + 1) = n - 1 - j by omega]
    constructor
    · rintro (c | ⟨c, d⟩)
      · exact .lt (by omega) (by omega) c
      · refine .eq (by omega) (by omega) c ?_
        rw [show n - 1 - i + 1 = n - i by omega, show n - 1 - j + 1 = n - j by omega]
        exact d
    · intro c
      by_cases e : S12 z (n - 1 - i) = S12 z (n - 1 - j)
      · refine Or.inr ⟨e, ?_⟩
        have := c.tail (by omega) e
        rw [show n - 1 - i + 1 = n - i by omega, show n - 1 - j + 1 = n - j by omega] at this
        exact this
      · cases c with
        | fin a1 a2 => omega
        | lt _ _ c => exact Or.inl c
        | eq _ _ c _ => exact absurd c e
  have hlai : ∀ i j, i < n → j < n → la13 (te13 n A) (qr13 n A i) = la13 (te13 n A) (qr13 n A j) → i = j := fun i j hi hj e => by
    have m1 := la13_mono (hne i hi) (hne j hj)
    have m2 := la13_mono (hne j hj) (hne i hi)
    exact qr13_inj h (by omega) (by omega) (by omega)
  have step : ∀ k, k < n → nx13 (S12 (tn13 z (n :: A))) n (la13 (te13 n A) (qr13 n A k)) = qr13 n A (k + 1) := by
    intro k hk
    have hp : ∀ k, k < n → 1 ≤ nx13 (S12 (tn13 z (n :: A))) n (la13 (te13 n A) (qr13 n A k)) := fun k _ => by unfold nx13; omega
    have hq : ∀ k, 1 ≤ qr13 n A (k + 1) := fun k => by unfold qr13; rw [if_neg (by omega)]; omega
    have e1 := like13 (f := fun k => nx13 (S12 (tn13 z (n :: A))) n (la13 (te13 n A) (qr13 n A k)) - 1) (g := fun k => qr13 n A (k + 1) - 1) (n := n)
      (fun k hk => by have := nx13_le (B := S12 (tn13 z (n :: A))) (hla k hk); have := hp k hk; show nx13 _ _ _ - 1 < n; omega)
      (fun i j hi hj e => by
        have e' : nx13 (S12 (tn13 z (n :: A))) n (la13 (te13 n A) (qr13 n A i)) - 1 = nx13 (S12 (tn13 z (n :: A))) n (la13 (te13 n A) (qr13 n A j)) - 1 := e
        have a1 := hlt i j hi hj
        have a2 := hlt j i hj hi
        have p1 := hp i hi
        have p2 := hp j hj
        have := qr13_inj h (i := i + 1) (j := j + 1) (by omega) (by omega) (by omega)
        omega)
      (fun k hk => by have := qr13_le h (k := k + 1) (by omega); have := hq k; show qr13 _ _ _ - 1 < n; omega)
      (fun i j hi hj e => by
        have e' : qr13 n A (i + 1) - 1 = qr13 n A (j + 1) - 1 := e
        have q1 := hq i
        have q2 := hq j
        have := qr13_inj h (i := i + 1) (j := j + 1) (by omega) (by omega) (by omega)
        omega)
      (fun i j hi hj => by
        have a1 := hlt i j hi hj
        have p1 := hp i hi
        have p2 := hp j hj
        have q1 := hq i
        have q2 := hq j
        show nx13 _ _ _ - 1 < nx13 _ _ _ - 1 ↔ qr13 _ _ _ - 1 < qr13 _ _ _ - 1
        omega) hk
    have e2 : nx13 (S12 (tn13 z (n :: A))) n (la13 (te13 n A) (qr13 n A k)) - 1 = qr13 n A (k + 1) - 1 := e1
    have := hp k hk
    have := hq k
    omega
  have hrw : ∀ k, k ≤ n → rw13 (S12 (tn13 z (n :: A))) n (te13 n A) k = qr13 n A k := by
    intro k
    induction k with
    | zero => intro _; rfl
    | succ k ih =>
      intro hk
      show nx13 _ _ (la13 _ (rw13 _ _ _ k)) = _
      rw [ih (by omega)]
      exact step k (by omega)
  refine ⟨⟨te13_le h, fun k hk => by rw [hrw k (by omega)]; exact hne k hk⟩, ⟨hz, fun k hk => ?_⟩, hrw⟩
  unfold rc13
  rw [hrw k (by omega), hB k hk]
  rfl
/-- Turn moves bytes about. -/
theorem same13_count {z : List Int} {n : Nat} {A : List Nat} (hz : z.length = n) (h : Ar12 n (S12 z) A) (v : Int) : cn12 (fun i => S12 z i = v) n = cn12 (fun i => S12 (tn13 z (n :: A)) i = v) n := by
  obtain ⟨hW, hR, hrw⟩ := back13 hz h
  have h1 := move13 (f := fun i => la13 (te13 n A) (rw13 (S12 (tn13 z (n :: A))) n (te13 n A) (n - 1 - i))) (n := n)
    (fun k hk => la13_lt hW.le (hW.bd _ (by omega)) (hW.run _ (by omega)))
    (fun i j hi hj e => by
      have e' : la13 (te13 n A) (rw13 (S12 (tn13 z (n :: A))) n (te13 n A) (n - 1 - i)) = la13 (te13 n A) (rw13 (S12 (tn13 z (n :: A))) n (te13 n A) (n - 1 - j)) := e
      have m1 := la13_mono (hW.run (n - 1 - i) (by omega)) (hW.run (n - 1 - j) (by omega))
      have m2 := la13_mono (hW.run (n - 1 - j) (by omega)) (hW.run (n - 1 - i) (by omega))
      have := hW.inj (n - 1 - i) (n - 1 - j) (by omega) (by omega) (by omega)
      omega)
    (fun y => S12 (tn13 z (n :: A)) y = v)
  rw [← h1]
  refine cn12_congr fun i hi => ?_
  have h2 := hR.at_ (n - 1 - i) (by omega)
  rw [show n - 1 - (n - 1 - i) = i by omega] at h2
  have h3 : S12 z i = S12 (tn13 z (n :: A)) (la13 (te13 n A) (rw13 (S12 (tn13 z (n :: A))) n (te13 n A) (n - 1 - i))) := h2
  rw [h3]
end Go.Proofs.Ytbgnlbgoeogbaaa
