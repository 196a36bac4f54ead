import Derived.Test.YtbjjddoeilhomaaPt
import Derived.Test.YtbjjddoeilhomaaPx
namespace Go.Proofs.Ytbjjddoeilhomaa
open Go.RowKit
set_option linter.unusedVariables false

/-! The document's alike, within, Forward, Backward, Split. -/
set_option maxRecDepth 100000 in
set_option maxHeartbeats 2000000 in
theorem ralk15 (xa : Option Addr) (X : List Int) (lx cx : Nat) (ya : Option Addr) (Y : List Int) (ly cy n : Nat) (w : World) (hx : Seg w xa X) (hy : Seg w ya Y) (hlx : Hid (X.length = lx)) (hly : Hid (Y.length = ly)) (h1 : n ≤ lx) (h2 : n ≤ ly) (hb : n ≤ 140737488351232) :
    Calls Try.prog 36 #[.slice xa lx cx, .slice ya ly cy, .int .i64 (n : Int)] w fun e w' => e = .returned (.int .i64 ((al15 (fun i => X.getD i 0 == Y.getD i 0) n : Nat) : Int)) ∧ ∃ d, w' = w.drewN d := by
  have KEY : Hid (∀ wr, (∃ d, wr = w.drewN d) → Seg wr xa X ∧ Seg wr ya Y) := by
    rintro wr ⟨d, rfl⟩
    exact ⟨hx.drewN d, hy.drewN d⟩
  have HA : Hid (∀ i, al15 (fun i => X.getD i 0 == Y.getD i 0) (i + 1) = al15 (fun i => X.getD i 0 == Y.getD i 0) i + (if (X.getD i 0 == Y.getD i 0) then 1 else 0)) := fun i => rfl
  have HL : Hid (∀ i, al15 (fun i => X.getD i 0 == Y.getD i 0) i ≤ i) := fun i => al15_le _ i
  generalize hs : al15 (fun i => X.getD i 0 == Y.getD i 0) = s at *
  have HS0 : Hid (s 0 = 0) := by show _ = _; rw [← hs]; rfl
  clear hx hy hs
  go_enter Try.func36, Try.ntmps36
  go_wp2_with fail
  go_loopw [7, 8] (fun tk ti wr => ∃ i k : Nat, i ≤ n ∧ tk = .int .i64 (k : Int) ∧ ti = .int .i64 (i : Int) ∧ Hid (k = s i) ∧ ∃ d, wr = w.drewN d) (fun _ ti _ => n - (intOf ti).toNat)
  case atStart => exact ⟨0, 0, Nat.zero_le _, rfl, rfl, HS0.out.symm, 0, rfl⟩
  case round =>
    obtain ⟨i, k, hi, rfl, rfl, HKI, hd⟩ := hrel
    obtain ⟨sx, sy⟩ := KEY.out wr hd
    obtain ⟨d, hd⟩ := hd
    have HD : Hid (wr = w.drewN d) := hd
    clear hd
    by_cases hlt : i < n
    · have hlti : (i : Int) < (n : Int) := by omega
      have l1 : (i : Int) < (lx : Int) := by omega
      have l2 : (i : Int) < (ly : Int) := by omega
      obtain ⟨b1, o1, rfl, c1⟩ := sx.at_ i (by rw [hlx.out]; omega)
      obtain ⟨b2, o2, rfl, c2⟩ := sy.at_ i (by rw [hly.out]; omega)
      have v1 := sx.bd i
      have v2 := sy.bd i
      have hsi := HA.out i
      have hki := HL.out i
      rw [← HKI.out] at hsi hki
      clear sx sy
      generalize X.getD i 0 = x at *
      generalize Y.getD i 0 = y at *
      have HSI : Hid (s (i + 1) = k + (if (x == y) then 1 else 0)) := hsi
      clear hsi
      by_cases hxy : x = y
      · subst hxy
        have HN : Hid (k + 1 = s (i + 1)) := by show _ = _; rw [HSI.out]; simp
        clear HSI
        go_wp2_with fail
        go_quiet (fail)
        go_wp2_with fail
        go_roundw
        case rel => exact ⟨i + 1, k + 1, by omega, by go_num, by go_num, HN, d + nq, by rw [HD.out, drewN14]⟩
        case measure => simp [intOf]; omega
      · have exy : (x == y) = false := by simpa using hxy
        have HN : Hid (k = s (i + 1)) := by show _ = _; rw [HSI.out, exy]; simp
        clear HSI
        go_wp2_with fail
        go_quiet (fail)
        go_wp2_with fail
        go_roundw
        case rel => exact ⟨i + 1, k, by omega, by first | rfl | go_num, by go_num, HN, d + nq, by rw [HD.out, drewN14]⟩
        case measure => simp [intOf]; omega
    · have hlti : ¬ (i : Int) < (n : Int) := by omega
      obtain rfl : i = n := by omega
      go_wp2_with fail
      go_ret
      exact ⟨by rw [← HKI.out]; rfl, d, HD.out⟩
set_option maxRecDepth 100000 in
set_option maxHeartbeats 2000000 in
theorem rwin15 (za : Option Addr) (z : List Int) (n zc : Nat) (pos : Int) (qa : Option Addr) (q : List Int) (m qc : Nat) (frm to : Int) (w : World) (hn : Hid (z.length = n)) (hm : Hid (q.length = m)) :
    Calls Try.prog 35 #[.int .i64 pos, .slice za n zc, .int .i64 frm, .int .i64 to, .slice qa m qc] w fun e w' => e = .returned (.bool (decide (pl15 z pos q frm to))) ∧ w' = w := by
  have HT : Hid ((0 ≤ pos ∧ pos ≤ (n : Int) ∧ 0 ≤ frm ∧ frm ≤ to ∧ to ≤ (m : Int)) → decide (pl15 z pos q frm to) = true) := fun h => by
    rw [← hn.out, ← hm.out] at h
    exact decide_eq_true h
  have HF : Hid (¬ (0 ≤ pos ∧ pos ≤ (n : Int) ∧ 0 ≤ frm ∧ frm ≤ to ∧ to ≤ (m : Int)) → decide (pl15 z pos q frm to) = false) := fun h => by
    rw [← hn.out, ← hm.out] at h
    exact decide_eq_false h
  clear hn hm
  by_cases c1 : 0 ≤ pos
  · by_cases c2 : pos ≤ (n : Int)
    · by_cases c3 : 0 ≤ frm
      · by_cases c4 : frm ≤ to
        · by_cases c5 : to ≤ (m : Int)
          · rw [HT.out (by omega)]
            clear HF HT
            go_enter Try.func35, Try.ntmps35
            go_wp2_with fail
            go_ret
            exact ⟨by first | rfl | simp, rfl⟩
          · rw [HF.out (by omega)]
            clear HF HT
            go_enter Try.func35, Try.ntmps35
            go_wp2_with fail
            go_ret
            exact ⟨by first | rfl | simp, rfl⟩
        · rw [HF.out (by omega)]
          clear HF HT
          go_enter Try.func35, Try.ntmps35
          go_wp2_with fail
          go_ret
          exact ⟨by first | rfl | simp, rfl⟩
      · rw [HF.out (by omega)]
        clear HF HT
        go_enter Try.func35, Try.ntmps35
        go_wp2_with fail
        go_ret
        exact ⟨by first | rfl | simp, rfl⟩
    · rw [HF.out (by omega)]
      clear HF HT
      go_enter Try.func35, Try.ntmps35
      go_wp2_with fail
      go_ret
      exact ⟨by first | rfl | simp, rfl⟩
  · rw [HF.out (by omega)]
    clear HF HT
    go_enter Try.func35, Try.ntmps35
    go_wp2_with fail
    go_ret
    exact ⟨by first | rfl | simp, rfl⟩
/-- Where 'x[p:]' leads. -/
theorem seg_from15 {w : World} {a : Option Addr} {z : List Int} {n c p : Nat} (hs : Seg w a z) (hn : z.length = n) (hc : n ≤ c) (hp : p ≤ n) : Seg w (if c = p then a else a.map (·.add p)) (z.drop p) := by
  by_cases e : c = p
  · rw [if_pos e, List.drop_eq_nil_of_le (by omega)]
    exact SegK.nil (by decide) _ _
  · rw [if_neg e]
    by_cases h0 : p < n
    · obtain ⟨b, o, rfl, -⟩ := hs.at_ p (by omega)
      have := hs.drop p
      have ha : (⟨b, o, none⟩ : Addr).add p = ⟨b, o + p, none⟩ := by unfold Addr.add; split <;> simp_all
      show Seg w (some ((⟨b, o, none⟩ : Addr).add p)) (z.drop p)
      rw [ha]
      exact this
    · rw [List.drop_eq_nil_of_le (by omega)]
      exact SegK.nil (by decide) _ _
/-- What a call of alike answers. -/
structure Ak15 (w : World) (xa : Option Addr) (lx cx : Nat) (ya : Option Addr) (ly cy n v : Nat) : Prop where
  out : ∀ W, (∃ d, W = w.drewN d) → Calls Try.prog 36 #[.slice xa lx cx, .slice ya ly cy, .int .i64 (n : Int)] W fun e w' => e = .returned (.int .i64 (v : Int)) ∧ ∃ d, w' = w.drewN d
theorem drop_get15 (l : List Int) (p i : Nat) : (l.drop p).getD i 0 = l.getD (p + i) 0 := by simp [List.getD]
theorem ak15 {w : World} {za qa : Option Addr} {z q : List Int} {n zc m qc p f i v : Nat} (hs : Seg w za z) (hq : Seg w qa q) (hn : z.length = n) (hm : q.length = m) (hzc : n ≤ zc) (hqc : m ≤ qc) (hp : p + i ≤ n) (hf : f + i ≤ m) (hb : n ≤ 140737488351232) (hv : al15 (fs15 z p q f) i = v) :
    Ak15 w (if zc = p then za else za.map (fun x => x.add p)) (n - p) (zc - p) (if qc = f then qa else qa.map (fun x => x.add f)) (m - f) (qc - f) i v := by
  refine ⟨fun W hW => ?_⟩
  obtain ⟨d, rfl⟩ := hW
  have := ralk15 _ (z.drop p) (n - p) (zc - p) _ (q.drop f) (m - f) (qc - f) i _ (seg_from15 (p := p) (hs.drewN d) hn hzc (by omega)) (seg_from15 (p := f) (hq.drewN d) hm hqc (by omega)) (by show _ = _; rw [List.length_drop, hn]) (by show _ = _; rw [List.length_drop, hm]) (by omega) (by omega) (by omega)
  have e : (fun j => (z.drop p).getD j 0 == (q.drop f).getD j 0) = fs15 z p q f := by funext j; unfold fs15; rw [drop_get15, drop_get15]
  rw [e, hv] at this
  exact this.mono fun e w' ⟨he, d2, hd⟩ => ⟨he, d + d2, by rw [hd, drewN14]⟩
theorem bk_al15 (z : List Int) (p : Nat) (q : List Int) (t : Nat) {i : Nat} (h1 : i ≤ p) (h2 : i ≤ t) : al15 (fs15 z (p - i) q (t - i)) i = al15 (bk15 z p q t) i := by
  rw [← al15_rev i (bk15 z p q t)]
  exact al15_congr i fun j hj => by unfold fs15 bk15; rw [show p - 1 - (i - 1 - j) = p - i + j by omega, show t - 1 - (i - 1 - j) = t - i + j by omega]
set_option maxRecDepth 100000 in
set_option maxHeartbeats 8000000 in
theorem rfw15 (za : Option Addr) (z : List Int) (n zc : Nat) (pos : Int) (qa : Option Addr) (q : List Int) (m qc : Nat) (frm to : Int) (w0 : World) (hs : Seg w0 za z) (hq : Seg w0 qa q) (hn : Hid (z.length = n)) (hm : Hid (q.length = m)) (hnb : n ≤ 140737488351232) (hmb : m ≤ 140737488351232) (hzc : n ≤ zc) (hqc : m ≤ qc) :
    Calls Try.prog 18 #[.slice za n zc, .int .i64 pos, .slice qa m qc, .int .i64 frm, .int .i64 to] w0 fun e w' => e = .returned (.int .i64 ((fw15 z pos q frm to : Nat) : Int)) ∧ ∃ d, w' = w0.drewN d := by
  have HW := rwin15 za z n zc pos qa q m qc frm to w0 hn hm
  by_cases c : pl15 z pos q frm to
  · rw [decide_eq_true c] at HW
    obtain ⟨k1, k2, k3, k4, k5⟩ := c
    have e0 : fw15 z pos q frm to = py15 (fs15 z pos.toNat q frm.toNat) (min (to.toNat - frm.toNat) (z.length - pos.toNat)) := by unfold fw15; rw [if_pos ⟨k1, k2, k3, k4, k5⟩]
    rw [hn.out] at k2
    rw [hm.out] at k5
    rw [e0]
    clear e0
    obtain ⟨p, rfl⟩ : ∃ p : Nat, pos = (p : Int) := ⟨pos.toNat, by omega⟩
    obtain ⟨f, rfl⟩ : ∃ f : Nat, frm = (f : Int) := ⟨frm.toNat, by omega⟩
    obtain ⟨t, rfl⟩ : ∃ t : Nat, to = (t : Int) := ⟨to.toNat, by omega⟩
    simp only [Int.toNat_natCast] at *
    try rw [hn.out]
    obtain ⟨M, hM⟩ : ∃ M, M = min (t - f) (n - p) := ⟨_, rfl⟩
    rw [← hM]
    have HSG : Hid (Seg w0 za z ∧ Seg w0 qa q) := ⟨hs, hq⟩
    have kpn : (p : Int) ≤ (n : Int) := by omega
    have kfm : (f : Int) ≤ (m : Int) := by omega
    have HMX : Hid (∀ i, i ≤ M ↔ (f + i ≤ t ∧ p + i ≤ n)) := fun i => by omega
    have ktm : t ≤ m := by omega
    have hMb : M ≤ 140737488351232 := by omega
    have kft : f ≤ t := by omega
    have kpm : p ≤ n := by omega
    clear hs hq hM
    go_enter Try.func18, Try.ntmps18
    go_wp2_with (first
      | (go_at_call 35; refine HW.mono ?_; rintro e1 w1 ⟨rfl, hw1⟩; rw [hw1]; clear hw1 HW))
    go_loopw [11, 12, 13] (fun tb tm tn wr => ∃ (i ou : Nat) (tp : Int), i ≤ M + 1 ∧ tb = .int .i64 (ou : Int) ∧ tm = .int .i64 tp ∧ tn = .int .i64 (i : Int) ∧ Hid (ou = bst15 (sc15 (fs15 z p q f) fun j => !(fs15 z p q f) j) (i - 1)) ∧ Hid (tp = top15 (sc15 (fs15 z p q f) fun j => !(fs15 z p q f) j) (i - 1)) ∧ (-140737488351232 ≤ tp ∧ tp ≤ 140737488351232) ∧ ∃ d, wr = w0.drewN d) (fun _ _ tn _ => M + 1 - (intOf tn).toNat)
    case atStart => exact ⟨0, 0, 0, Nat.zero_le _, rfl, rfl, rfl, (rfl : _ = _), (rfl : _ = _), by omega, 0, rfl⟩
    case round =>
      obtain ⟨i, ou, tp, hi, rfl, rfl, rfl, HO, HT, htb, d, hd⟩ := hrel
      have HD : Hid (wr = w0.drewN d) := hd
      clear hd
      by_cases hlt : i ≤ M
      · have hlim := (HMX.out i).1 hlt
        obtain ⟨fi, hfi⟩ : ∃ fi, fi = f + i := ⟨_, rfl⟩
        obtain ⟨pi, hpi⟩ : ∃ pi, pi = p + i := ⟨_, rfl⟩
        have hfii : (f : Int) + (i : Int) = (fi : Int) := by omega
        have hpii : (p : Int) + (i : Int) = (pi : Int) := by omega
        have g1 : (fi : Int) ≤ (t : Int) := by omega
        have g2 : (pi : Int) ≤ (n : Int) := by omega
        have g4 : pi ≤ 140737488351232 := by omega
        have g3 : fi ≤ 140737488351232 := by omega
        obtain ⟨K, hK⟩ : ∃ K, K = al15 (fs15 z p q f) i := ⟨_, rfl⟩
        have hKi : K ≤ i := by rw [hK]; exact al15_le _ _
        have AK := ak15 (p := p) (f := f) (i := i) (v := K) HSG.out.1 HSG.out.2 hn.out hm.out hzc hqc (by omega) (by omega) hnb (hK.symm)
        have CA := AK.out wr.drew ⟨d + 1, by rw [HD.out]; rfl⟩
        obtain ⟨az, haz⟩ : ∃ az, (if zc = p then za else za.map (fun x => x.add p)) = az := ⟨_, rfl⟩
        obtain ⟨aq, haq⟩ : ∃ aq, (if qc = f then qa else qa.map (fun x => x.add f)) = aq := ⟨_, rfl⟩
        rw [haz, haq] at CA
        obtain ⟨V, hV⟩ : ∃ V : Int, V = 2 * (K : Int) - (i : Int) := ⟨_, rfl⟩
        have HGV : Hid (V = sc15 (fs15 z p q f) (fun j => !(fs15 z p q f) j) i) := by show _ = _; rw [sc15_pay, hV, hK]
        have k2 : (2 : Int) * (K : Int) - (i : Int) = V := hV.symm
        have k2w : IntKind.i64.wrap ((2 : Int) * (K : Int)) = (2 : Int) * (K : Int) := IntWalk.i64_in _ (by omega)
        have k3w : IntKind.i64.wrap ((2 : Int) * (K : Int) - (i : Int)) = V := by rw [k2]; exact IntWalk.i64_in _ (by omega)
        have k4w : IntKind.i64.wrap V = V := IntWalk.i64_in _ (by omega)
        have hVb : -140737488351232 ≤ V ∧ V ≤ 140737488351232 := by omega
        have HN1 : Hid ((if tp < V then i else ou) = bst15 (sc15 (fs15 z p q f) fun j => !(fs15 z p q f) j) i ∧ (if tp < V then V else tp) = top15 (sc15 (fs15 z p q f) fun j => !(fs15 z p q f) j) i) := by
          have h1 := HO.out
          have h2 := HT.out
          have h3 := HGV.out
          cases i with
          | zero =>
            have e1 : V = 0 := h3
            have e2 : tp = 0 := h2
            have e3 : ou = 0 := h1
            show _ ∧ _
            rw [e1, e2, e3]
            exact ⟨rfl, rfl⟩
          | succ i =>
            rw [Nat.add_sub_cancel] at h1 h2
            show _ ∧ _
            rw [h1, h2, h3]
            exact ⟨rfl, rfl⟩
        clear hV hK AK hfi hpi hlim HGV
        have HE : Hid (∀ W, (∃ d, W = w0.drewN d) → ∃ d, W = w0.drewN d) := fun W h => h
        go_wp2_with fail
        go_region_held3 (fun _ => True) (trivial) (first | (go_at_call 36; refine CA.mono ?_; rintro e2 w2 ⟨rfl, hd2⟩; have HD2 : Hid (∃ d, w2 = w0.drewN d) := hd2; clear hd2 CA))
        by_cases hz : tp < V
        · rw [if_pos hz, if_pos hz] at HN1
          go_wp2_with fail
          go_roundw
          case rel => exact ⟨i + 1, i, V, by omega, by first | rfl | go_num, by first | rfl | go_num, by go_num, (by rw [Nat.add_sub_cancel]; exact HN1.out.1), (by rw [Nat.add_sub_cancel]; exact HN1.out.2), hVb, HD2.out⟩
          case measure => simp [intOf]; omega
        · rw [if_neg hz, if_neg hz] at HN1
          go_wp2_with fail
          go_roundw
          case rel => exact ⟨i + 1, ou, tp, by omega, by first | rfl | go_num, by first | rfl | go_num, by go_num, (by rw [Nat.add_sub_cancel]; exact HN1.out.1), (by rw [Nat.add_sub_cancel]; exact HN1.out.2), htb, HD2.out⟩
          case measure => simp [intOf]; omega
      · obtain rfl : i = M + 1 := by omega
        have hno : ¬ (f + (M + 1) ≤ t ∧ p + (M + 1) ≤ n) := fun h => hlt ((HMX.out _).2 h)
        have hMM := (HMX.out M).1 (Nat.le_refl _)
        have HF : Hid (ou = py15 (fs15 z p q f) M) := by have := HO.out; rw [Nat.add_sub_cancel] at this; exact this
        obtain ⟨M1, hM1⟩ : ∃ M1, M1 = M + 1 := ⟨_, rfl⟩
        rw [← hM1] at hno
        obtain ⟨fi, hfi⟩ : ∃ fi, fi = f + M1 := ⟨_, rfl⟩
        have hfii : (f : Int) + (M1 : Int) = (fi : Int) := by omega
        have g3 : fi ≤ 140737488351233 := by omega
        obtain ⟨pi, hpi⟩ : ∃ pi, pi = p + M1 := ⟨_, rfl⟩
        have hpii : (p : Int) + (M1 : Int) = (pi : Int) := by omega
        have g4 : pi ≤ 140737488351233 := by omega
        rw [← hM1]
        by_cases c1 : fi ≤ t
        · have c1i : (fi : Int) ≤ (t : Int) := by omega
          have c2i : ¬ (pi : Int) ≤ (n : Int) := by omega
          clear hfi hpi hM1 hno hMM
          go_wp2_with fail
          go_ret
          exact ⟨by rw [← HF.out]; rfl, d, HD.out⟩
        · have c1i : ¬ (fi : Int) ≤ (t : Int) := by omega
          clear hfi hpi hM1 hno hMM
          go_wp2_with fail
          go_ret
          exact ⟨by rw [← HF.out]; rfl, d, HD.out⟩
  · rw [decide_eq_false c] at HW
    have e0 : fw15 z pos q frm to = 0 := by unfold fw15; rw [if_neg c]
    rw [e0]
    clear c hs hq
    go_enter Try.func18, Try.ntmps18
    go_wp2_with (first
      | (go_at_call 35; refine HW.mono ?_; rintro e1 w1 ⟨rfl, hw1⟩; have HW1 : Hid (w1 = w0) := hw1; clear hw1 HW))
    go_ret
    exact ⟨rfl, 0, HW1.out⟩
set_option maxRecDepth 100000 in
set_option maxHeartbeats 8000000 in
theorem rbw15 (za : Option Addr) (z : List Int) (n zc : Nat) (pos : Int) (qa : Option Addr) (q : List Int) (m qc : Nat) (frm to : Int) (w0 : World) (hs : Seg w0 za z) (hq : Seg w0 qa q) (hn : Hid (z.length = n)) (hm : Hid (q.length = m)) (hnb : n ≤ 140737488351232) (hmb : m ≤ 140737488351232) (hzc : n ≤ zc) (hqc : m ≤ qc) :
    Calls Try.prog 20 #[.slice za n zc, .int .i64 pos, .slice qa m qc, .int .i64 frm, .int .i64 to] w0 fun e w' => e = .returned (.int .i64 ((bw15 z pos q frm to : Nat) : Int)) ∧ ∃ d, w' = w0.drewN d := by
  have HW := rwin15 za z n zc pos qa q m qc frm to w0 hn hm
  by_cases c : pl15 z pos q frm to
  · rw [decide_eq_true c] at HW
    obtain ⟨k1, k2, k3, k4, k5⟩ := c
    have e0 : bw15 z pos q frm to = py15 (bk15 z pos.toNat q to.toNat) (min (to.toNat - frm.toNat) pos.toNat) := by unfold bw15; rw [if_pos ⟨k1, k2, k3, k4, k5⟩]
    rw [hn.out] at k2
    rw [hm.out] at k5
    rw [e0]
    clear e0
    obtain ⟨p, rfl⟩ : ∃ p : Nat, pos = (p : Int) := ⟨pos.toNat, by omega⟩
    obtain ⟨f, rfl⟩ : ∃ f : Nat, frm = (f : Int) := ⟨frm.toNat, by omega⟩
    obtain ⟨t, rfl⟩ : ∃ t : Nat, to = (t : Int) := ⟨to.toNat, by omega⟩
    simp only [Int.toNat_natCast] at *
    try rw [hn.out]
    obtain ⟨M, hM⟩ : ∃ M, M = min (t - f) p := ⟨_, rfl⟩
    rw [← hM]
    have HSG : Hid (Seg w0 za z ∧ Seg w0 qa q) := ⟨hs, hq⟩
    have kpn : (p : Int) ≤ (n : Int) := by omega
    have kfm : (f : Int) ≤ (m : Int) := by omega
    have HMX : Hid (∀ i, i ≤ M ↔ (f + i ≤ t ∧ i ≤ p)) := fun i => by omega
    have ktm : t ≤ m := by omega
    have hMb : M ≤ 140737488351232 := by omega
    have kft : f ≤ t := by omega
    have kpm : p ≤ n := by omega
    clear hs hq hM
    go_enter Try.func20, Try.ntmps20
    go_wp2_with (first
      | (go_at_call 35; refine HW.mono ?_; rintro e1 w1 ⟨rfl, hw1⟩; rw [hw1]; clear hw1 HW))
    go_loopw [11, 12, 13] (fun tb tm tn wr => ∃ (i ou : Nat) (tp : Int), i ≤ M + 1 ∧ tb = .int .i64 (ou : Int) ∧ tm = .int .i64 tp ∧ tn = .int .i64 (i : Int) ∧ Hid (ou = bst15 (sc15 (bk15 z p q t) fun j => !(bk15 z p q t) j) (i - 1)) ∧ Hid (tp = top15 (sc15 (bk15 z p q t) fun j => !(bk15 z p q t) j) (i - 1)) ∧ (-140737488351232 ≤ tp ∧ tp ≤ 140737488351232) ∧ ∃ d, wr = w0.drewN d) (fun _ _ tn _ => M + 1 - (intOf tn).toNat)
    case atStart => exact ⟨0, 0, 0, Nat.zero_le _, rfl, rfl, rfl, (rfl : _ = _), (rfl : _ = _), by omega, 0, rfl⟩
    case round =>
      obtain ⟨i, ou, tp, hi, rfl, rfl, rfl, HO, HT, htb, d, hd⟩ := hrel
      have HD : Hid (wr = w0.drewN d) := hd
      clear hd
      by_cases hlt : i ≤ M
      · have hlim := (HMX.out i).1 hlt
        obtain ⟨fi, hfi⟩ : ∃ fi, fi = f + i := ⟨_, rfl⟩
        obtain ⟨sp, hsp⟩ : ∃ sp, sp = p - i := ⟨_, rfl⟩
        obtain ⟨su, hsu⟩ : ∃ su, su = t - i := ⟨_, rfl⟩
        have hfii : (f : Int) + (i : Int) = (fi : Int) := by omega
        have hspi : (p : Int) - (i : Int) = (sp : Int) := by omega
        have hsui : (t : Int) - (i : Int) = (su : Int) := by omega
        have w1 : IntKind.i64.wrap ((p : Int) - (i : Int)) = (sp : Int) := by rw [hspi]; exact IntWalk.i64_in _ (by omega)
        have w2 : IntKind.i64.wrap ((t : Int) - (i : Int)) = (su : Int) := by rw [hsui]; exact IntWalk.i64_in _ (by omega)
        have w3 : IntKind.i64.wrap (sp : Int) = (sp : Int) := IntWalk.i64_in _ (by omega)
        have w4 : IntKind.i64.wrap (su : Int) = (su : Int) := IntWalk.i64_in _ (by omega)
        have spn : (sp : Int) ≤ (n : Int) := by omega
        have sum_ : (su : Int) ≤ (m : Int) := by omega
        have g1 : (fi : Int) ≤ (t : Int) := by omega
        have g2 : (i : Int) ≤ (p : Int) := by omega
        have g3 : fi ≤ 140737488351232 := by omega
        obtain ⟨K, hK⟩ : ∃ K, K = al15 (bk15 z p q t) i := ⟨_, rfl⟩
        have hKi : K ≤ i := by rw [hK]; exact al15_le _ _
        have AK := ak15 (p := sp) (f := su) (i := i) (v := K) HSG.out.1 HSG.out.2 hn.out hm.out hzc hqc (by omega) (by omega) hnb (by rw [hsp, hsu, bk_al15 z p q t (by omega) (by omega)]; exact hK.symm)
        have CA := AK.out wr.drew ⟨d + 1, by rw [HD.out]; rfl⟩
        obtain ⟨az, haz⟩ : ∃ az, (if zc = sp then za else za.map (fun x => x.add sp)) = az := ⟨_, rfl⟩
        obtain ⟨aq, haq⟩ : ∃ aq, (if qc = su then qa else qa.map (fun x => x.add su)) = aq := ⟨_, rfl⟩
        rw [haz, haq] at CA
        obtain ⟨V, hV⟩ : ∃ V : Int, V = 2 * (K : Int) - (i : Int) := ⟨_, rfl⟩
        have HGV : Hid (V = sc15 (bk15 z p q t) (fun j => !(bk15 z p q t) j) i) := by show _ = _; rw [sc15_pay, hV, hK]
        have k2 : (2 : Int) * (K : Int) - (i : Int) = V := hV.symm
        have k2w : IntKind.i64.wrap ((2 : Int) * (K : Int)) = (2 : Int) * (K : Int) := IntWalk.i64_in _ (by omega)
        have k3w : IntKind.i64.wrap ((2 : Int) * (K : Int) - (i : Int)) = V := by rw [k2]; exact IntWalk.i64_in _ (by omega)
        have k4w : IntKind.i64.wrap V = V := IntWalk.i64_in _ (by omega)
        have hVb : -140737488351232 ≤ V ∧ V ≤ 140737488351232 := by omega
        have HN1 : Hid ((if tp < V then i else ou) = bst15 (sc15 (bk15 z p q t) fun j => !(bk15 z p q t) j) i ∧ (if tp < V then V else tp) = top15 (sc15 (bk15 z p q t) fun j => !(bk15 z p q t) j) i) := by
          have h1 := HO.out
          have h2 := HT.out
          have h3 := HGV.out
          cases i with
          | zero =>
            have e1 : V = 0 := h3
            have e2 : tp = 0 := h2
            have e3 : ou = 0 := h1
            show _ ∧ _
            rw [e1, e2, e3]
            exact ⟨rfl, rfl⟩
          | succ i =>
            rw [Nat.add_sub_cancel] at h1 h2
            show _ ∧ _
            rw [h1, h2, h3]
            exact ⟨rfl, rfl⟩
        clear hV hK AK hfi hsp hsu hlim HGV
        have HE : Hid (∀ W, (∃ d, W = w0.drewN d) → ∃ d, W = w0.drewN d) := fun W h => h
        go_wp2_with fail
        go_region_held3 (fun _ => True) (trivial) (first | (go_at_call 36; refine CA.mono ?_; rintro e2 w2 ⟨rfl, hd2⟩; have HD2 : Hid (∃ d, w2 = w0.drewN d) := hd2; clear hd2 CA))
        by_cases hz : tp < V
        · rw [if_pos hz, if_pos hz] at HN1
          go_wp2_with fail
          go_roundw
          case rel => exact ⟨i + 1, i, V, by omega, by first | rfl | go_num, by first | rfl | go_num, by go_num, (by rw [Nat.add_sub_cancel]; exact HN1.out.1), (by rw [Nat.add_sub_cancel]; exact HN1.out.2), hVb, HD2.out⟩
          case measure => simp [intOf]; omega
        · rw [if_neg hz, if_neg hz] at HN1
          go_wp2_with fail
          go_roundw
          case rel => exact ⟨i + 1, ou, tp, by omega, by first | rfl | go_num, by first | rfl | go_num, by go_num, (by rw [Nat.add_sub_cancel]; exact HN1.out.1), (by rw [Nat.add_sub_cancel]; exact HN1.out.2), htb, HD2.out⟩
          case measure => simp [intOf]; omega
      · obtain rfl : i = M + 1 := by omega
        have hno : ¬ (f + (M + 1) ≤ t ∧ (M + 1) ≤ p) := fun h => hlt ((HMX.out _).2 h)
        have hMM := (HMX.out M).1 (Nat.le_refl _)
        have HF : Hid (ou = py15 (bk15 z p q t) M) := by have := HO.out; rw [Nat.add_sub_cancel] at this; exact this
        obtain ⟨M1, hM1⟩ : ∃ M1, M1 = M + 1 := ⟨_, rfl⟩
        rw [← hM1] at hno
        obtain ⟨fi, hfi⟩ : ∃ fi, fi = f + M1 := ⟨_, rfl⟩
        have hfii : (f : Int) + (M1 : Int) = (fi : Int) := by omega
        have g3 : fi ≤ 140737488351233 := by omega
        rw [← hM1]
        by_cases c1 : fi ≤ t
        · have c1i : (fi : Int) ≤ (t : Int) := by omega
          have c2i : ¬ (M1 : Int) ≤ (p : Int) := by omega
          clear hfi  hM1 hno hMM
          go_wp2_with fail
          go_ret
          exact ⟨by rw [← HF.out]; rfl, d, HD.out⟩
        · have c1i : ¬ (fi : Int) ≤ (t : Int) := by omega
          clear hfi  hM1 hno hMM
          go_wp2_with fail
          go_ret
          exact ⟨by rw [← HF.out]; rfl, d, HD.out⟩
  · rw [decide_eq_false c] at HW
    have e0 : bw15 z pos q frm to = 0 := by unfold bw15; rw [if_neg c]
    rw [e0]
    clear c hs hq
    go_enter Try.func20, Try.ntmps20
    go_wp2_with (first
      | (go_at_call 35; refine HW.mono ?_; rintro e1 w1 ⟨rfl, hw1⟩; have HW1 : Hid (w1 = w0) := hw1; clear hw1 HW))
    go_ret
    exact ⟨rfl, 0, HW1.out⟩
end Go.Proofs.Ytbjjddoeilhomaa
