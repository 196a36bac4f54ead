
import Derived.Test.YtbgnlbgoeogbaaaSaPl
namespace Go.Proofs.Ytbgnlbgoeogbaaa
open Go.RowKit
set_option linter.unusedVariables false

/-! SaisPieces: the walk. -/
/-- An order of the turns, in a row of its own. -/
structure Od12 (w : World) (base : Nat) (ra : Option Addr) (m rc : Nat) (o : List Nat) : Prop where
  own : w.ownsRow base 3 1 (.slice ra m rc) m ((nz12 o).map (Value.int .i64))
  len : o.length = m
theorem Od12.cell {w : World} {base g m rc : Nat} {o : List Nat} (h : Od12 w base (some ⟨g, 0, none⟩) m rc o) {k : Nat} (hk : k < m) : w.cell? ⟨g, k, none⟩ = some (.int .i64 ((o.getD k 0 : Nat) : Int)) := by
  have hl := h.len
  have c1 := h.own.cells (g := g) rfl k (.int .i64 ((o.getD k 0 : Nat) : Int)) (by simp [nz12, List.getD, hl, hk])
  have hadd : (⟨g, 0, none⟩ : Addr).add k = ⟨g, k, none⟩ := by unfold Addr.add; split <;> simp_all
  rw [hadd] at c1
  exact c1
theorem Od12.free {w : World} {base g m rc : Nat} {o : List Nat} (h : Od12 w base (some ⟨g, 0, none⟩) m rc o) (k : Nat) : w.frozen? ⟨g, k, none⟩ = false := by
  rcases h.own.2 with ⟨h5, _⟩ | ⟨g', cap'', cur, hv', _, hh, _⟩
  · cases h5
  · simp only [Value.slice.injEq, Option.some.injEq, Addr.mk.injEq] at hv'
    obtain ⟨⟨rfl, _⟩, _⟩ := hv'
    simp [World.frozen?, hh]
theorem Od12.set2 {w : World} {base g m rc : Nat} {o : List Nat} (h : Od12 w base (some ⟨g, 0, none⟩) m rc o) {x y : Nat} (hx : x < m) (hy : y < m) :
    Od12 ((w.setCell ⟨g, x, none⟩ (.int .i64 ((o.getD y 0 : Nat) : Int))).setCell ⟨g, y, none⟩ (.int .i64 ((o.getD x 0 : Nat) : Int))) base (some ⟨g, 0, none⟩) m rc (sw12 o x y) := by
  have hl := h.len
  have h1 := (h.own.stored x (.int .i64 ((o.getD y 0 : Nat) : Int))).1
  rw [← List.map_set] at h1
  have h2 := (h1.stored y (.int .i64 ((o.getD x 0 : Nat) : Int))).1
  rw [← List.map_set, sw12_nz o x y (by omega) (by omega)] at h2
  exact ⟨h2, by rw [sw12_len]; exact hl⟩
theorem sw12_comm (o : List Nat) (x y : Nat) (hx : x < o.length) (hy : y < o.length) : sw12 o x y = sw12 o y x := by
  refine ext12 (d := 0) (by rw [sw12_len, sw12_len]) fun k hk => ?_
  rw [sw12_get hx hy, sw12_get hy hx]
  by_cases a : k = y
  · subst a
    rw [if_pos rfl]
    by_cases b : k = x
    · rw [if_pos b, b]
    · rw [if_neg b, if_pos rfl]
  · rw [if_neg a, if_neg a]
theorem il12_at {s : List Int} {o : List Nat} {n : Nat} (hn : s.length = n) (ho : Or12 n (sm12 s) o) {i : Nat} (hi : i < n) : ∃ j : Nat, j < n ∧ (il12 s o).getD i 0 = (j : Int) ∧ ind12 n (S12 s) (sm12 s) o i = (j : Int) := by
  subst hn
  have hty := ty12 s
  obtain ⟨j, hj, e⟩ := (ind12_pm (S := S12 s) hty ho).fill i hi
  exact ⟨j, hj, by simp [il12, List.getD, hi, e], e⟩
set_option maxRecDepth 100000 in
set_option maxHeartbeats 8000000 in
theorem saisPieces_walk (w : World) (a : Option Addr) (z : List Int) (ca : Nat) (hs : Seg w a z) (hc : z.length ≤ ca) (hnil : a = none → ca = 0) (hl : z.length ≤ 1073741824) (ga : Option Addr) (G : List Int) (gc : Nat) (hg : Seg64 w ga G) (hgc : G.length ≤ gc) (hgn : ga = none → gc = 0) (hgl : G.length ≤ 1073741824) :
    Calls Try.prog 5 #[.slice a z.length ca, .slice ga G.length gc] w fun e w' => e = .returned (.bool true) ∧ Below w.heap.size w w' := by
  generalize hn0 : z.length = n at *
  have hn : Hid (z.length = n) := hn0
  generalize hm0 : G.length = K at *
  have hm : Hid (G.length = K) := hm0
  clear hn0 hm0 hc hnil hgc hgn
  have hvz : ∀ y ∈ z, 0 ≤ y ∧ y ≤ 255 := hs.mem
  have hzb : ∀ y ∈ z, -9223372036854775808 ≤ y ∧ y ≤ 9223372036854775807 := fun y hy => by have := hvz y hy; omega
  have HW := pwds12 a z n ca w hs hn (by omega)
  have HRF := ref12_words hn.out hvz
  have HKB : mx12 z ≤ 256 := mx12_le (fun y hy => by have := hvz y hy; omega)
  have HGS : Hid (∀ W, Below w.heap.size w W → Seg64 W ga G) := fun W b => hg.old b
  by_cases h24 : 16777216 < n
  · have h24i : (16777216 : Int) < (n : Int) := by omega
    clear HRF hvz hzb hs hg
    generalize mx12 z = M at *
    go_enter Try.func5, Try.ntmps5
    go_wp2_with (first
      | (go_at_call 18; refine HW.mono ?_; rintro e1 w1 ⟨rfl, R1, B1⟩; clear HW)
      | (go_at_call 15; refine (pawk12 w1).mono ?_; rintro e2 w2 ⟨rfl, B2⟩)
      | (go_at_call 15; refine (pawk12 w2).mono ?_; rintro e3 w3 ⟨rfl, B3⟩))
    go_ret
    have S1 := B1.size
    have S2 := B2.size
    exact ⟨rfl, (B1.trans (B2.mono (by omega))).trans (B3.mono (by omega))⟩
  · rw [if_neg h24] at HRF
    have h24i : ¬ (16777216 : Int) < (n : Int) := by omega
    have hn24 : n ≤ 16777216 := by omega
    have HSG : Hid (∀ w1 g, Rz12 w1 g z → SegZ w1 (some ⟨g, 0, none⟩) z) := fun w1 g R => R.seg hzb
    have HTY : Hid (∀ w1 g, Rz12 w1 g z → Calls Try.prog 19 #[.slice (some ⟨g, 0, none⟩) n n] w1 fun e w' => e = .returned (.slice (some ⟨w1.heap.size, 0, none⟩) n n) ∧ Rb12 w' w1.heap.size (typ12 z) ∧ Below w1.heap.size w1 w') := fun w1 g R => ptyp12 _ z n n w1 (R.seg hzb) hn (by omega)
    have HLM : Hid (∀ w1 g, Rz12 w1 g z → Calls Try.prog 20 #[.slice (some ⟨g, 0, none⟩) n n] w1 (AnsZ12 w1 (nz12 (tns12 z)))) := fun w1 g R => plms12 _ z n n w1 (R.seg hzb) hn (by omega)
    have HIN : Hid (∀ w1 g oa o m oc, Rz12 w1 g z → Or12 n (sm12 z) o → o.length = m → SegZ w1 oa (nz12 o) → Calls Try.prog 17 #[.int .i64 ((mx12 z : Nat) : Int), .slice (some ⟨g, 0, none⟩) n n, .slice oa m oc] w1 (IdQ12 w1 z o n)) := fun w1 g oa o m oc R ho hm sg => pidu12 _ (some ⟨g, 0, none⟩) oa z o n n m oc w1 (R.seg hzb) hn (by omega) HRF ho hm sg
    have HPL : Hid (∀ w1 g gt x y, Rz12 w1 g z → Rb12 w1 gt (typ12 z) → x < n → y < n → Calls Try.prog 21 #[.slice (some ⟨g, 0, none⟩) n n, .slice (some ⟨gt, 0, none⟩) n n, .int .i64 (x : Int), .int .i64 (y : Int)] w1 (PlQ12 w1 (LL12 (key12 n (S12 z) (sm12 z) x) (key12 n (S12 z) (sm12 z) y)))) := fun w1 g gt x y R RB hx hy => ppls12 _ _ z n n n x y w1 (R.seg hzb) hn RB.seg hn24 hx hy
    have HTO : Hid (Or12 n (sm12 z) (tns12 z)) := by have := tns12_or z; rw [hn.out] at this; exact this
    have HKE : Hid (∀ o, Or12 n (sm12 z) o → ∀ q q' i j : Nat, q < q' → q' < n → i < n → j < n → ind12 n (S12 z) (sm12 z) o q = (i : Int) → ind12 n (S12 z) (sm12 z) o q' = (j : Int) → LE12 (key12 n (S12 z) (sm12 z) i) (key12 n (S12 z) (sm12 z) j)) := fun o ho => ind12_key (by have := ty12 z; rw [hn.out] at this; exact this) ho
    clear HRF hvz hzb hs hg
    generalize mx12 z = M at *
    go_enter Try.func5, Try.ntmps5
    go_wp2_with (first
      | (go_at_call 18; refine HW.mono ?_; rintro e1 w1 ⟨rfl, R1, B1⟩; clear HW)
      | (go_at_call 15; refine (pawk12 w1).mono ?_; rintro e2 w2 ⟨rfl, B2⟩)
      | (go_at_call 19; refine (HTY.out w2 _ (R1.old B2)).mono ?_; rintro e3 w3 ⟨rfl, R3, B3⟩)
      | (go_at_call 20; refine (HLM.out w3 _ ((R1.old B2).old B3)).mono ?_; rintro e4 w4 ⟨ra, rc, rfl, own4, B4⟩; clear HTY HLM))
    have RZ4 := ((R1.old B2).old B3).old B4
    have RB4 := R3.old B4
    have S1 := B1.size
    have S2 := B2.size
    have S3 := B3.size
    have S4 := B4.size
    have hlz := R1.lt
    have hlb := R3.lt
    have C4 : Below w.heap.size w w4 := ((B1.trans (B2.mono (by omega))).trans (B3.mono (by omega))).trans (B4.mono (by omega))
    have HTL : Hid ((nz12 (tns12 z)).length = (tns12 z).length) := by show _ = _; simp [nz12]
    rw [HTL.out] at own4
    rw [HTL.out]
    have od4 : Od12 w4 w3.heap.size ra (tns12 z).length rc (tns12 z) := ⟨own4, rfl⟩
    have hmt : (tns12 z).length ≤ n := by
      have h5 : (tns12 z).length ≤ (List.range z.length).length := List.length_filter_le _ _
      rw [List.length_range, hn.out] at h5
      exact h5
    obtain ⟨g0, hg0⟩ : ∃ g0, g0 = w.heap.size := ⟨_, rfl⟩
    obtain ⟨gt, hgt⟩ : ∃ gt, gt = w2.heap.size := ⟨_, rfl⟩
    rw [← hg0] at RZ4 hlz
    rw [← hgt] at RB4 hlb
    have HB : Hid (w3.heap.size ≤ w4.heap.size ∧ w.heap.size ≤ w3.heap.size ∧ g0 < w3.heap.size ∧ gt < w3.heap.size) := ⟨by omega, by omega, by omega, by omega⟩
    rw [← hg0, ← hgt]
    generalize hmm : (tns12 z).length = m at *
    generalize hbs : w3.heap.size = base at *
    clear hg0 hgt own4 R1 R3 B1 B2 B3 B4 S1 S2 S3 S4 hlz hlb HTL hbs hmm
    go_wp2_with fail
    go_loopw [9] (fun ti wr => ∃ (i : Nat) (o : List Nat), i ≤ K ∧ ti = .int .i64 i ∧ Od12 wr base ra m rc o ∧ Hid (Or12 n (sm12 z) o) ∧ Rz12 wr g0 z ∧ Rb12 wr gt (typ12 z) ∧ Below w.heap.size w wr ∧ base ≤ wr.heap.size) (fun ti _ => K - (intOf ti).toNat)
    case atStart => exact ⟨0, tns12 z, Nat.zero_le _, rfl, od4, HTO, RZ4, RB4, C4, HB.out.1⟩
    case round =>
      obtain ⟨i, o, hi, rfl, od, HO, RZ, RB, hb, hsz⟩ := hrel
      clear od4 RZ4 RB4 C4
      by_cases h1 : i < K ∧ 0 < m
      · obtain ⟨h1, hm1⟩ := h1
        have h1i : (i : Int) < (K : Int) := by omega
        have hm1i : (0 : Int) < (m : Int) := by omega
        obtain ⟨g, cp, hsh, _, hbg, _⟩ := own_shape od.own hm1
        simp only [Value.slice.injEq] at hsh
        obtain ⟨rfl, -, rfl⟩ := hsh
        obtain ⟨bb, off, rfl, ck⟩ := (HGS.out wr hb).at_ i (by rw [hm.out]; exact h1)
        have kb := (HGS.out wr hb).bd i
        generalize G.getD i 0 = key at *
        obtain ⟨x, hx⟩ : ∃ x : Nat, (i : Int).tmod (m : Int) = (x : Int) := ⟨i % m, by rw [Int.tmod_eq_emod_of_nonneg (by omega)]; rfl⟩
        obtain ⟨y, hy⟩ : ∃ y : Nat, key.tmod (m : Int) = (y : Int) := ⟨(key % (m : Int)).toNat, by rw [Int.tmod_eq_emod_of_nonneg kb.1, Int.toNat_of_nonneg (Int.emod_nonneg _ (by omega))]⟩
        have hxm : x < m := by have := Int.tmod_lt_of_pos (i : Int) hm1i; rw [hx] at this; omega
        have hym : y < m := by have := Int.tmod_lt_of_pos key hm1i; rw [hy] at this; omega
        have hxi : (x : Int) < (m : Int) := by omega
        have hyi : (y : Int) < (m : Int) := by omega
        have hm0 : ¬ (m : Int) = 0 := by omega
        have cx := od.cell hxm
        have cy := od.cell hym
        have fx := od.free x
        have fy := od.free y
        have hol := od.len
        have HSW : Hid (∀ d, Od12 (((wr.drewN d).setCell ⟨g, x, none⟩ (.int .i64 ((o.getD y 0 : Nat) : Int))).setCell ⟨g, y, none⟩ (.int .i64 ((o.getD x 0 : Nat) : Int))) base (some ⟨g, 0, none⟩) m rc (sw12 o x y) ∧ Od12 (((wr.drewN d).setCell ⟨g, y, none⟩ (.int .i64 ((o.getD x 0 : Nat) : Int))).setCell ⟨g, x, none⟩ (.int .i64 ((o.getD y 0 : Nat) : Int))) base (some ⟨g, 0, none⟩) m rc (sw12 o x y)) := fun d => by
          have odd : Od12 (wr.drewN d) base (some ⟨g, 0, none⟩) m rc o := ⟨own_kp od.own (S := fun _ => False) ⟨rfl, rfl, rfl, Nat.le_refl _, fun _ _ _ => rfl⟩ (fun _ _ h => h), od.len⟩
          refine ⟨odd.set2 hxm hym, ?_⟩
          have h6 := odd.set2 hym hxm
          rw [sw12_comm o y x (by omega) (by omega)] at h6
          exact h6
        have HYX : ∀ d, ((wr.drewN d).setCell ⟨g, x, none⟩ (.int .i64 ((o.getD y 0 : Nat) : Int))).cell? ⟨g, y, none⟩ = some (.int .i64 ((o.getD y 0 : Nat) : Int)) ∧ ((wr.drewN d).setCell ⟨g, x, none⟩ (.int .i64 ((o.getD y 0 : Nat) : Int))).frozen? ⟨g, y, none⟩ = false := fun d => by
          have odd : Od12 (wr.drewN d) base (some ⟨g, 0, none⟩) m rc o := ⟨own_kp od.own (S := fun _ => False) ⟨rfl, rfl, rfl, Nat.le_refl _, fun _ _ _ => rfl⟩ (fun _ _ h => h), od.len⟩
          have h1 := (odd.own.stored x (.int .i64 ((o.getD y 0 : Nat) : Int))).1
          rw [← List.map_set] at h1
          have e1 : (nz12 o).set x ((o.getD y 0 : Nat) : Int) = nz12 (o.set x (o.getD y 0)) := by unfold nz12; rw [List.map_set]
          rw [e1] at h1
          have od2 : Od12 ((wr.drewN d).setCell ⟨g, x, none⟩ (.int .i64 ((o.getD y 0 : Nat) : Int))) base (some ⟨g, 0, none⟩) m rc (o.set x (o.getD y 0)) := ⟨h1, by rw [List.length_set]; exact od.len⟩
          have h2 := od2.cell hym
          rw [getD_set12 _ _ _ _ (by omega)] at h2
          refine ⟨?_, od2.free y⟩
          rw [h2]
          split <;> rfl
        have HYX1 := fun d => (HYX d).1
        have HYX2 := fun d => (HYX d).2
        clear HYX
        have HOS : Hid (Or12 n (sm12 z) (sw12 o x y)) := sw12_or HO.out (by omega) (by omega)
        have HKP : Hid (∀ d p q (u v : Value), Kp (fun k => k = g) wr (((wr.drewN d).setCell ⟨g, p, none⟩ u).setCell ⟨g, q, none⟩ v)) := fun d p q u v => by
          have k0 : Kp (fun k => k = g) wr (wr.drewN d) := ⟨rfl, rfl, rfl, Nat.le_refl _, fun _ _ _ => rfl⟩
          exact (k0.trans (Kp.set (S := fun k => k = g) rfl u) (fun _ _ h => h)).trans (Kp.set (S := fun k => k = g) rfl v) (fun _ _ h => h)
        have HREST : Hid (∀ W, Kp (fun k => k = g) wr W → Rz12 W g0 z ∧ Rb12 W gt (typ12 z) ∧ Below w.heap.size w W ∧ base ≤ W.heap.size) := fun W k => ⟨RZ.kp k (by have := HB.out; omega), RB.kp k (by have := HB.out; omega), hb.trans (k.below (fun q h => by have := HB.out; omega) hb.size), Nat.le_trans hsz k.size⟩
        clear od RZ RB HO
        generalize o.getD x 0 = u at *
        generalize o.getD y 0 = v at *
        go_wp2_with fail
        go_quiet (fail)
        go_wp2_with fail
        go_region
        go_wp2_with fail
        go_roundw
        case rel => exact ⟨i + 1, sw12 o x y, by omega, by go_num, (HSW.out _).1, HOS, (HREST.out _ (HKP.out _ _ _ _ _)).1, (HREST.out _ (HKP.out _ _ _ _ _)).2.1, (HREST.out _ (HKP.out _ _ _ _ _)).2.2.1, (HREST.out _ (HKP.out _ _ _ _ _)).2.2.2⟩
        case measure => simp [intOf]; omega
      · have hcs : ¬ (i : Int) < (K : Int) ∨ ((i : Int) < (K : Int) ∧ ¬ (0 : Int) < (m : Int)) := by omega
        clear h1
        have hmS : SegZ wr ra (nz12 o) := own_segZ od.own (nz12_bd (fun j hj => ((HO.out.mem j).1 hj).1) hn24)
        have hom := od.len
        have HIN2 := HIN.out wr g0 ra o m rc RZ HO.out hom hmS
        have HIL : Hid (∀ q, q < n → ∃ j : Nat, j < n ∧ (il12 z o).getD q 0 = (j : Int) ∧ ind12 n (S12 z) (sm12 z) o q = (j : Int)) := fun q hq => il12_at hn.out HO.out hq
        have HKE2 := HKE.out o HO.out
        have HKE3 : Hid (∀ q q' i j : Nat, q < q' → q' < n → i < n → j < n → ind12 n (S12 z) (sm12 z) o q = (i : Int) → ind12 n (S12 z) (sm12 z) o q' = (j : Int) → LE12 (key12 n (S12 z) (sm12 z) i) (key12 n (S12 z) (sm12 z) j)) := HKE2
        have HILn : Hid ((il12 z o).length = n) := by show _ = _; rw [il12_len, hn.out]
        have HTLn : Hid ((typ12 z).length = n ∧ ∀ q, (typ12 z).getD q false = sm12 z q) := ⟨by rw [typ12_len, hn.out], typ12_get z⟩
        clear hmS od HKE2 HKE HIN
        rcases hcs with h1i | ⟨h1i, h1j⟩
        · go_wp2_with (first
            | (go_at_call 17; refine HIN2.mono ?_; rintro e5 w5 ⟨g5, rfl, R5, hg5, B5⟩; clear HIN2))
          have RZ5 := RZ.old B5
          have RB5 := RB.old B5
          have C5 := hb.trans (B5.mono hb.size)
          clear RZ RB hb B5 hg5
          go_loopw [14, 15] (fun tl ti wr => ∃ (q : Nat) (L : Int), q ≤ n ∧ tl = .int .i64 L ∧ ti = .int .i64 q ∧ Hid (L = -1 ∨ ∃ l p : Nat, L = (l : Int) ∧ l < n ∧ p < q ∧ ind12 n (S12 z) (sm12 z) o p = (l : Int)) ∧ ∃ d, wr = w5.drewN d) (fun _ ti _ => n - (intOf ti).toNat)
          case atStart => exact ⟨0, -1, Nat.zero_le _, rfl, rfl, Or.inl rfl, 0, rfl⟩
          case round =>
            obtain ⟨q, L, hq, rfl, rfl, HL, d, hd⟩ := hrel
            have R5d := R5.drewN d
            have RZd := RZ5.drewN d
            have RBd := RB5.drewN d
            have Cd : Below w.heap.size w (w5.drewN d) := C5.trans ⟨rfl, rfl, rfl, Nat.le_refl _, fun _ _ => rfl⟩
            rw [← hd] at R5d RZd RBd Cd
            have HD : Hid (wr = w5.drewN d) := hd
            clear hd
            by_cases h2 : q < n
            · have h2i : (q : Int) < (n : Int) := by omega
              obtain ⟨j, hj, e1, e2⟩ := HIL.out q h2
              have c1 := R5d.cell (i := q) (by rw [HILn.out]; exact h2)
              rw [e1] at c1
              have HE2 : Hid (ind12 n (S12 z) (sm12 z) o q = (j : Int)) := e2
              clear e1 e2
              have hji : (j : Int) < (n : Int) := by omega
              have hj0 : ¬ (j : Int) < 0 := by omega
              have hjn : ¬ (n : Int) ≤ (j : Int) := by omega
              have hjn2 : ¬ n ≤ j := by omega
              have HNL : Hid (∀ q2, q < q2 → (L = -1 ∨ ∃ l p : Nat, L = (l : Int) ∧ l < n ∧ p < q2 ∧ ind12 n (S12 z) (sm12 z) o p = (l : Int))) := fun q2 hq2 => by
                rcases HL.out with h | ⟨l, p, a1, a2, a3, a4⟩
                · exact Or.inl h
                · exact Or.inr ⟨l, p, a1, a2, by omega, a4⟩
              by_cases hz : j = 0
              · subst hz
                have HN1 := HNL.out (q + 1) (by omega)
                have HN2 : Hid (L = -1 ∨ ∃ l p : Nat, L = (l : Int) ∧ l < n ∧ p < q + 1 ∧ ind12 n (S12 z) (sm12 z) o p = (l : Int)) := HN1
                clear HN1 HNL HL
                go_wp2_with fail
                go_roundw
                case rel => exact ⟨q + 1, L, by omega, by go_num, by go_num, HN2, d, HD.out⟩
                case measure => simp [intOf]; omega
              · have hz1 : ¬ (j : Int) = 0 := by omega
                have c2 := RBd.cell (i := j) (by rw [HTLn.out.1]; exact hj)
                rw [HTLn.out.2] at c2
                have c3 := RBd.cell (i := j - 1) (by rw [HTLn.out.1]; omega)
                rw [HTLn.out.2] at c3
                obtain ⟨j1, hj1⟩ : ∃ j1, j1 = j - 1 := ⟨_, rfl⟩
                rw [← hj1] at c3
                have ej : (j : Int) - 1 = (j1 : Int) := by omega
                have ij : (j1 : Int) < (n : Int) := by omega
                clear hj1
                generalize sm12 z j = b1 at *
                generalize sm12 z j1 = b2 at *
                have HN1 : Hid (L = -1 ∨ ∃ l p : Nat, L = (l : Int) ∧ l < n ∧ p < q + 1 ∧ ind12 n (S12 z) (sm12 z) o p = (l : Int)) := HNL.out (q + 1) (by omega)
                cases b1 with
                | false =>
                  clear HNL HL
                  go_wp2_with fail
                  go_roundw
                  case rel => exact ⟨q + 1, L, by omega, by go_num, by go_num, HN1, d, HD.out⟩
                  case measure => simp [intOf]; omega
                | true =>
                  cases b2 with
                  | true =>
                    clear HNL HL
                    go_wp2_with fail
                    go_roundw
                    case rel => exact ⟨q + 1, L, by omega, by go_num, by go_num, HN1, d, HD.out⟩
                    case measure => simp [intOf]; omega
                  | false =>
                    have HN3 : Hid ((j : Int) = -1 ∨ ∃ l p : Nat, (j : Int) = (l : Int) ∧ l < n ∧ p < q + 1 ∧ ind12 n (S12 z) (sm12 z) o p = (l : Int)) := Or.inr ⟨j, q, rfl, hj, by omega, HE2.out⟩
                    rcases HL.out with hL | ⟨l, p, rfl, hln, hpq, hpl⟩
                    · subst hL
                      clear HNL HL HN1
                      go_wp2_with fail
                      go_roundw
                      case rel => exact ⟨q + 1, (j : Int), by omega, by go_num, by go_num, HN3, d, HD.out⟩
                      case measure => simp [intOf]; omega
                    · have HPQ := HPL.out wr g0 gt j l RZd RBd hj hln
                      have HNO : Hid (¬ LL12 (key12 n (S12 z) (sm12 z) j) (key12 n (S12 z) (sm12 z) l)) := le_no12 (HKE3.out p q l j hpq h2 hln hj hpl HE2.out)
                      have hl0 : (0 : Int) ≤ (l : Int) := by omega
                      clear HNL HL HN1 hpl
                      go_wp2_with fail
                      refine HPQ.mono ?_
                      rintro e8 w8 ⟨B, C, rfl, hBC, d2, hd2⟩
                      have hBf : B = false := by
                        cases B
                        · rfl
                        · exact absurd (hBC rfl) HNO.out
                      subst hBf
                      have HD2 : Hid (∃ d3, w8 = w5.drewN d3) := ⟨d + d2, by rw [hd2, HD.out]; exact World.drewN_drewN w5 d d2⟩
                      clear hBC hd2 HPQ
                      go_wp2_with fail
                      go_roundw
                      case rel => exact ⟨q + 1, (j : Int), by omega, by go_num, by go_num, HN3, HD2.out⟩
                      case measure => simp [intOf]; omega
            · have h2i : ¬ (q : Int) < (n : Int) := by omega
              go_wp2_with fail
              go_ret
              exact ⟨rfl, Cd⟩
        · go_wp2_with (first
            | (go_at_call 17; refine HIN2.mono ?_; rintro e5 w5 ⟨g5, rfl, R5, hg5, B5⟩; clear HIN2))
          have RZ5 := RZ.old B5
          have RB5 := RB.old B5
          have C5 := hb.trans (B5.mono hb.size)
          clear RZ RB hb B5 hg5
          go_loopw [14, 15] (fun tl ti wr => ∃ (q : Nat) (L : Int), q ≤ n ∧ tl = .int .i64 L ∧ ti = .int .i64 q ∧ Hid (L = -1 ∨ ∃ l p : Nat, L = (l : Int) ∧ l < n ∧ p < q ∧ ind12 n (S12 z) (sm12 z) o p = (l : Int)) ∧ ∃ d, wr = w5.drewN d) (fun _ ti _ => n - (intOf ti).toNat)
          case atStart => exact ⟨0, -1, Nat.zero_le _, rfl, rfl, Or.inl rfl, 0, rfl⟩
          case round =>
            obtain ⟨q, L, hq, rfl, rfl, HL, d, hd⟩ := hrel
            have R5d := R5.drewN d
            have RZd := RZ5.drewN d
            have RBd := RB5.drewN d
            have Cd : Below w.heap.size w (w5.drewN d) := C5.trans ⟨rfl, rfl, rfl, Nat.le_refl _, fun _ _ => rfl⟩
            rw [← hd] at R5d RZd RBd Cd
            have HD : Hid (wr = w5.drewN d) := hd
            clear hd
            by_cases h2 : q < n
            · have h2i : (q : Int) < (n : Int) := by omega
              obtain ⟨j, hj, e1, e2⟩ := HIL.out q h2
              have c1 := R5d.cell (i := q) (by rw [HILn.out]; exact h2)
              rw [e1] at c1
              have HE2 : Hid (ind12 n (S12 z) (sm12 z) o q = (j : Int)) := e2
              clear e1 e2
              have hji : (j : Int) < (n : Int) := by omega
              have hj0 : ¬ (j : Int) < 0 := by omega
              have hjn : ¬ (n : Int) ≤ (j : Int) := by omega
              have hjn2 : ¬ n ≤ j := by omega
              have HNL : Hid (∀ q2, q < q2 → (L = -1 ∨ ∃ l p : Nat, L = (l : Int) ∧ l < n ∧ p < q2 ∧ ind12 n (S12 z) (sm12 z) o p = (l : Int))) := fun q2 hq2 => by
                rcases HL.out with h | ⟨l, p, a1, a2, a3, a4⟩
                · exact Or.inl h
                · exact Or.inr ⟨l, p, a1, a2, by omega, a4⟩
              by_cases hz : j = 0
              · subst hz
                have HN1 := HNL.out (q + 1) (by omega)
                have HN2 : Hid (L = -1 ∨ ∃ l p : Nat, L = (l : Int) ∧ l < n ∧ p < q + 1 ∧ ind12 n (S12 z) (sm12 z) o p = (l : Int)) := HN1
                clear HN1 HNL HL
                go_wp2_with fail
                go_roundw
                case rel => exact ⟨q + 1, L, by omega, by go_num, by go_num, HN2, d, HD.out⟩
                case measure => simp [intOf]; omega
              · have hz1 : ¬ (j : Int) = 0 := by omega
                have c2 := RBd.cell (i := j) (by rw [HTLn.out.1]; exact hj)
                rw [HTLn.out.2] at c2
                have c3 := RBd.cell (i := j - 1) (by rw [HTLn.out.1]; omega)
                rw [HTLn.out.2] at c3
                obtain ⟨j1, hj1⟩ : ∃ j1, j1 = j - 1 := ⟨_, rfl⟩
                rw [← hj1] at c3
                have ej : (j : Int) - 1 = (j1 : Int) := by omega
                have ij : (j1 : Int) < (n : Int) := by omega
                clear hj1
                generalize sm12 z j = b1 at *
                generalize sm12 z j1 = b2 at *
                have HN1 : Hid (L = -1 ∨ ∃ l p : Nat, L = (l : Int) ∧ l < n ∧ p < q + 1 ∧ ind12 n (S12 z) (sm12 z) o p = (l : Int)) := HNL.out (q + 1) (by omega)
                cases b1 with
                | false =>
                  clear HNL HL
                  go_wp2_with fail
                  go_roundw
                  case rel => exact ⟨q + 1, L, by omega, by go_num, by go_num, HN1, d, HD.out⟩
                  case measure => simp [intOf]; omega
                | true =>
                  cases b2 with
                  | true =>
                    clear HNL HL
                    go_wp2_with fail
                    go_roundw
                    case rel => exact ⟨q + 1, L, by omega, by go_num, by go_num, HN1, d, HD.out⟩
                    case measure => simp [intOf]; omega
                  | false =>
                    have HN3 : Hid ((j : Int) = -1 ∨ ∃ l p : Nat, (j : Int) = (l : Int) ∧ l < n ∧ p < q + 1 ∧ ind12 n (S12 z) (sm12 z) o p = (l : Int)) := Or.inr ⟨j, q, rfl, hj, by omega, HE2.out⟩
                    rcases HL.out with hL | ⟨l, p, rfl, hln, hpq, hpl⟩
                    · subst hL
                      clear HNL HL HN1
                      go_wp2_with fail
                      go_roundw
                      case rel => exact ⟨q + 1, (j : Int), by omega, by go_num, by go_num, HN3, d, HD.out⟩
                      case measure => simp [intOf]; omega
                    · have HPQ := HPL.out wr g0 gt j l RZd RBd hj hln
                      have HNO : Hid (¬ LL12 (key12 n (S12 z) (sm12 z) j) (key12 n (S12 z) (sm12 z) l)) := le_no12 (HKE3.out p q l j hpq h2 hln hj hpl HE2.out)
                      have hl0 : (0 : Int) ≤ (l : Int) := by omega
                      clear HNL HL HN1 hpl
                      go_wp2_with fail
                      refine HPQ.mono ?_
                      rintro e8 w8 ⟨B, C, rfl, hBC, d2, hd2⟩
                      have hBf : B = false := by
                        cases B
                        · rfl
                        · exact absurd (hBC rfl) HNO.out
                      subst hBf
                      have HD2 : Hid (∃ d3, w8 = w5.drewN d3) := ⟨d + d2, by rw [hd2, HD.out]; exact World.drewN_drewN w5 d d2⟩
                      clear hBC hd2 HPQ
                      go_wp2_with fail
                      go_roundw
                      case rel => exact ⟨q + 1, (j : Int), by omega, by go_num, by go_num, HN3, HD2.out⟩
                      case measure => simp [intOf]; omega
            · have h2i : ¬ (q : Int) < (n : Int) := by omega
              go_wp2_with fail
              go_ret
              exact ⟨rfl, Cd⟩
end Go.Proofs.Ytbgnlbgoeogbaaa
