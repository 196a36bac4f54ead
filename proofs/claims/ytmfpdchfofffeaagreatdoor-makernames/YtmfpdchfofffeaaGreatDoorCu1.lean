import Derived.Test.YtmfpdchfofffeaaGreatDoorEd6
import Derived.Test.YtmfpdchfofffeaaGreatDoorCuM
namespace Go.Proofs.YtmfpdchfofffeaaGreatDoor
open Go.RowKit Go.Shelf
set_option linter.unusedVariables false
attribute [local go_sem] Oper.semAt_some
set_option maxRecDepth 100000 in
theorem ppcs17 (p0 : Int) (sa : Option Addr) (n sc : Nat) (da : Option Addr) (m dc : Nat) (xa : Option Addr) (k xc : Nat) (w : World) : Calls Tryz.prog 60 #[.int .i64 p0, ev16 sa n sc da m dc xa k xc] w fun e w' => e = .returned (.func (.func 91) #[] #[.pointer (some ⟨w.heap.size, 0, none⟩), .pointer (some ⟨w.heap.size + 1, 0, none⟩)]) ∧ Below w.heap.size w w' ∧ w'.heap.size = w.heap.size + 2 ∧ w'.heap[w.heap.size]? = some (.cells #[.int .i64 p0] 3 (0, 0)) ∧ w'.heap[w.heap.size + 1]? = some (.cells #[.slice sa n sc, .slice da m dc, .slice xa k xc] 48 (0, 0)) := by
  have hb := two_boxes16 w #[.int .i64 p0] 3 #[.slice sa n sc, .slice da m dc, .slice xa k xc] 48
  unfold ev16
  go_enter Tryz.func60, Tryz.ntmps60
  go_wp2
  go_ret
  exact ⟨rfl, hb⟩
/-- A slice that is cut from its front, time after time. -/
def ra17 (a : Option Addr) (c : Nat) (f : Nat → Nat) : Nat → Option Addr × Nat
  | 0 => (a, c)
  | i + 1 => (rs16 (ra17 a c f i).1 (ra17 a c f i).2 (f i), (ra17 a c f i).2 - f i)
/-- Sums. -/
def sm17 (f : Nat → Nat) : Nat → Nat
  | 0 => 0
  | i + 1 => sm17 f i + f i
theorem sm17_a (S : List St16) : ∀ i, sm17 (ad16 S) i = sa16 S i
  | 0 => rfl
  | i + 1 => by simp only [sm17, sa16]; rw [sm17_a S i]
theorem sm17_c (S : List St16) : ∀ i, sm17 (cp16 S) i = sc16 S i
  | 0 => rfl
  | i + 1 => by simp only [sm17, sc16]; rw [sm17_c S i]
theorem sm17_mono (f : Nat → Nat) {i : Nat} : ∀ n, i ≤ n → sm17 f i ≤ sm17 f n
  | 0, h => by have : i = 0 := by omega
               subst this; omega
  | n + 1, h => by
    rcases Nat.lt_or_ge i (n + 1) with h1 | h1
    · have := sm17_mono f (i := i) n (by omega)
      simp only [sm17]
      omega
    · have : i = n + 1 := by omega
      subst this; omega
theorem ra17_seg {V : World} {a : Option Addr} {c : Nat} {f : Nat → Nat} {L : List Int} (h : Seg V a L) (hc : L.length ≤ c) : ∀ i, sm17 f i ≤ L.length → Seg V (ra17 a c f i).1 (L.drop (sm17 f i)) ∧ (L.drop (sm17 f i)).length ≤ (ra17 a c f i).2 ∧ ∀ x off, (ra17 a c f i).1 = some ⟨x, off, none⟩ → 0 < (L.drop (sm17 f i)).length → ∃ o, a = some ⟨x, o, none⟩
  | 0, _ => by
    refine ⟨by simpa [sm17, ra17] using h, by simpa [sm17, ra17] using hc, fun x off e _ => ⟨off, e⟩⟩
  | i + 1, hi => by
    simp only [sm17] at hi
    obtain ⟨h1, h2, h3⟩ := ra17_seg (f := f) h hc i (by omega)
    have hl : f i ≤ (L.drop (sm17 f i)).length := by rw [List.length_drop]; omega
    obtain ⟨s1, s2⟩ := seg_rs16 (c := (ra17 a c f i).2) h1 hl h2
    have e1 : L.drop (sm17 f (i + 1)) = (L.drop (sm17 f i)).drop (f i) := by simp only [sm17]; rw [List.drop_drop]
    rw [e1]
    refine ⟨s1, ?_, fun x off e hx => ?_⟩
    · show _ ≤ (ra17 a c f i).2 - f i
      rw [List.length_drop]; omega
    · obtain ⟨o, ho⟩ := s2 x off e hx
      exact h3 x o ho (by rw [List.length_drop] at hx; omega)
/-- What is told of the k-th piece. -/
def pv17 (S : List St16) (da : Option Addr) (dc : Nat) (xa : Option Addr) (xc : Nat) (p0 : Int) (k : Nat) : Array Value :=
  if k % 2 = 0 then #[.agg #[.int .i64 (p0 + pl16 S (k / 2)), .slice (ra17 da dc (ad16 S) (k / 2)).1 (ad16 S (k / 2)) (ra17 da dc (ad16 S) (k / 2)).2, .bool true]]
  else #[.agg #[.int .i64 0, .slice (ra17 xa xc (cp16 S) (k / 2)).1 (cp16 S (k / 2)) (ra17 xa xc (cp16 S) (k / 2)).2, .bool false]]
def pL17 (S : List St16) (da : Option Addr) (dc : Nat) (xa : Option Addr) (xc : Nat) (p0 : Int) (n : Nat) : List (Array Value) := (List.range (2 * n)).map (pv17 S da dc xa xc p0)
theorem heap_drewN17 (W : World) : ∀ n, (W.drewN n).heap = W.heap :=
  fun _ => rfl
variable {S : List St16} {da : Option Addr} {dc : Nat} {xa : Option Addr} {xc : Nat} {p0 : Int}
theorem pL17_len (n : Nat) : (pL17 S da dc xa xc p0 n).length = 2 * n := by simp [pL17]
theorem pL17_a {n i : Nat} (h : i < n) : (pL17 S da dc xa xc p0 n)[2 * i]? = some #[.agg #[.int .i64 (p0 + pl16 S i), .slice (ra17 da dc (ad16 S) i).1 (ad16 S i) (ra17 da dc (ad16 S) i).2, .bool true]] := by
  have : 2 * i < 2 * n := by omega
  simp [pL17, this, pv17]
theorem pL17_c {n i : Nat} (h : i < n) : (pL17 S da dc xa xc p0 n)[2 * i + 1]? = some #[.agg #[.int .i64 0, .slice (ra17 xa xc (cp16 S) i).1 (cp16 S i) (ra17 xa xc (cp16 S) i).2, .bool false]] := by
  have : 2 * i + 1 < 2 * n := by omega
  have e1 : (2 * i + 1) % 2 ≠ 0 := by omega
  have e2 : (2 * i + 1) / 2 = i := by omega
  simp [pL17, this, pv17, e2]
set_option maxRecDepth 100000 in
set_option maxHeartbeats 4000000 in
theorem ps17 (q : Nat) (hq : 2 ≤ q) (Bp B : Nat) (R : Nat → Prop) {sa : Option Addr} {n sc m k : Nat} {D X : List Int} (w : World) (hBp : w.heap[Bp]? = some (.cells #[.int .i64 p0] 3 (0, 0))) (hB : w.heap[B]? = some (.cells #[.slice sa n sc, .slice da m dc, .slice xa k xc] 48 (0, 0))) (h : Ed16 w sa n S da m D xa k X) (hok : Hid (Ok16 S n)) (hsa : Hid (sa16 S n = m)) (hsc : Hid (sc16 S n = k)) (hdc : m ≤ dc) (hxc : k ≤ xc) (hp0 : 0 ≤ p0 ∧ p0 ≤ 16777216)
    (hRP : R Bp) (hRB : R B) (hRs : ∀ b off, sa = some ⟨b, off, none⟩ → 0 < S.length → R b) :
    Seq16 q Tryz.prog 91 #[.pointer (some ⟨Bp, 0, none⟩), .pointer (some ⟨B, 0, none⟩)] (pL17 S da dc xa xc p0 n) R w := by
  intro l J PX W hW hJ hP hY h0
  have hBW := hW.heap hB hRB
  have hPW := one_cell16 (hW.heap hBp hRP)
  have hsW := h.ss.kr hW hRs
  have hn : Hid (S.length = n) := h.hn
  have hln := h.ln
  have hlm := h.lm
  have hlk := h.lk
  have d0 := three_cell0 hBW
  have d1 := three_cell1 hBW
  have d2 := three_cell2 hBW
  have HRA : Hid (∀ i, i ≤ n → m - sa16 S i ≤ (ra17 da dc (ad16 S) i).2 ∧ k - sc16 S i ≤ (ra17 xa xc (cp16 S) i).2) := fun i hi => by
    have e1 := sm17_mono (ad16 S) n hi
    have e2 := sm17_mono (cp16 S) n hi
    have t1 := (ra17_seg (f := ad16 S) h.sd (by rw [h.hm]; exact hdc) i (by rw [h.hm, ← hsa.out, ← sm17_a]; exact e1)).2.1
    have t2 := (ra17_seg (f := cp16 S) h.sx (by rw [h.hk]; exact hxc) i (by rw [h.hk, ← hsc.out, ← sm17_c]; exact e2)).2.1
    rw [List.length_drop, sm17_a, h.hm] at t1
    rw [List.length_drop, sm17_c, h.hk] at t2
    exact ⟨t1, t2⟩
  clear hBp hB h
  refine callsIn_of_wp Tryz.func91 rfl trivial ?_ rfl
  simp only [Tryz.ntmps91, List.size_toArray, List.length_cons, List.length_nil, Nat.reduceAdd, Nat.reduceSub, Array.replicate_succ, Array.replicate_zero, List.push_toArray, List.append_toArray, List.nil_append, List.cons_append]
  gi_wp2
  refine wpIn_wide.2 ?_
  go_quiet (fail)
  have bq : Below W.heap.size W (W.drewN nq) := below_drewN16 (Below.refl _ _) nq
  have eq : (W.drewN nq).heap = W.heap := heap_drewN17 W nq
  have hs0 : SegS (W.drewN nq) sa S := hsW.old bq
  have c0 : (W.drewN nq).cell? ⟨B, 0, none⟩ = some (.slice sa n sc) := three_cell0 (by rw [eq]; exact hBW)
  have hj0 : J 0 (fun _ => False) (W.drewN nq) := hJ 0 _ _ W _ h0 (fun k hk => hk.elim) (Kp.of_below bq) (fun k hk => hk.elim) (fun k hk => hk.elim) (fun k hk => hk.elim)
  have k0 : Kr16 R W (W.drewN nq) := ⟨bq.size, fun k hk _ => bq.block k hk⟩
  generalize W.drewN nq = W0 at hs0 c0 hj0 k0 ⊢
  clear d0 d1 d2 hPW hBW hsW h0 bq eq
  gi_wp2
  gi_loopw [4, 5, 6, 17] (fun t4 t5 t6 t17 wr => ∃ (i : Nat) (E : Nat → Prop), i ≤ n ∧ t17 = .int .i64 (i : Int) ∧ t4 = .int .i64 (p0 + pl16 S i) ∧ t5 = .slice (ra17 da dc (ad16 S) i).1 (m - sa16 S i) (ra17 da dc (ad16 S) i).2 ∧ t6 = .slice (ra17 xa xc (cp16 S) i).1 (k - sc16 S i) (ra17 xa xc (cp16 S) i).2 ∧ J (2 * i) E wr ∧ Lo16 W.heap.size E wr ∧ Kr16 R W0 wr ∧ Kr16 R W wr) (fun _ _ _ t17 _ => n - (intOf t17).toNat)
  case atStart => exact ⟨0, fun _ => False, Nat.zero_le _, rfl, by simp [pl16], rfl, rfl, hj0, fun k hk => hk.elim, Kr16.refl _ _, k0⟩
  case round =>
    obtain ⟨i, E, hi, rfl, rfl, rfl, rfl, hJi, hlo, hkr0, hkr⟩ := hrel
    by_cases hlt : i < n
    · have hii : (i : Int) < (n : Int) := by omega
      have hi0 : (0 : Int) ≤ (i : Int) := by omega
      have hil : i < S.length := by rw [hn.out]; exact hlt
      obtain ⟨b, off, rfl, hT⟩ := (hs0.kr hkr0 hRs).at_ i hil
      have hc0 := hT.c0
      have hc1 := hT.c1
      have hc2 := hT.c2
      obtain ⟨q1, q2, q3, q4, q5, q6⟩ := ad16_le hok.out hlt
      obtain ⟨p1, p2, p3, p4⟩ := sa16_le i (hok.out.mono hi)
      have hmo := sa16_mono (S := S) (i := i + 1) n (by omega)
      rw [hsa.out, hsc.out] at hmo
      have hmo2 : sa16 S (i + 1) = sa16 S i + ad16 S i ∧ sc16 S (i + 1) = sc16 S i + cp16 S i := ⟨rfl, rfl⟩
      have HPL : Hid (pl16 S (i + 1) = pl16 S i + (ad16 S i : Int) + sk16 S i) := rfl
      have hg1 := pL17_a (S := S) (da := da) (dc := dc) (xa := xa) (xc := xc) (p0 := p0) hlt
      have hg2 := pL17_c (S := S) (da := da) (dc := dc) (xa := xa) (xc := xc) (p0 := p0) hlt
      have hra := HRA.out i hi
      have HR1 : Hid (ra17 da dc (ad16 S) (i + 1) = (rs16 (ra17 da dc (ad16 S) i).1 (ra17 da dc (ad16 S) i).2 (ad16 S i), (ra17 da dc (ad16 S) i).2 - ad16 S i)) := rfl
      have HR2 : Hid (ra17 xa xc (cp16 S) (i + 1) = (rs16 (ra17 xa xc (cp16 S) i).1 (ra17 xa xc (cp16 S) i).2 (cp16 S i), (ra17 xa xc (cp16 S) i).2 - cp16 S i)) := rfl
      have hsk : (S.getD i z16).2.2 = sk16 S i := rfl
      rw [← q3] at hc0
      rw [← q4] at hc1
      rw [hsk] at hc2
      obtain ⟨wA, hwA⟩ : ∃ wA, wA = wr.alloc (.cells #[.int .i64 (ad16 S i : Int), .int .i64 (cp16 S i : Int), .int .i64 (sk16 S i)] 108) := ⟨_, rfl⟩
      have tA : SpAt wA wr.heap.size 0 ((ad16 S i : Int), (cp16 S i : Int), sk16 S i) := boxS hwA
      have bA : Below wr.heap.size wr wA := by rw [hwA]; exact below_box16 _ _
      have szA : wA.heap.size = wr.heap.size + 1 := by rw [hwA]; simp
      obtain ⟨E', hE'⟩ : ∃ E' : Nat → Prop, E' = fun k => E k ∨ k = wr.heap.size := ⟨_, rfl⟩
      have hszr := hkr.size
      have hlo' : Lo16 W.heap.size E' wA := by
        intro k hk
        rw [hE'] at hk
        rcases hk with hk | hk
        · have := hlo k hk; omega
        · omega
      have hJA : J (2 * i) E' wA := hJ _ E E' wr wA hJi hlo (Kp.of_below bA) (fun k hk => by rw [hE']; exact .inl hk) (fun k hk => by rw [hE'] at hk; rcases hk with hk | hk; exact .inl hk; exact .inr (by omega)) hlo'
      have hkA : Kr16 R W wA := hkr.trans ⟨bA.size, fun k hk _ => bA.block k hk⟩
      have hkA0 : Kr16 R W0 wA := hkr0.trans ⟨bA.size, fun k hk _ => bA.block k hk⟩
      have hEB : E' wr.heap.size := by rw [hE']; exact .inr rfl
      obtain ⟨fn, tmps, assign, body, hy, hR⟩ := hY _ _ E' wA hg1 hJA hlo' hkA
      have HY2 : Hid (∀ W3, J (2 * i + 1) E' W3 → Kr16 (fun k => E' k ∨ R k) wA W3 → YieldAt Fence.wide (q - 1) Tryz.prog l #[.agg #[.int .i64 0, .slice (ra17 xa xc (cp16 S) i).1 (cp16 S i) (ra17 xa xc (cp16 S) i).2, .bool false]] W3 (Yd16 J PX (2 * i + 1) E' (fun k => E' k ∨ R k) W3)) := fun W3 j3 k3 =>
        hY _ _ E' W3 hg2 j3 (fun k hk => ⟨(hlo' k hk).1, Nat.lt_of_lt_of_le (hlo' k hk).2 k3.size⟩) (hkA.trans (k3.mono fun k hk => .inr hk))
      have hol := tA.lt
      have HTA : Hid (∀ W3, Kr16 (fun k => E' k ∨ R k) wA W3 → SpAt W3 wr.heap.size 0 ((ad16 S i : Int), (cp16 S i : Int), sk16 S i)) := fun W3 h3 => tA.of_block (h3.block _ hol (.inl hEB))
      have a0 := tA.c0
      have a1 := tA.c1
      have a2 := tA.c2
      have HLO : Hid (Lo16 W.heap.size E' wA) := hlo'
      have HKA : Hid (Kr16 R W wA) := hkA
      have HKA0 : Hid (Kr16 R W0 wA) := hkA0
      rw [hwA] at hy a0 a1 a2
      have HWA : Hid (wA = wr.alloc (.cells #[.int .i64 (ad16 S i : Int), .int .i64 (cp16 S i : Int), .int .i64 (sk16 S i)] 108)) := hwA
      have HSA : Hid (sa16 S (i + 1) = sa16 S i + ad16 S i ∧ sc16 S (i + 1) = sc16 S i + cp16 S i) := hmo2
      obtain ⟨dl, hdl⟩ : ∃ dl, dl = m - sa16 S i := ⟨_, rfl⟩
      obtain ⟨xl, hxl⟩ : ∃ xl, xl = k - sc16 S i := ⟨_, rfl⟩
      have hd2 : m - sa16 S (i + 1) = dl - ad16 S i := by omega
      have hx2 : k - sc16 S (i + 1) = xl - cp16 S i := by omega
      have b1 : ad16 S i ≤ dl ∧ cp16 S i ≤ xl := by omega
      have HD2 : Hid (m - sa16 S (i + 1) = dl - ad16 S i) := hd2
      have HX2 : Hid (k - sc16 S (i + 1) = xl - cp16 S i) := hx2
      rw [← hdl, ← hxl] at hra ⊢
      clear hT hg1 hg2 hsk tA bA szA hE' hlo' hJA hkA hkA0 hJi hwA q3 q4 hlo hkr hkr0 hmo hmo2 hdl hxl hd2 hx2 HSA hszr
      generalize hpl : pl16 S i = p at *
      generalize hai : ad16 S i = ai at *
      generalize hci : cp16 S i = ci at *
      generalize hsi : sk16 S i = si at *
      generalize hr1 : ra17 da dc (ad16 S) i = r1 at *
      generalize hr2 : ra17 xa xc (cp16 S) i = r2 at *
      clear hpl hai hci hsi hr1 hr2
      obtain ⟨ua, uc⟩ := r1
      obtain ⟨va, vc⟩ := r2
      simp only at *
      have b2 : (ai : Int) ≤ (uc : Int) := by omega
      have b3 : (ci : Int) ≤ (vc : Int) := by omega
      have b4 : (ai : Int) ≤ (dl : Int) := by omega
      have b5 : (ci : Int) ≤ (xl : Int) := by omega
      have b6 : ai ≤ uc := by omega
      have b7 : ci ≤ vc := by omega
      have ai0 : (0 : Int) ≤ (ai : Int) := by omega
      have ci0 : (0 : Int) ≤ (ci : Int) := by omega
      gi_wp2
      refine ⟨fun _ => by omega, ?_⟩
      rw [← HWA.out]
      refine hR.mono ?_
      rintro e W3 hyd
      cases e with
      | returned v =>
        obtain ⟨rfl, hJ3, hk3⟩ := hyd
        obtain ⟨e0, e1, e2⟩ := HTA.out W3 hk3
        simp only at e0 e1 e2
        obtain ⟨fn2, tmps2, assign2, body2, hy2, hR2⟩ := HY2.out W3 hJ3 hk3
        have HK3 : Hid (Kr16 (fun k => E' k ∨ R k) wA W3) := hk3
        clear hJ3 hk3 hR hy a0 a1 a2 HWA HY2
        gi_wp2
        refine ⟨fun _ => by omega, ?_⟩
        refine hR2.mono ?_
        rintro e W4 hyd
        cases e with
        | returned v =>
          obtain ⟨rfl, hJ4, hk4⟩ := hyd
          have hk5 := HK3.out.trans hk4
          obtain ⟨f0, f1, f2⟩ := HTA.out W4 hk5
          simp only at f0 f1 f2
          have HJ4 : Hid (J (2 * i + 1 + 1) E' W4) := hJ4
          have HL4 : Hid (Lo16 W.heap.size E' W4) := fun k hk => ⟨(HLO.out k hk).1, Nat.lt_of_lt_of_le (HLO.out k hk).2 hk5.size⟩
          have HK4 : Hid (Kr16 R W0 W4 ∧ Kr16 R W W4) := ⟨HKA0.out.trans (hk5.mono fun k hk => .inr hk), HKA.out.trans (hk5.mono fun k hk => .inr hk)⟩
          clear hJ4 hk4 hk5 hR2 hy2 HTA HLO HKA HKA0 HK3 e0 e1 e2
          have hw1 : IntKind.i64.wrap (p0 + p + (ai : Int)) = p0 + p + (ai : Int) := IntWalk.i64_in _ (by omega)
          have hw2 : IntKind.i64.wrap (p0 + p + (ai : Int) + si) = p0 + p + (ai : Int) + si := IntWalk.i64_in _ (by omega)
          gi_wp2
          refine wpIn_wide.2 ?_
          go_quiet (fail)
          have HB4 : Hid (Below W4.heap.size W4 (W4.drewN nq)) := below_drewN16 (Below.refl _ _) nq
          generalize W4.drewN nq = W5 at HB4 ⊢
          gi_wp2
          go_roundw
          case rel =>
            have hb := HB4.out
            refine ⟨i + 1, E', by omega, by simp, by rw [HPL.out]; congr 1; omega, by rw [HR1.out, HD2.out]; rfl, by rw [HR2.out, HX2.out]; rfl, ?_, ?_, HK4.out.1.trans ⟨hb.size, fun k hk _ => hb.block k hk⟩, HK4.out.2.trans ⟨hb.size, fun k hk _ => hb.block k hk⟩⟩
            · exact hJ _ E' E' W4 W5 HJ4.out HL4.out (Kp.of_below hb) (fun k hk => hk) (fun k hk => .inl hk) (fun k hk => ⟨(HL4.out k hk).1, Nat.lt_of_lt_of_le (HL4.out k hk).2 hb.size⟩)
            · exact fun k hk => ⟨(HL4.out k hk).1, Nat.lt_of_lt_of_le (HL4.out k hk).2 hb.size⟩
          case measure => simp [intOf]; omega
        | panicked ch =>
          obtain ⟨hx, hk3⟩ := hyd
          have hk5 := HK3.out.trans hk3
          have HL3 : Hid (Lo16 W.heap.size E' W4) := fun k hk => ⟨(HLO.out k hk).1, Nat.lt_of_lt_of_le (HLO.out k hk).2 hk5.size⟩
          have HX : Hid (PX ch E' W4) := hx
          clear hx hk3 hk5 hR2 hy2 HTA HLO HKA HKA0
          gi_wp2
          exact ⟨rfl, E', HL3.out, HX.out⟩
        | outgrown => exact hyd.elim
      | panicked ch =>
        obtain ⟨hx, hk3⟩ := hyd
        have HL3 : Hid (Lo16 W.heap.size E' W3) := fun k hk => ⟨(HLO.out k hk).1, Nat.lt_of_lt_of_le (HLO.out k hk).2 hk3.size⟩
        have HX : Hid (PX ch E' W3) := hx
        clear hx hk3 hR hy HTA HLO HKA HKA0
        gi_wp2
        exact ⟨rfl, E', HL3.out, HX.out⟩
      | outgrown => exact hyd.elim
    · have hk2 : i = n := by omega
      have hneg : ¬ (i : Int) < (n : Int) := by omega
      have HJ : Hid (J (pL17 S da dc xa xc p0 n).length E wr) := by show J _ _ _; rw [pL17_len, ← hk2]; exact hJi
      clear hk2 hJi
      gi_wp2
      go_end0
      exact ⟨E, hlo, HJ.out⟩
end Go.Proofs.YtmfpdchfofffeaaGreatDoor
