import Derived.Test.YthcmebmohhajaaaDoorPk
import Derived.Test.YthcmebmohhajaaaDoorPv
import Derived.Lib.SmallJoins
import Derived.Test.YthcmebmohhajaaaDoorPm
namespace Go.Proofs.YthcmebmohhajaaaDoor
open Go.RowKit
set_option linter.unusedVariables false

/-! Layer 8's helpers: num, awake; a row of runs that is written over. -/
theorem runs_5555 : rns8 [5, 5, 5, 5] = [⟨5, 1⟩, ⟨16, 3⟩] ∧ rer8 [5, 5, 5, 5] = 0 := by
  have h : may8 [5, 5, 5, 5] := by decide
  unfold rns8 rer8
  rw [if_pos h, if_pos h]
  refine ⟨?_, rfl⟩
  simp [runs8, rung8, row8, pre8, rep8, sum8]
theorem seg_lit48 (w : World) (x0 x1 x2 x3 : Int) (h : ∀ z ∈ [x0, x1, x2, x3], -9223372036854775808 ≤ z ∧ z ≤ 9223372036854775807) : SegZ (w.alloc (.cells #[.int .i64 x0, .int .i64 x1, .int .i64 x2, .int .i64 x3] 3)) (some ⟨w.heap.size, 0, none⟩) [x0, x1, x2, x3] := by
  refine ⟨fun i hi => ⟨w.heap.size, 0, rfl, ?_⟩, getD_bdz h⟩
  simp only [List.length_cons, List.length_nil] at hi
  match i, hi with
  | 0, _ => simp
  | 1, _ => simp
  | 2, _ => simp
  | 3, _ => simp
set_option maxRecDepth 100000 in
set_option maxHeartbeats 1000000 in
theorem awake8 (w : World) (T : TabS w) : Calls Tryd.prog 8 #[] w fun e w' => e = .returned (.bool true) ∧ Below w.heap.size w w' := by
  have s1 := seg_lit48 w 5 5 5 5 (by intro z hz; simp at hz; omega)
  have C1 := pruns8 [5, 5, 5, 5] (some ⟨w.heap.size, 0, none⟩) 4 4 rfl (by omega) _ s1 (T.alloc _)
  unfold RsQ at C1
  rw [runs_5555.1, runs_5555.2] at C1
  go_enter Tryd.func8, Tryd.ntmps8
  go_wp2_with fail
  refine C1.mono ?_
  rintro e w1 ⟨b, c, rfl, O1, B1⟩
  have B0 : Below w.heap.size w w1 := ((Below.refl _ _).alloc (Nat.le_refl _) _).trans (B1.mono (by simp))
  have s2 := own_segN O1 rfl
  obtain ⟨b0, off, rfl, c0, c1⟩ := s2.at_ 0 (by simp)
  obtain ⟨b1, off1, e, c2, c3⟩ := s2.at_ 1 (by simp)
  cases e
  simp only [Nat.zero_mul, Nat.add_zero, List.getD_cons_zero, List.getD_cons_succ, Nat.one_mul] at c0 c1 c2 c3
  clear s2 O1 C1 s1 B1
  go_wp2_with fail
  go_ret
  exact ⟨rfl, B0⟩
/-- A store within a row of the call's own: it is still the call's own. -/
theorem own_set2 {w : World} {base n c g : Nat} {e : TypeId} {xs : List Value} (h : w.ownsRow base e 2 (.slice (some ⟨g, 0, none⟩) n c) n xs) (i : Nat) (v : Value) : ∃ xs', (w.setCell ⟨g, i, none⟩ v).ownsRow base e 2 (.slice (some ⟨g, 0, none⟩) n c) n xs' := by
  rcases h.2 with ⟨h1, _⟩ | ⟨g', cap, cur, h1, h2, h3, h4, h5, h6, h7⟩
  · simp at h1
  · simp only [Value.slice.injEq, Option.some.injEq, Addr.mk.injEq] at h1
    obtain ⟨⟨rfl, _⟩, _, rfl⟩ := h1
    have hb := Go.Joins.block_setCell h3 (i := i) v
    refine ⟨(cur.setIfInBounds i v).toList.take (n * 2), ?_, .inr ⟨g, c, _, rfl, h2, hb, h4, h5, by simpa using h6, rfl⟩⟩
    have : n * 2 ≤ cur.size := by rw [h6]; exact Nat.mul_le_mul_right 2 h4
    simp [List.length_take]
    omega
theorem own_cell2 {w : World} {base n c g : Nat} {e : TypeId} {xs : List Value} (h : w.ownsRow base e 2 (.slice (some ⟨g, 0, none⟩) n c) n xs) (j : Nat) (hj : j < n * 2) : (∃ v, w.cell? ⟨g, j, none⟩ = some v) ∧ w.frozen? ⟨g, j, none⟩ = false := by
  rcases h.2 with ⟨h1, _⟩ | ⟨g', cap, cur, h1, h2, h3, h4, h5, h6, h7⟩
  · simp at h1
  · simp only [Value.slice.injEq, Option.some.injEq, Addr.mk.injEq] at h1
    obtain ⟨⟨rfl, _⟩, _, rfl⟩ := h1
    have : j < cur.size := by rw [h6]; have := Nat.mul_le_mul_right 2 h4; omega
    exact ⟨⟨cur[j], by simp [World.cell?, h3, this]⟩, by simp [World.frozen?, h3]⟩
theorem own_shape2 {w : World} {base n : Nat} {e : TypeId} {v : Value} {xs : List Value} (h : w.ownsRow base e 2 v n xs) (hn : 0 < n) : ∃ g cap, v = .slice (some ⟨g, 0, none⟩) n cap ∧ n ≤ cap ∧ base ≤ g ∧ g < w.heap.size := by
  rcases h.2 with ⟨_, h0⟩ | ⟨g, cap, cur, h1, h2, h3, h4, _⟩
  · omega
  · exact ⟨g, cap, h1, h4, h2, (Array.getElem?_eq_some_iff.1 h3).1⟩
/-- A run behind a row of the call's own, whatever it holds. -/
theorem wpList_appNx {P : Program} {ops : Array Oper} {rest : List Oper} {o : Oper} {a : Act} {Q : Exit → Act → World → Prop} (hgd : o.guard = none) (s x : Operand) (t : TypeId)
    (ho : o.op = .call { callee := .builtin .append, args := #[s, x], argTypes := #[t, t] })
    (base : Nat) (e : TypeId) (i : TypeInfo) (z : Value) (bytes : Nat) (ht : P.underlying t = some (.slice e)) (hi : P.info? e = some i) (hz : i.zero = some z)
    (hsize : i.size = 2) (hby : i.bytes = bytes) (hzs : z.cells.size = 2) (w0 : World) (y : Rn8)
    {ra : Option Addr} {n rc : Nat} {xs : List Value} (hown : w0.ownsRow base e 2 (.slice ra n rc) n xs) (hs : a.eval s = .slice ra n rc) (hx : a.eval x = .slice (some ⟨w0.heap.size, 0, none⟩) 1 1)
    (h63 : n + 1 ≤ 140737488355328) (hbytes : (n + 1) * bytes ≤ 140737488355328) (hbase : base ≤ w0.heap.size)
    (h : ∀ (g : Nat) (c : Nat) (w' : World) (xs' : List Value), w'.ownsRow base e 2 (.slice (some ⟨g, 0, none⟩) (n + 1) c) (n + 1) xs' → Kp (fun k => (Value.slice ra n rc).ownBlock = some k) w0 w' → Fresh w0 (.slice ra n rc) (.slice (some ⟨g, 0, none⟩) (n + 1) c) → wpList P ops Q rest (a.put o.dst (.slice (some ⟨g, 0, none⟩) (n + 1) c)) w') : wpList P ops Q (o :: rest) a (w0.alloc (.cells #[.int .i64 y.sy, .int .i64 y.ct] e)) := by
  have hnew : ∀ j u, ([.int .i64 y.sy, .int .i64 y.ct] : List Value)[j]? = some u → (w0.alloc (.cells #[.int .i64 y.sy, .int .i64 y.ct] e)).cell? ((⟨w0.heap.size, 0, none⟩ : Addr).add j) = some u := by
    intro j u hu
    have hadd : (⟨w0.heap.size, 0, none⟩ : Addr).add j = ⟨w0.heap.size, j, none⟩ := by unfold Addr.add; split <;> simp_all
    rw [hadd]
    have hh := heap_alloc_new w0 (.cells #[.int .i64 y.sy, .int .i64 y.ct] e)
    simp only [World.cell?, hh]
    simpa using hu
  refine wpList_append_lies _ hgd s x t ho base e i z 2 bytes ht hi hz hsize hby hzs (by decide) _ n xs hs (hown.alloc _) ⟨w0.heap.size, 0, none⟩ 1 1 [.int .i64 y.sy, .int .i64 y.ct] hx rfl hnew (by intro u hu; simp only [List.mem_cons, List.not_mem_nil, or_false] at hu; rcases hu with rfl | rfl <;> rfl) (by decide) (by unfold maxLen; omega) hbytes (by simp; omega) (w0.heap.size + 1) (by simp) ?_
  intro g c w' h1 h2 h3 _
  refine h g c w' _ h1 ?_ ?_
  · exact (Kp.alloc w0 _).trans (Kp.grown (S := fun k => (Value.slice ra n rc).ownBlock = some k) h2 (fun i e => e)) (fun _ _ e => e)
  · intro k hk
    have hk' : k = g := by simpa [Value.ownBlock] using hk.symm
    subst hk'
    rcases h3 with h3 | h3
    · exact .inl h3
    · exact .inr (by omega)
end Go.Proofs.YthcmebmohhajaaaDoor

namespace Go.Proofs.YthcmebmohhajaaaDoor
open Go.RowKit
set_option linter.unusedVariables false

/-! HeadTold. -/
theorem tabO_two8 {w : World} (h : TabO w) : 2 ≤ w.heap.size := by
  have := World.block_lt_of_cell? w _ (h.at8 0 (by omega))
  simp at this
  omega
theorem feed_one8 (br : Nat) (H : List Bool) (t : Nat) (g o : Nat) (x : Int) (c : Nat) (w : World) (h : Rd w br H t) (hs : Seg w (some ⟨g, o, none⟩) [x]) (hc : 1 ≤ c) (hg : g ≠ br) (hH : H.length ≤ 56) :
    Calls Tryd.prog 19 #[.pointer (some ⟨br, 0, none⟩), .slice (some ⟨g, o, none⟩) 1 c] w fun e w' => e = .returned (.int .i64 1) ∧ Rd w' br (H ++ bB [x]) t ∧ Kp (fun k => k = br) w w' := by
  have := feed_any br H t (some ⟨g, o, none⟩) [x] c w h hs hc (fun g2 o2 e _ => by cases e; exact hg) (by simp)
  have e : feedN H [x].length = 1 := by unfold feedN; simp; omega
  rw [e] at this
  exact this
theorem seg_one8 {w : World} {g o : Nat} {z : List Int} (h : Seg w (some ⟨g, o, none⟩) z) {i : Nat} (hi : i < z.length) : Seg w (some ⟨g, o + i, none⟩) [z.getD i 0] := by
  have := (h.drop i).take 1
  have e : (z.drop i).take 1 = [z.getD i 0] := by
    rw [List.drop_eq_getElem_cons hi, List.take_succ_cons, List.take_zero]
    simp only [List.getD, List.getElem?_eq_getElem hi, Option.getD_some]
  rw [e] at this
  exact this
set_option maxRecDepth 100000 in
set_option maxHeartbeats 4000000 in
theorem headTold_walk (w : World) (tab : TabS w ∧ TabO w) (a : Option Addr) (z : List Int) (cap : Nat) (hs : Seg w a z) (hc : z.length ≤ cap) (hnil : a = none → cap = 0) (hl : z.length ≤ 140737488351232) :
    Calls Tryd.prog 5 #[.slice a z.length cap] w fun e w' => e = .returned (.bool true) ∧ Below w.heap.size w w' := by
  obtain ⟨TS, TO⟩ := tab
  have h2 := tabO_two8 TO
  obtain ⟨n, hnn⟩ : ∃ n, n = z.length := ⟨_, rfl⟩
  have HN : Hid (z.length = n) := hnn.symm
  rw [← hnn] at hl hc ⊢
  clear hnn
  have HTS : Hid (TabS w) := TS
  have HTO : Hid (TabO w) := TO
  have HS : Hid (Seg w a z) := hs
  clear hs TO
  go_enter Tryd.func5, Tryd.ntmps5
  go_wp2_with fail
  refine (pnew8 w).mono ?_
  rintro e w1 ⟨b, hb, rfl, RB, B1⟩
  go_wp2_with fail
  refine (awake8 w1 (SegZ.old TS B1)).mono ?_
  rintro e w2 ⟨rfl, B2⟩
  have R2 : RdH w2 b ini8 := (pnew_rd8 RB).keep (B2.block b RB.lt)
  have B12 := B1.trans (B2.mono B1.size)
  have hb2 := R2.lt
  clear RB B1 B2 TS
  go_wp2_with fail
  have q3 := heap_alloc_new w2 (.cells #[.int .u64 0, .int .i64 0, .int .i64 0] 52)
  have K3 : Kp (fun _ => False) w2 (w2.alloc (.cells #[.int .u64 0, .int .i64 0, .int .i64 0] 52)) := Kp.alloc w2 _
  have B3 : Below w.heap.size w (w2.alloc (.cells #[.int .u64 0, .int .i64 0, .int .i64 0] 52)) := B12.alloc B12.size _
  generalize w2.alloc (.cells #[.int .u64 0, .int .i64 0, .int .i64 0] 52) = w3 at *
  obtain ⟨br, hbr⟩ : ∃ br, br = w2.heap.size := ⟨_, rfl⟩
  rw [← hbr] at q3 ⊢
  have hne : b ≠ br := by omega
  have hbr2 : w.heap.size ≤ br := by have := B12.size; omega
  have R3 : RdH w3 b ini8 := R2.keep (K3.block b hb2 (fun e => e))
  have r3 : Rd w3 br [] 0 := Rd.new q3
  have HI : Hid (RdH w3 b ini8 ∧ Rd w3 br [] 0 ∧ Below w.heap.size w w3) := ⟨R3, r3, B3⟩
  clear R2 B12 hb2 q3 K3 B3 hbr R3 r3
  go_loopw [5] (fun ti wr => ∃ (i : Nat) (s : S8) (H : List Bool) (t : Nat), i ≤ n ∧ ti = .int .i64 (i : Int) ∧ Ok8 s ∧ s.nx < 4 ∧ Wait8 s H ∧ t + H.length = 8 * i ∧ RdH wr b s ∧ Rd wr br H t ∧ Below w.heap.size w wr) (fun ti _ => n - (intOf ti).toNat)
  case atStart => exact ⟨0, ini8, [], 0, by omega, rfl, ini8_ok, by decide, .inl ⟨rfl, by decide⟩, rfl, HI.out.1, HI.out.2.1, HI.out.2.2⟩
  case round =>
    obtain ⟨i, s, H, t, hin, rfl, ok, h4, hw, hth, hR, hr, Bw⟩ := hrel
    clear HI
    by_cases hlt : i < n
    · have hlti : (i : Int) < (n : Int) := by omega
      obtain ⟨g, o, rfl, c0⟩ := (HS.out.old Bw).at_ i (by have := HN.out; omega)
      have hgl : g < w.heap.size := HS.out.lt g o rfl (by have := HN.out; omega)
      have hsh := hw.short ok h4
      have CF := feed_one8 br H t g (o + i) (z.getD i 0) (cap - i) wr hr (seg_one8 (HS.out.old Bw) (by have := HN.out; omega)) (by omega) (by omega) (by omega)
      have HOK : Hid (Ok8 s) := ok
      have HR : Hid (RdH wr b s) := hR
      have HBw : Hid (Below w.heap.size w wr) := Bw
      have HWT : Hid (Wait8 s H) := hw
      have i1 : IntKind.i64.wrap ((i : Int) + 1) = (i : Int) + 1 := IntWalk.i64_in _ (by omega)
      generalize z.getD i 0 = x at CF
      clear ok hR hr Bw hw c0
      go_wp2_with fail
      refine CF.mono ?_
      rintro e w4 ⟨rfl, r4, k4⟩
      have R4 : RdH w4 b s := HR.out.keep (k4.block b HR.out.lt hne)
      have B4 : Below w.heap.size w w4 := HBw.out.trans (k4.below (fun _ e => by omega) HBw.out.size)
      have CS := pstep8 b br s (H ++ bB [x]) t w4 (SegZ.old HTS.out B4) (SegZ.old HTO.out B4) hne (by omega) (by omega) HOK.out R4 r4 (by omega)
      have HB4 : Hid (Below w.heap.size w w4) := B4
      clear CF R4 k4 B4 r4
      go_wp2_with fail
      refine CS.mono ?_
      rintro e w5 ⟨s', m, run, wt, rfl, R5, r5, k5⟩
      have ok5 := run.ok HOK.out
      have B5 : Below w.heap.size w w5 := HB4.out.trans (k5.below (fun _ e => by rcases e with e | e <;> omega) HB4.out.size)
      have top := ok5.top
      have HB5 : Hid (Below w.heap.size w w5) := B5
      have HOK5 : Hid (Ok8 s') := ok5
      clear CS k5 B5 ok5
      obtain hx | hx | hx : s'.nx = 5 ∨ s'.nx = 4 ∨ s'.nx < 4 := by omega
      · rw [if_pos hx, decide_eq_false (by omega)]
        clear run wt R5 r5
        go_wp2_with fail
        go_ret
        exact ⟨rfl, HB5.out⟩
      · rw [if_neg (by omega), decide_eq_true hx]
        have CL := plens84 b s' w5 R5 HOK5.out hx
        have h45 := HOK5.out.at4 hx
        have hol := HOK5.out.ol
        have hob := HOK5.out.ob
        clear run wt R5 r5
        go_wp2_with fail
        refine CL.mono ?_
        rintro e w6 ⟨g1, g2, rfl, o1, o2, hg, b6⟩
        have B6 : Below w.heap.size w w6 := HB5.out.trans (b6.mono HB5.out.size)
        obtain ⟨L, hL⟩ : ∃ L, L = s'.out.take s'.lit := ⟨_, rfl⟩
        obtain ⟨D, hD⟩ : ∃ D, D = s'.out.drop s'.lit := ⟨_, rfl⟩
        have hLl : L.length = s'.lit := by rw [hL, List.length_take]; omega
        have hDl : D.length = s'.dist := by rw [hD, List.length_drop]; omega
        have sL : SegZ w6 (some ⟨g1, 0, none⟩) L := by rw [hL]; exact own_segZ o1.own (fun z hz => by have := hob z (List.mem_of_mem_take hz); omega)
        have sD : SegZ w6 (some ⟨g2, 0, none⟩) D := by rw [hD]; exact own_segZ o2.own (fun z hz => by have := hob z (List.mem_of_mem_drop hz); omega)
        have ht : tld8 errC L D := by rw [hL, hD]; exact h45.2
        have hsum : s'.lit + s'.dist ≤ 316 := by omega
        have HL : Hid (L.length = s'.lit) := hLl
        have HD : Hid (D.length = s'.dist) := hDl
        generalize s'.lit = l at *
        generalize s'.dist = d at *
        have hsumi : (l : Int) + (d : Int) ≤ 316 := by omega
        have HT : Hid (tld8 errC L D) := ht
        have CC := pcost8 L D (some ⟨g1, 0, none⟩) (some ⟨g2, 0, none⟩) l d l d HL HD w6 sL sD (Nat.le_refl _) (Nat.le_refl _) (SegZ.old HTS.out B6) (SegZ.old HTO.out B6)
        unfold CsQ at CC
        rw [if_pos ht] at CC
        clear CL hL hD hLl hDl h45 hol hob o1 o2 ht b6 HOK5
        generalize cst8 L D = c at CC
        go_wp2_with fail
        refine CC.mono ?_
        rintro e w7 ⟨rfl, b7⟩
        have CT := told8 L D (some ⟨g1, 0, none⟩) (some ⟨g2, 0, none⟩) l d l d HL HD w7 (sL.old b7) (sD.old b7) HT.out
        have B7 : Below w.heap.size w w7 := B6.trans (b7.mono B6.size)
        have i2 : IntKind.i64.wrap ((l : Int) + (d : Int)) = (l : Int) + (d : Int) := IntWalk.i64_in _ (by omega)
        clear CC b7 sL sD B6
        go_wp2_with fail
        refine CT.mono ?_
        rintro e w8 ⟨rfl, b8⟩
        have B8 : Below w.heap.size w w8 := B7.trans (b8.mono B7.size)
        clear CT b8 B7
        go_wp2_with fail
        go_ret
        exact ⟨rfl, B8⟩
      · rw [if_neg (by omega), decide_eq_false (by omega)]
        have HREL : Hid (∃ (i' : Nat) (s : S8) (H : List Bool) (t : Nat), i' ≤ n ∧ Value.int .i64 ((i : Int) + 1) = .int .i64 (i' : Int) ∧ Ok8 s ∧ s.nx < 4 ∧ Wait8 s H ∧ t + H.length = 8 * i' ∧ RdH w5 b s ∧ Rd w5 br H t ∧ Below w.heap.size w w5) := by
          refine ⟨i + 1, s', _, _, by omega, rfl, HOK5.out, hx, wt, ?_, R5, r5, HB5.out⟩
          have := run.le
          rw [List.length_append, bB_len] at this
          rw [List.length_drop, List.length_append, bB_len]
          simp at this ⊢
          omega
        clear run wt R5 r5 HB5 HOK5
        go_wp2_with fail
        go_roundw
        case rel => exact HREL.out
        case measure => simp [intOf]; omega
    · obtain rfl : i = n := by omega
      go_wp2_with fail
      go_ret
      exact ⟨rfl, Bw⟩
end Go.Proofs.YthcmebmohhajaaaDoor
