
import Derived.Test.YtlbledagpoimaaaSuR3
import Derived.Test.YtlbledagpoimaaaLend
namespace Go.Proofs.Ytlbledagpoimaaa
open Go.RowKit
set_option linter.unusedVariables false

/-! SuffixChecks. -/
/-- A row of numbers that may be written over. -/
structure Gv13 (w : World) (g M : Nat) : Prop where
  hp : ∃ cur, w.heap[g]? = some (.cells cur 3 (0, 0)) ∧ ∀ j, j < M → ∃ v, cur[j]? = some (.int .i64 v)
theorem Gv13.cell {w : World} {g M : Nat} (h : Gv13 w g M) {j : Nat} (hj : j < M) : ∃ v, w.cell? ⟨g, j, none⟩ = some (.int .i64 v) := by
  obtain ⟨cur, h1, h2⟩ := h.hp
  obtain ⟨v, hv⟩ := h2 j hj
  exact ⟨v, by simp [World.cell?, h1, hv]⟩
theorem Gv13.free {w : World} {g M : Nat} (h : Gv13 w g M) (j : Nat) : w.frozen? ⟨g, j, none⟩ = false := by
  obtain ⟨cur, h1, _⟩ := h.hp
  simp [World.frozen?, h1]
theorem Gv13.lt {w : World} {g M : Nat} (h : Gv13 w g M) : g < w.heap.size := by
  obtain ⟨cur, h1, _⟩ := h.hp
  exact (Array.getElem?_eq_some_iff.1 h1).1
theorem Gv13.set {w : World} {g M : Nat} (h : Gv13 w g M) (i : Nat) (x : Int) : Gv13 (w.setCell ⟨g, i, none⟩ (.int .i64 x)) g M := by
  obtain ⟨cur, h1, h2⟩ := h.hp
  refine ⟨cur.setIfInBounds i (.int .i64 x), by simp [World.setCell, Array.getElem?_modify, h1], fun j hj => ?_⟩
  rw [Array.getElem?_setIfInBounds]
  obtain ⟨v, hv⟩ := h2 j hj
  by_cases e : i = j
  · subst e
    have hl : i < cur.size := (Array.getElem?_eq_some_iff.1 hv).1
    rw [if_pos rfl, if_pos hl]
    exact ⟨x, rfl⟩
  · rw [if_neg e]; exact ⟨v, hv⟩
theorem Gv13.old {w w' : World} {g M : Nat} (h : Gv13 w g M) (hb : Below w.heap.size w w') : Gv13 w' g M := by
  obtain ⟨cur, h1, h2⟩ := h.hp
  exact ⟨cur, (hb.block g h.lt).trans h1, h2⟩
theorem own_gv13 {w : World} {base n g cap : Nat} {L : List Int} (h : w.ownsRow base 3 1 (.slice (some ⟨g, 0, none⟩) n cap) n (L.map (Value.int .i64))) : Gv13 w g n := by
  have hl : L.length = n := by simpa using h.1
  rcases h.2 with ⟨h1, _⟩ | ⟨g', cp, cur, hv, hg, hh, hc, hm, hs, ht⟩
  · cases h1
  · simp only [Value.slice.injEq, Option.some.injEq, Addr.mk.injEq] at hv
    obtain ⟨⟨rfl, _⟩, _, rfl⟩ := hv
    refine ⟨cur, hh, fun j hj => ?_⟩
    have := h.cells (g := g) rfl j (.int .i64 (L.getD j 0)) (by simp [List.getD, hl, hj])
    have hadd : (⟨g, 0, none⟩ : Addr).add j = ⟨g, j, none⟩ := by unfold Addr.add; split <;> simp_all
    rw [hadd] at this
    simp [World.cell?, hh] at this
    exact ⟨_, this⟩
theorem Ix13.kp {w w' : World} {S : Nat → Prop} {b : Nat} {da : Option Addr} {dc : Nat} {aa : Option Addr} {ac gb gr n : Nat} {z : List Int} {A : List Nat} (h : Ix13 w b da dc aa ac gb gr n z A) (hk : Kp S w w') (h1 : ¬ S b) (h2 : ¬ S gb) (h3 : ¬ S gr) (h4 : ∀ x off, da = some ⟨x, off, none⟩ → ¬ S x) (h5 : ∀ x off, aa = some ⟨x, off, none⟩ → ¬ S x) : Ix13 w' b da dc aa ac gb gr n z A :=
  ⟨hk.heap h.hp h1, h.dat.kp hk (fun x off e _ => h4 x off e), h.nil, h.dle, h.arr.kp hk (fun x off e _ => h5 x off e), h.anil, h.ale, ⟨hk.heap h.rk.box h2, h.rk.rks.kp hk h3⟩, h.len, h.n24, h.ar⟩
theorem lp13_bd {z : List Int} {A : List Nat} (hA : Ar12 z.length (S12 z) A) (hn : z.length ≤ 16777216) : ∀ y ∈ lp13 z A, -9223372036854775808 ≤ y ∧ y ≤ 9223372036854775807 := by
  intro y hy
  unfold lp13 at hy
  rw [List.mem_map] at hy
  obtain ⟨r, hr, rfl⟩ := hy
  rw [List.mem_range] at hr
  have := (lv13_le hA hr).1
  omega
theorem seg_two13 (w : World) : SegZ (w.alloc (.cells #[.int .i64 71, .int .i64 72] 3)) (some ⟨w.heap.size, 0, none⟩) [71, 72] :=
  (Rz12.new w [71, 72]).seg (lit12_bd (by kernel_rfl))
set_option maxRecDepth 100000 in
set_option maxHeartbeats 8000000 in
theorem suffixChecks_walk (w : World) (a : Option Addr) (z : List Int) (ca : Nat) (hs : Seg w a z) (hc : z.length ≤ ca) (hnil : a = none → ca = 0) (hl : z.length ≤ 140737488351232) (xa : Option Addr) (X : List Int) (xc : Nat) (hx : SegZ w xa X) (hxc : X.length ≤ xc) (hxn : xa = none → xc = 0) (hxl : X.length * 8 ≤ 140737488351232) :
    Calls Try.prog 5 #[.slice a z.length ca, .slice xa X.length xc] w fun e w' => e = .returned (.bool true) ∧ Below w.heap.size w w' := by
  obtain ⟨i0, hi, hz0, hz1, hz2⟩ := info_parts info_i12
  have hm0 : (w.alloc (.cells #[] 3)).ownsRow w.heap.size 3 1 (.slice (some ⟨w.heap.size, 0, none⟩) 0 0) 0 [] := World.ownsRow_made w #[] 0 (Nat.le_refl _) (by decide) rfl
  have hb0 : Below w.heap.size w (w.alloc (.cells #[] 3)) := (Below.refl _ _).alloc (Nat.le_refl _) _
  have hs1 := hx.alloc (.cells #[] 3)
  have HSD : Hid (∀ W, Below w.heap.size w W → Seg W a z) := fun W b => hs.old b
  have HSX : Hid (∀ W, Below w.heap.size w W → SegZ W xa X) := fun W b => hx.old b
  have HLD : Hid (∀ W, Below w.heap.size w W → Calls Try.prog 13 #[.slice a z.length ca] W fun e w' => ∃ g cap', e = .returned (.tuple #[.slice (some ⟨g, 0, none⟩) (z.length + 5) cap', .slice (some ⟨g, 0, none⟩) z.length cap']) ∧ w'.ownsRow W.heap.size 5 1 (.slice (some ⟨g, 0, none⟩) (z.length + 5) cap') (z.length + 5) ((lentL z).map (Value.int .u8)) ∧ Below W.heap.size W w') := fun W hb => lend_any a z ca W (hs.old hb) hnil hl
  have HKP : Hid (∀ W g cap', Below w.heap.size w W → Seg W (some ⟨g, 0, none⟩) (lentL z) → Calls Try.prog 18 #[.slice (some ⟨g, 0, none⟩) (z.length + 5) cap', .slice a z.length ca] W fun e w' => e = .returned (.bool true) ∧ Below W.heap.size W w') := fun W g cap' hb sg => by
    have h5 := kept_any a (some ⟨g, 0, none⟩) (lentL z) z cap' ca W sg (hs.old hb) hnil hl
    have e5 : (lentL z).length = z.length + 5 := by simp [lentL]
    rw [e5] at h5
    refine h5.mono ?_
    rintro e w' ⟨rfl, hB⟩
    exact ⟨by simp, hB⟩
  have HV : Hid (∀ y ∈ z, 0 ≤ y ∧ y ≤ 255) := seg_bd13 hs
  have HXB : Hid (∀ y ∈ X, -9223372036854775808 ≤ y ∧ y ≤ 9223372036854775807) := hx.mem
  generalize hn0 : z.length = n at *
  have hn : Hid (z.length = n) := hn0
  go_enter Try.func5, Try.ntmps5
  go_wp2_with (first
    | (at_builtin; refine wpList_appZ rfl (.tmp 15) (.tmp 16) 32 rfl w.heap.size 3 i0 (.int .i64 0) 8 Try.underlying32 hi hz0 hz1 hz2 rfl hm0 hs1 hxn rfl rfl (by omega) (by omega) (by have := hb0.size; omega) ?_; intro a1 c1 w1 hown1 hg1 hf1 hn1; have hb1 := hb0.trans (below_own hm0 hg1 (by have := hb0.size; omega)); clear hf1 hg1 hn1; rw [Nat.zero_add, List.nil_append] at hown1)
    | (at_builtin; refine wpList_appZ rfl (.tmp 17) (.tmp 18) 32 rfl w.heap.size 3 i0 (.int .i64 0) 8 Try.underlying32 hi hz0 hz1 hz2 rfl (hown1.alloc _) (seg_two13 w1) (by intro h; cases h) rfl rfl (by simp; omega) (by simp; omega) (by have := hb1.size; simp; omega) ?_; intro a2 c2 w2 hown2 hg2 hf2 hn2))
  have hb2 : Below w.heap.size w w2 := (hb1.trans ((Below.refl w.heap.size w1).alloc hb1.size (.cells #[.int .i64 71, .int .i64 72] 3))).trans (below_own (hown1.alloc _) hg2 (by have := hb1.size; simp; omega))
  have el : X.length + ([71, 72] : List Int).length = X.length + 2 := rfl
  have ev : X.map (Value.int .i64) ++ ([71, 72] : List Int).map (Value.int .i64) = (X ++ [71, 72]).map (Value.int .i64) := by simp
  rw [el, ev] at hown2
  obtain ⟨gg, cx, hv, hcap, hgg, hgl⟩ := own_shape hown2 (by omega)
  simp only [Value.slice.injEq] at hv
  obtain ⟨rfl, -, rfl⟩ := hv
  have sG := own_segZ hown2 (by intro y hy; rw [List.mem_append] at hy; rcases hy with h | h; exact HXB.out y h; simp at h; omega)
  have GV := own_gv13 hown2
  have sX : SegZ w2 (some ⟨gg, 0, none⟩) X := sG.left
  have c71 : w2.cell? ⟨gg, X.length, none⟩ = some (.int .i64 71) := by
    obtain ⟨b', o', h1, h2⟩ := sG.at_ X.length (by simp)
    cases h1
    rw [Nat.zero_add] at h2
    rw [h2]
    simp [List.getD]
  clear hown1 hown2 hg2 hf2 hn2 hb1 hm0 hb0 hs1 sG el ev hs hx
  generalize hm0 : X.length = m at *
  have hm : Hid (X.length = m) := hm0
  have HSG : Hid (∀ W, Below w2.heap.size w2 W → SegZ W (some ⟨gg, 0, none⟩) X ∧ W.cell? ⟨gg, m, none⟩ = some (.int .i64 71) ∧ Gv13 W gg (m + 2)) := fun W hb => ⟨sX.old hb, (hb.cell (p := ⟨gg, m, none⟩) hgl).trans c71, GV.old hb⟩
  have HB : Hid (∀ W, Below w2.heap.size w2 W → Below w.heap.size w W) := fun W hb => hb2.trans (hb.mono hb2.size)
  have HSM : Hid (∀ W, Below w2.heap.size w2 W → Calls Try.prog 17 #[.slice (some ⟨gg, 0, none⟩) m c2, .slice xa m xc] W fun e w' => e = .returned (.bool true) ∧ Below W.heap.size W w') := fun W hb => by
    refine (same13 (some ⟨gg, 0, none⟩) xa X X m m c2 xc W (sX.old hb) (HSX.out W (HB.out W hb)) hm hm (by omega) (by omega)).mono ?_
    rintro e w' ⟨rfl, hB⟩
    exact ⟨by simp, hB⟩
  have hmc : (m : Int) ≤ (c2 : Int) := by omega
  have HGG : Hid (w.heap.size ≤ gg ∧ gg < w2.heap.size) := ⟨hgg, hgl⟩
  clear hn0 hm0 sX GV c71
  refine (HLD.out w2 hb2).mono ?_
  rintro e3 w3 ⟨gL, cL, rfl, hownL, B3⟩
  have sL := own_seg13 hownL (lent_bd HV.out)
  have hcl : n ≤ cL := by have := own_le13 hownL; omega
  have sP : Seg w3 (some ⟨gL, 0, none⟩) z := by have h5 := sL; unfold lentL at h5; have := h5.take z.length; simpa using this
  have HSP : Hid (∀ W, Below w3.heap.size w3 W → Seg W (some ⟨gL, 0, none⟩) z ∧ Seg W (some ⟨gL, 0, none⟩) (lentL z)) := fun W hb => ⟨sP.old hb, sL.old hb⟩
  clear sP sL hownL HLD
  by_cases h24 : 16777216 < n
  · have h24i : (16777216 : Int) < (n : Int) := by omega
    have HPC : Hid (∀ W, Calls Try.prog 14 #[.slice (some ⟨gL, 0, none⟩) n cL, .slice (some ⟨gg, 0, none⟩) m c2] W fun e w' => e = .returned (.tuple #[.int .i64 0, .int .i64 130]) ∧ w' = W) := fun W => pchkn13 (some ⟨gL, 0, none⟩) n cL (some ⟨gg, 0, none⟩) m c2 W h24 (by omega)
    have HRC : Hid (∀ W, Calls Try.prog 15 #[.slice a n ca, .slice xa m xc] W fun e w' => e = .returned (.tuple #[.int .i64 0, .int .i64 130]) ∧ w' = W) := fun W => rchkn13 a n ca xa m xc W h24 (by omega)
    have HPL : Hid (∀ W, Calls Try.prog 16 #[.slice (some ⟨gL, 0, none⟩) n cL, .slice (some ⟨gg, 0, none⟩) m c2] W fun e w' => e = .returned (.tuple #[.pointer none, .int .i64 130]) ∧ w' = W) := fun W => ploadn13 (some ⟨gL, 0, none⟩) n cL (some ⟨gg, 0, none⟩) m c2 W h24 (by omega)
    go_wp2_with (first
      | (go_at_call 14; refine (HPC.out _).mono ?_; rintro e4 w4 ⟨rfl, hw4⟩; subst hw4)
      | (go_at_call 15; refine (HRC.out _).mono ?_; rintro e5 w5 ⟨rfl, hw5⟩; subst hw5)
      | (go_at_call 16; refine (HPL.out _).mono ?_; rintro e6 w6 ⟨rfl, hw6⟩; subst hw6)
      | (go_at_call 17; fail))
    have D6 : Below w2.heap.size w2 w6 := B3
    go_wp2_with (first
      | (go_at_call 17; refine (HSM.out w6 D6).mono ?_; rintro e7a w6b ⟨rfl, B7a⟩; have D6b := D6.trans (B7a.mono D6.size); obtain ⟨-, c71, -⟩ := HSG.out w6b D6b; have hK := HKP.out w6b gL cL (HB.out w6b D6b) (HSP.out w6b B7a).2)
      | (go_at_call 18; refine hK.mono ?_; rintro e7 w7 ⟨rfl, B7⟩; have D7 := D6b.trans (B7.mono D6b.size)))
    have GV7 := (HSG.out w7 D7).2.2
    go_loopw [94] (fun ti wr => ∃ i : Nat, i ≤ m + 2 ∧ ti = .int .i64 i ∧ Kp (fun k => k = gg) w7 wr ∧ Gv13 wr gg (m + 2)) (fun ti _ => m + 2 - (intOf ti).toNat)
    case atStart => exact ⟨0, Nat.zero_le _, rfl, Kp.refl _ _, GV7⟩
    case round =>
      obtain ⟨i, hi2, rfl, hk, hG⟩ := hrel
      by_cases h1 : i < m + 2
      · have h1i : (i : Int) < (m : Int) + 2 := by omega
        obtain ⟨y, k1⟩ := hG.cell h1
        have k2 := hG.free i
        have HN1 : Hid (Kp (fun k => k = gg) w7 (wr.setCell ⟨gg, i, none⟩ (.int .i64 0)) ∧ Gv13 (wr.setCell ⟨gg, i, none⟩ (.int .i64 0)) gg (m + 2)) := ⟨hk.trans (Kp.set (S := fun k => k = gg) rfl _) (fun _ _ h => h), hG.set i 0⟩
        go_wp2_with fail
        go_roundw
        case rel => exact ⟨i + 1, by omega, by go_num, HN1.out.1, HN1.out.2⟩
        case measure => simp [intOf]; omega
      · have h1i : ¬ (i : Int) < (m : Int) + 2 := by omega
        have B8 : Below w.heap.size w7 wr := hk.below (fun k e => by have := HGG.out; omega) (by have := (HB.out w7 D7).size; omega)
        have C8 := (HB.out w7 D7).trans B8
        go_wp2_with (first
          | (go_at_call 9; refine (plives13 _).mono ?_; rintro e9 w9 ⟨rfl, B9⟩))
        go_ret
        exact ⟨rfl, C8.trans (B9.mono C8.size)⟩
  · have h24i : ¬ (16777216 : Int) < (n : Int) := by omega
    have hn24 : n ≤ 16777216 := by omega
    have HPC := pchk13 (some ⟨gL, 0, none⟩) z n cL (some ⟨gg, 0, none⟩) X m c2 w3 (HSP.out w3 (Below.refl _ _)).1 hn (HSG.out w3 B3).1 hm (by omega) hn24
    go_wp2_with fail
    refine HPC.mono ?_
    rintro e4 w4 ⟨A, hA, rfl, B4⟩
    clear HPC
    have D4 := B3.trans (B4.mono B3.size)
    have HA : Hid (Ar12 n (S12 z) A) := hA
    have hc4 : n ≤ ca := hc
    have HRC := rchk13 a z n ca xa X m xc A w4 (HSD.out w4 (HB.out w4 D4)) hc4 hn (HSX.out w4 (HB.out w4 D4)) hm (by omega) hA hn24
    have hca := ca13_le n A X
    have HCE : Hid (∀ A2, Ar12 n (S12 z) A2 → A2 = A) := fun A2 h2 => h2.unique hA
    have HPL : Hid (∀ W, Below w4.heap.size w4 W → Calls Try.prog 16 #[.slice (some ⟨gL, 0, none⟩) n cL, .slice (some ⟨gg, 0, none⟩) m c2] W (LdQ13 W z n X)) := fun W hb => pload13 (some ⟨gL, 0, none⟩) z n cL (some ⟨gg, 0, none⟩) X m c2 W (HSP.out W (B4.trans (hb.mono B4.size))).1 (by intro h; cases h) hn (HSG.out W (D4.trans (hb.mono D4.size))).1 (by intro h; cases h) hm (by omega) hn24
    generalize ca13 n A X = cv at *
    rcases ce13_eq n A X with he | he
    · rw [he] at HRC
      rw [he]
      have HE : Hid (ce13 n A X = 0) := he
      clear he hA
      go_wp2_with (first
        | (go_at_call 15; refine HRC.mono ?_; rintro e5 w5 ⟨rfl, B5⟩; clear HRC)
        | (go_at_call 16; fail))
      have D5 := D4.trans (B5.mono D4.size)
      refine (HPL.out w5 B5).mono ?_
      rintro e6 w6 ⟨A2, hA2, B6, hcs⟩
      obtain rfl := HCE.out A2 hA2
      obtain ⟨-, b, da, dc, aa, ac, gb, gr, rfl, hI, q1, q2, q3, q4, q5⟩ : ce13 n A2 X = 0 ∧ ∃ b da dc aa ac gb gr, e6 = .returned (.tuple #[.pointer (some ⟨b, 0, none⟩), .int .i64 0]) ∧ Ix13 w6 b da dc aa ac gb gr n z A2 ∧ w5.heap.size ≤ b ∧ w5.heap.size ≤ gb ∧ w5.heap.size ≤ gr ∧ (∀ x off, da = some ⟨x, off, none⟩ → w5.heap.size ≤ x) ∧ (∀ x off, aa = some ⟨x, off, none⟩ → w5.heap.size ≤ x) := by
        rcases hcs with h | h
        · exact absurd (h.1.symm.trans HE.out) (by decide)
        · exact h
      have hg5 : gg < w5.heap.size := by have := HGG.out; have := D5.size; omega
      clear hcs
      have D6 := D5.trans (B6.mono D5.size)
      have P6 : Below w3.heap.size w3 w6 := B4.trans ((B5.trans (B6.mono B5.size)).mono B4.size)
      go_wp2_with (first
        | (go_at_call 17; refine (HSM.out w6 D6).mono ?_; rintro e7a w6b ⟨rfl, B7a⟩; have D6b := D6.trans (B7a.mono D6.size); obtain ⟨-, c71, -⟩ := HSG.out w6b D6b; have hK := HKP.out w6b gL cL (HB.out w6b D6b) (HSP.out w6b (P6.trans (B7a.mono P6.size))).2)
        | (go_at_call 18; refine hK.mono ?_; rintro e7 w7 ⟨rfl, B7⟩; have D7 := D6b.trans (B7.mono D6b.size)))
      have hI7 := (hI.old B7a).old B7
      clear hI
      have GV7 := (HSG.out w7 D7).2.2
      go_loopw [94] (fun ti wr => ∃ i : Nat, i ≤ m + 2 ∧ ti = .int .i64 i ∧ Kp (fun k => k = gg) w7 wr ∧ Gv13 wr gg (m + 2)) (fun ti _ => m + 2 - (intOf ti).toNat)
      case atStart => exact ⟨0, Nat.zero_le _, rfl, Kp.refl _ _, GV7⟩
      case round =>
        obtain ⟨i, hi2, rfl, hk, hG⟩ := hrel
        by_cases h1 : i < m + 2
        · have h1i : (i : Int) < (m : Int) + 2 := by omega
          obtain ⟨y, k1⟩ := hG.cell h1
          have k2 := hG.free i
          have HN1 : Hid (Kp (fun k => k = gg) w7 (wr.setCell ⟨gg, i, none⟩ (.int .i64 0)) ∧ Gv13 (wr.setCell ⟨gg, i, none⟩ (.int .i64 0)) gg (m + 2)) := ⟨hk.trans (Kp.set (S := fun k => k = gg) rfl _) (fun _ _ h => h), hG.set i 0⟩
          go_wp2_with fail
          go_roundw
          case rel => exact ⟨i + 1, by omega, by go_num, HN1.out.1, HN1.out.2⟩
          case measure => simp [intOf]; omega
        · have h1i : ¬ (i : Int) < (m : Int) + 2 := by omega
          have B8 : Below w.heap.size w7 wr := hk.below (fun k e => by have := HGG.out; omega) (by have := (HB.out w7 D7).size; omega)
          have C8 := (HB.out w7 D7).trans B8
          have hI8 := hI7.kp hk (by omega) (by omega) (by omega) (fun x off h => by have := q4 x off h; omega) (fun x off h => by have := q5 x off h; omega)
          have sD8 := HSD.out wr C8
          have hlen := HA.out.len
          have HPA := parr13 b da dc aa ac gb gr n z A2 wr hI8
          have HRA : Hid (∀ W, Below wr.heap.size wr W → Calls Try.prog 20 #[.slice a n ca] W fun e w' => e = .returned (.slice (some ⟨W.heap.size, 0, none⟩) n n) ∧ Rz12 w' W.heap.size (nz12 A2) ∧ Below W.heap.size W w') := fun W hb => rarr13 a z n ca A2 W (sD8.old hb) hc4 hn HA.out hn24
          have HRL : Hid (∀ W, Below wr.heap.size wr W → Calls Try.prog 22 #[.slice a n ca] W (LvQ13 W z A2 n)) := fun W hb => rlcp13 a z n ca A2 W (sD8.old hb) hc4 hn HA.out hn24
          have HPP : Hid (∀ W, Below wr.heap.size wr W → Calls Try.prog 21 #[.pointer (some ⟨b, 0, none⟩)] W (LvQ13 W z A2 n)) := fun W hb => plcp13 b da dc aa ac gb gr n z A2 W (hI8.old hb)
          have HS3 : Hid (∀ W pa pb L pc qc, SegZ W pa L → SegZ W pb L → L.length = n → Calls Try.prog 17 #[.slice pa n pc, .slice pb n qc] W fun e w' => e = .returned (.bool true) ∧ Below W.heap.size W w') := fun W pa pb L pc qc s1 s2 hL => by
            refine (same13 pa pb L L n n pc qc W s1 s2 hL hL (by omega) (by omega)).mono ?_
            rintro e w' ⟨rfl, hB⟩
            exact ⟨by simp, hB⟩
          have HLB : Hid (∀ y ∈ lp13 z A2, -9223372036854775808 ≤ y ∧ y ≤ 9223372036854775807) := lp13_bd (by rw [hn.out]; exact HA.out) (by rw [hn.out]; exact hn24)
          have HLL : Hid ((lp13 z A2).length = n) := by show _ = _; rw [lp13_len, hn.out]
          have HNB : Hid (∀ y ∈ nz12 A2, -9223372036854775808 ≤ y ∧ y ≤ 9223372036854775807) := nz12_bd13 HA.out.lt hn24
          have HNL : Hid ((nz12 A2).length = n) := by show _ = _; rw [nz12_len13, hlen]
          clear hI8 sD8 hI7 hG hk
          go_wp2_with (first
            | (go_at_call 19; refine HPA.mono ?_; rintro e10 w10 ⟨ra, rc, rfl, -, ho10, B10⟩; clear HPA)
            | (go_at_call 20; refine (HRA.out w10 B10).mono ?_; rintro e11 w11 ⟨rfl, R11, B11⟩; have sA := (own_segZ ho10 HNB.out).old B11; have E11 := B10.trans (B11.mono B10.size))
            | (go_at_call 17; refine (HS3.out w11 _ _ _ _ _ sA (R11.seg HNB.out) HNL.out).mono ?_; rintro e12 w12 ⟨rfl, B12⟩; have E12 := E11.trans (B12.mono E11.size); clear sA R11)
            | (go_at_call 21; refine (HPP.out w12 E12).mono ?_; rintro e13 w13 ⟨g13, rfl, R13, -, B13⟩; have E13 := E12.trans (B13.mono E12.size))
            | (go_at_call 22; refine (HRL.out w13 E13).mono ?_; rintro e14 w14 ⟨g14, rfl, R14, -, B14⟩; have E14 := E13.trans (B14.mono E13.size); have hS4 := HS3.out w14 _ _ _ n n ((R13.old B14).seg HLB.out) (R14.seg HLB.out) HLL.out)
            | (go_at_call 17; refine hS4.mono ?_; rintro e15 w15 ⟨rfl, B15⟩; have E15 := E14.trans (B15.mono E14.size))
            | (go_at_call 9; refine (plives13 _).mono ?_; rintro e9 w9 ⟨rfl, B9⟩))
          go_ret
          have E9 := E15.trans (B9.mono E15.size)
          exact ⟨rfl, C8.trans (E9.mono C8.size)⟩
    · rw [he] at HRC
      rw [he]
      have HE : Hid (ce13 n A X = 131) := he
      clear he hA
      go_wp2_with (first
        | (go_at_call 15; refine HRC.mono ?_; rintro e5 w5 ⟨rfl, B5⟩; clear HRC)
        | (go_at_call 16; fail))
      have D5 := D4.trans (B5.mono D4.size)
      refine (HPL.out w5 B5).mono ?_
      rintro e6 w6 ⟨A2, hA2, B6, hcs⟩
      obtain rfl := HCE.out A2 hA2
      obtain ⟨-, rfl⟩ : ce13 n A2 X = 131 ∧ e6 = .returned (.tuple #[.pointer none, .int .i64 131]) := by
        rcases hcs with h | h
        · exact h
        · exact absurd (h.1.symm.trans HE.out) (by decide)
      clear hcs
      have D6 := D5.trans (B6.mono D5.size)
      have P6 : Below w3.heap.size w3 w6 := B4.trans ((B5.trans (B6.mono B5.size)).mono B4.size)
      go_wp2_with (first
        | (go_at_call 17; refine (HSM.out w6 D6).mono ?_; rintro e7a w6b ⟨rfl, B7a⟩; have D6b := D6.trans (B7a.mono D6.size); obtain ⟨-, c71, -⟩ := HSG.out w6b D6b; have hK := HKP.out w6b gL cL (HB.out w6b D6b) (HSP.out w6b (P6.trans (B7a.mono P6.size))).2)
        | (go_at_call 18; refine hK.mono ?_; rintro e7 w7 ⟨rfl, B7⟩; have D7 := D6b.trans (B7.mono D6b.size)))
      have GV7 := (HSG.out w7 D7).2.2
      go_loopw [94] (fun ti wr => ∃ i : Nat, i ≤ m + 2 ∧ ti = .int .i64 i ∧ Kp (fun k => k = gg) w7 wr ∧ Gv13 wr gg (m + 2)) (fun ti _ => m + 2 - (intOf ti).toNat)
      case atStart => exact ⟨0, Nat.zero_le _, rfl, Kp.refl _ _, GV7⟩
      case round =>
        obtain ⟨i, hi2, rfl, hk, hG⟩ := hrel
        by_cases h1 : i < m + 2
        · have h1i : (i : Int) < (m : Int) + 2 := by omega
          obtain ⟨y, k1⟩ := hG.cell h1
          have k2 := hG.free i
          have HN1 : Hid (Kp (fun k => k = gg) w7 (wr.setCell ⟨gg, i, none⟩ (.int .i64 0)) ∧ Gv13 (wr.setCell ⟨gg, i, none⟩ (.int .i64 0)) gg (m + 2)) := ⟨hk.trans (Kp.set (S := fun k => k = gg) rfl _) (fun _ _ h => h), hG.set i 0⟩
          go_wp2_with fail
          go_roundw
          case rel => exact ⟨i + 1, by omega, by go_num, HN1.out.1, HN1.out.2⟩
          case measure => simp [intOf]; omega
        · have h1i : ¬ (i : Int) < (m : Int) + 2 := by omega
          have B8 : Below w.heap.size w7 wr := hk.below (fun k e => by have := HGG.out; omega) (by have := (HB.out w7 D7).size; omega)
          have C8 := (HB.out w7 D7).trans B8
          go_wp2_with (first
            | (go_at_call 9; refine (plives13 _).mono ?_; rintro e9 w9 ⟨rfl, B9⟩))
          go_ret
          exact ⟨rfl, C8.trans (B9.mono C8.size)⟩
end Go.Proofs.Ytlbledagpoimaaa
