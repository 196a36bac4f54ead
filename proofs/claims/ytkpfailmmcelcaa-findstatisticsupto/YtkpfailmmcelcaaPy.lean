import Derived.Test.YtkpfailmmcelcaaPu
import Derived.Test.YtkpfailmmcelcaaPx
import Derived.Test.YtkpfailmmcelcaaPa
import Derived.WalkKit
import Derived.ProofKit
import Derived.OpenShut
import Derived.SizedLaws
namespace Go.Proofs.Ytkpfailmmcelcaa
open Go.RowKit
set_option linter.unusedVariables false

/-! The document's Statistics. -/
def stk14 (z p : List Int) (k : Nat) : List Int := (List.range k).map fun i => ((mx14 z (p.drop i) : Nat) : Int)
theorem stk14_succ (z p : List Int) (k : Nat) : stk14 z p (k + 1) = stk14 z p k ++ [((mx14 z (p.drop k) : Nat) : Int)] := by
  unfold stk14
  rw [List.range_succ, List.map_append]
  rfl
theorem stk14_len (z p : List Int) (k : Nat) : (stk14 z p k).length = k := by simp [stk14]
theorem stk14_bd {z p : List Int} (h : p.length ≤ 140737488351232) (k : Nat) : ∀ y ∈ stk14 z p k, -9223372036854775808 ≤ y ∧ y ≤ 9223372036854775807 := by
  intro y hy
  unfold stk14 at hy
  obtain ⟨i, _, rfl⟩ := List.mem_map.1 hy
  have := mx14_le z (p.drop i)
  rw [List.length_drop] at this
  omega
def RStQ14 (w : World) (L : List Int) (m : Nat) (e : Ending) (w' : World) : Prop := ∃ ra rc, e = .returned (.slice ra m rc) ∧ SegZ w' ra L ∧ (∀ x off, ra = some ⟨x, off, none⟩ → w.heap.size ≤ x) ∧ Below w.heap.size w w'
set_option maxRecDepth 100000 in
set_option maxHeartbeats 4000000 in
theorem rst14 (da : Option Addr) (z : List Int) (n dc : Nat) (pa : Option Addr) (p : List Int) (m pc : Nat) (w : World) (hs : Seg w da z) (hp : Seg w pa p) (hn : Hid (z.length = n)) (hm : Hid (p.length = m)) (hb : n ≤ 140737488351232) (hb2 : m ≤ 1073741824) (hpc : m ≤ pc) :
    Calls Try.prog 9 #[.slice da n dc, .slice pa m pc] w (RStQ14 w (stt14 z p) m) := by
  obtain ⟨i0, hi, hz0, hz1, hz2⟩ := info_parts info_i12
  have HLG : Hid (∀ i pb po W, i < m → pa = some ⟨pb, po, none⟩ → Below w.heap.size w W → Calls Try.prog 18 #[.slice da n dc, .slice (some ⟨pb, po + i, none⟩) (m - i) (pc - i)] W fun e w' => e = .returned (.tuple #[.int .i64 ((lp14 z (p.drop i) : Nat) : Int), .int .i64 ((mx14 z (p.drop i) : Nat) : Int)]) ∧ Below W.heap.size W w') := fun i pb po W hi hpa hB => by
    have hsp := hp.old hB
    rw [hpa] at hsp
    exact (rlong14 da z n dc _ (p.drop i) (m - i) (pc - i) W (hs.old hB) (hsp.drop i) hn (by show _ = _; rw [List.length_drop, hm.out]) hb (by omega)).mono fun e w' ⟨he, d, hd⟩ => ⟨he, by rw [hd]; exact below_drewN14 W d⟩
  have HPA : Hid (∀ i, i < m → ∃ pb po, pa = some ⟨pb, po, none⟩) := fun i hi => by
    obtain ⟨pb, po, e, _⟩ := hp.at_ i (by rw [hm.out]; exact hi)
    exact ⟨pb, po, e⟩
  have HSU : Hid (∀ k, stk14 z p (k + 1) = stk14 z p k ++ [((mx14 z (p.drop k) : Nat) : Int)]) := stk14_succ z p
  have HFN : Hid (stk14 z p m = stt14 z p ∧ ∀ y ∈ stk14 z p m, -9223372036854775808 ≤ y ∧ y ≤ 9223372036854775807) := ⟨by rw [← hm.out]; rfl, stk14_bd (by rw [hm.out]; omega) m⟩
  have HLN : Hid (∀ k, (stk14 z p k).length = k) := stk14_len z p
  clear hs hp
  go_enter Try.func9, Try.ntmps9
  go_wp2_with fail
  go_loopw [5, 6] (fun to ti wr => ∃ (k rc : Nat) (ra : Option Addr), k ≤ m ∧ ti = .int .i64 k ∧ to = .slice ra k rc ∧ wr.ownsRow w.heap.size 3 1 (.slice ra k rc) k ((stk14 z p k).map (Value.int .i64)) ∧ Below w.heap.size w wr) (fun _ ti _ => m - (intOf ti).toNat)
  case atStart => exact ⟨0, 0, none, Nat.zero_le _, rfl, rfl, World.ownsRow_nil _ _ _ _, Below.refl _ _⟩
  case round =>
    obtain ⟨k, rc, ra, hk, rfl, rfl, hown, hB⟩ := hrel
    by_cases h1 : k < m
    · have h1i : (k : Int) < (m : Int) := by omega
      obtain ⟨pb, po, hpa⟩ := HPA.out k h1
      have C1 := HLG.out k pb po wr h1 hpa hB
      subst hpa
      have HS2 : Hid (stk14 z p (k + 1) = stk14 z p k ++ [((mx14 z (p.drop k) : Nat) : Int)]) := HSU.out k
      have hpm : ¬ pc = k := by omega
      have hip : (k : Int) ≤ (pc : Int) := by omega
      have him : (k : Int) ≤ (m : Int) := by omega
      generalize mx14 z (p.drop k) = M at *
      generalize lp14 z (p.drop k) = P at *
      generalize stk14 z p k = T at *
      go_wp2_with (first
        | (go_at_call 18; refine C1.mono ?_; rintro e1 w1 ⟨rfl, B1⟩; clear C1; have own1 := own_below hown B1; have b1 := hB.trans (B1.mono hB.size))
        | (at_builtin; refine wpList_ap12 rfl (.tmp 23) (.tmp 25) 28 rfl w.heap.size 3 i0 (.int .i64 0) 8 Try.underlying28 hi hz0 hz1 hz2 rfl w1 _ own1 rfl rfl (by omega) (by omega) b1.size ?_; intro ga gc w3 own3 hk3 hat3))
      have B3 : Below w.heap.size w w3 := b1.trans (hk3.below (fun q e => (own1.lt q e).1) b1.size)
      go_roundw
      case rel => exact ⟨k + 1, gc, some ⟨ga, 0, none⟩, by omega, by go_num, rfl, by rw [HS2.out]; simpa using own3, B3⟩
      case measure => simp [intOf]; omega
    · have h1i : ¬ (k : Int) < (m : Int) := by omega
      obtain rfl : k = m := by omega
      go_wp2_with fail
      go_ret
      obtain ⟨f1, f2⟩ := HFN.out
      exact ⟨ra, rc, rfl, by rw [← f1]; exact own_segZ hown f2, fun x off e => (hown.lt x (by rw [e]; rfl)).1, hB⟩
end Go.Proofs.Ytkpfailmmcelcaa

namespace Go.Proofs.Ytkpfailmmcelcaa
open Go.RowKit
set_option linter.unusedVariables false

/-! FindStatistics: the walk. -/
set_option maxRecDepth 100000 in
set_option maxHeartbeats 8000000 in
theorem findStatistics_walk (w : World) (a : Option Addr) (z : List Int) (ca : Nat) (hs : Seg w a z) (hc : z.length ≤ ca) (hnil : a = none → ca = 0) (hl : z.length ≤ 1073741824) (pa : Option Addr) (p : List Int) (pc : Nat) (hp : Seg w pa p) (hpc : p.length ≤ pc) (hpn : pa = none → pc = 0) (hpl : p.length ≤ 1073741824) :
    Calls Try.prog 3 #[.slice a z.length ca, .slice pa p.length pc] w fun e w' => e = .returned (.bool true) ∧ Below w.heap.size w w' := by
  generalize hn0 : z.length = n at *
  have hn : Hid (z.length = n) := hn0
  generalize hm0 : p.length = m at *
  have hm : Hid (p.length = m) := hm0
  clear hn0 hm0
  have HAW : Hid (∀ W, Below w.heap.size w W → Calls Try.prog 6 #[] W fun e w' => e = .returned (.bool true) ∧ Below w.heap.size w w') := fun W hb => awkW14 hb
  by_cases h24 : 16777216 < n
  · have HN := pidxn14 a n ca w h24 (by omega)
    have AW := HAW.out w (Below.refl _ _)
    clear hs hp
    go_enter Try.func3, Try.ntmps3
    go_wp2_with (first
      | (go_at_call 5; refine HN.mono ?_; rintro e1 w1 ⟨rfl, hw1⟩; subst hw1; clear HN)
      | (go_at_call 6; refine AW.mono ?_; rintro e2 w2 ⟨rfl, B2⟩))
    go_ret
    exact ⟨rfl, B2⟩
  · obtain ⟨i0, hi, hz0, hz1, hz2⟩ := info_parts info_i12
    have HZB : Hid (∀ y ∈ z, 0 ≤ y ∧ y ≤ 255) := fun y hy => by
      obtain ⟨j, hj, rfl⟩ := List.mem_iff_getElem.1 hy
      have := hs.bd j
      rw [List.getD_eq_getElem?_getD, List.getElem?_eq_getElem hj] at this
      exact this
    have HN := pidx14 a z n ca w hs hnil hn (by omega)
    have HLD : Hid (∀ W, Below w.heap.size w W → Calls Try.prog 7 #[.slice pa m pc] W fun e w' => ∃ g c, e = .returned (.slice (some ⟨g, 0, none⟩) (m + 3) c) ∧ Lt14 w' g c m p ∧ Below w.heap.size w w' ∧ Below W.heap.size W w') := fun W hb => lendW14 hp hm hpn (by omega) hb
    have HKP : Hid (∀ W g c, Below w.heap.size w W → Lt14 W g c m p → Calls Try.prog 11 #[.slice (some ⟨g, 0, none⟩) (m + 3) c, .slice pa m pc] W fun e w' => e = .returned (.bool true) ∧ Below w.heap.size w w' ∧ Below W.heap.size W w') := fun W g c hb hL => keptW14 hp hm hpn (by omega) hb hL
    have HRA : Hid (∀ W, Below w.heap.size w W → Calls Try.prog 9 #[.slice a n ca, .slice pa m pc] W (RStQ14 W (stt14 z p) m)) := fun W hb => rst14 a z n ca pa p m pc W (hs.old hb) (hp.old hb) hn hm (by omega) hpl hpc
    have HBD : Hid (∀ y ∈ stt14 z p, -9223372036854775808 ≤ y ∧ y ≤ 9223372036854775807) := stk14_bd (by rw [hm.out]; omega) p.length
    have HLN : Hid ((stt14 z p).length = m) := by show _ = _; rw [stt14_len, hm.out]
    clear hs hp
    go_enter Try.func3, Try.ntmps3
    go_wp2_with (first
      | (go_at_call 5; refine HN.mono ?_; rintro e1 w1 ⟨b, A, rfl, hI, B1⟩; clear HN)
      | (go_at_call 7; refine (HLD.out w1 B1).mono ?_; rintro e3 w3 ⟨g, c, rfl, hL3, B3, B13⟩; have hcc := hL3.cap; have hcc2 : (m : Int) ≤ (c : Int) := (by omega); have hI3 := hI.old B13; clear hI B13)
      | (go_at_call 8; fail))
    have HAL : Hid (∀ W, Below w3.heap.size w3 W → Seg W (some ⟨g, 0, none⟩) p → Calls Try.prog 8 #[.pointer (some ⟨b, 0, none⟩), .slice (some ⟨g, 0, none⟩) m c] W (StQ14 W z p m)) := fun W hb hsg => pstat14 b n z A _ p m c W (hI3.old hb) HZB.out hsg hm (by omega) (by omega)
    unfold StQ14 at HAL
    unfold RStQ14 at HRA
    generalize stt14 z p = PL at *
    have HSM : Hid (∀ W pa pb pc qc, SegZ W pa PL → SegZ W pb PL → Calls Try.prog 10 #[.slice pa m pc, .slice pb m qc] W fun e w' => e = .returned (.bool true) ∧ Below W.heap.size W w') := fun W pa pb pc qc s1 s2 => same14 pa pb PL m pc qc W s1 s2 HLN (by omega)
    refine (HAL.out w3 (Below.refl _ _) hL3.txt).mono ?_
    rintro e4 w4 ⟨ga, rfl, Ra, qa, B34⟩
    have C4 := HAL.out w4 B34 (hL3.old B34).txt
    go_wp2_with (first
      | (go_at_call 8; fail))
    refine C4.mono ?_
    rintro e5 w5 ⟨gb, rfl, Rb, qb, B45⟩
    have B35 := B34.trans (B45.mono B34.size)
    have B5 := B3.trans (B35.mono B3.size)
    have CR := HRA.out w5 B5
    clear C4
    go_wp2_with (first
      | (go_at_call 9; fail))
    refine CR.mono ?_
    rintro e6 w6 ⟨rw6, rc6, rfl, s6, q6, B56⟩
    have B36 := B35.trans (B56.mono B35.size)
    have B6 := B3.trans (B36.mono B3.size)
    have sa6 := ((Ra.old B45).old B56).seg HBD.out
    have sb6 := (Rb.old B56).seg HBD.out
    have M1 := HSM.out w6 (some ⟨ga, 0, none⟩) rw6 m rc6 sa6 s6
    have HM2 : Hid (∀ W, Below w6.heap.size w6 W → Calls Try.prog 10 #[.slice (some ⟨gb, 0, none⟩) m m, .slice rw6 m rc6] W fun e w' => e = .returned (.bool true) ∧ Below W.heap.size W w') := fun W hb => HSM.out W _ _ _ _ (sb6.old hb) (s6.old hb)
    have HK6 : Hid (∀ W, Below w6.heap.size w6 W → Calls Try.prog 11 #[.slice (some ⟨g, 0, none⟩) (m + 3) c, .slice pa m pc] W fun e w' => e = .returned (.bool true) ∧ Below w.heap.size w w' ∧ Below W.heap.size W w') := fun W hb => HKP.out W g c (B6.trans (hb.mono B6.size)) ((hL3.old B36).old hb)
    have hga := Ra.lt
    have hgb := Rb.lt
    have z34 := B34.size
    have z45 := B45.size
    have z56 := B56.size
    have z3 := B3.size
    clear CR sa6
    go_wp2_with (first
      | (go_at_call 10; refine M1.mono ?_; rintro e7 w7 ⟨rfl, B7⟩; clear M1; have M2 := HM2.out w7 B7)
      | (go_at_call 10; refine M2.mono ?_; rintro e8 w8 ⟨rfl, B78⟩; clear M2; have B8 := B7.trans (B78.mono B7.size))
      | (go_at_call 11; refine (HK6.out w8 B8).mono ?_; rintro e9 w9 ⟨rfl, -, B89⟩; have B9 := B8.trans (B89.mono B8.size)))
    have z69 := B9.size
    have B39 := B36.trans (B9.mono B36.size)
    have oa : w9.ownsRow w3.heap.size 3 1 (.slice (some ⟨ga, 0, none⟩) m m) m (PL.map (Value.int .i64)) := by
      have h5 := (((Ra.old B45).old B56).old B9).own qa (by rw [HLN.out]; omega)
      rw [HLN.out] at h5
      exact h5
    have HKE : Hid (∀ W, Kp (fun q => q = ga) w9 W → SegZ W (some ⟨gb, 0, none⟩) PL ∧ SegZ W rw6 PL ∧ Below w3.heap.size w3 W) := fun W K => by
      refine ⟨(sb6.old B9).kp K fun x off e _ hS => ?_, (s6.old B9).kp K fun x off e h0 hS => ?_, B39.trans (K.below (fun q e => by omega) (by omega))⟩
      · cases e; omega
      · have := q6 x off e
        omega
    have HZ9 : Hid (ga < w9.heap.size ∧ w3.heap.size ≤ w9.heap.size) := ⟨by omega, by omega⟩
    clear Ra Rb qa qb q6 s6 sb6 hL3 hI3 hga hgb z34 z45 z56 z69 B34 B45 B35 B5 B56 B36 B6 B7 B8 B9 B39 B78 B89 HM2 HK6 HRA HLD HKP HAL
    go_loopw [13] (fun ti wr => ∃ (i : Nat) (L : List Int), i ≤ m ∧ ti = .int .i64 i ∧ L.length = m ∧ wr.ownsRow w3.heap.size 3 1 (.slice (some ⟨ga, 0, none⟩) m m) m (L.map (Value.int .i64)) ∧ Kp (fun q => q = ga) w9 wr) (fun ti _ => m - (intOf ti).toNat)
    case atStart => exact ⟨0, PL, Nat.zero_le _, rfl, HLN.out, oa, Kp.refl _ _⟩
    case round =>
      obtain ⟨i, L, hik, rfl, hLk, oL, KL⟩ := hrel
      clear oa
      by_cases h1 : i < m
      · have h1i : (i : Int) < (m : Int) := by omega
        have c1 := oL.cells (g := ga) rfl i (.int .i64 (L.getD i 0)) (by simp [List.getD, hLk, h1])
        have hadd : (⟨ga, 0, none⟩ : Addr).add i = ⟨ga, i, none⟩ := by unfold Addr.add; split <;> simp_all
        rw [hadd] at c1
        have fz := oL.frozenAt i
        have HST := oL.stored i (.int .i64 81)
        rw [← List.map_set] at HST
        have HS : Hid _ := HST.1
        have HG : Hid _ := HST.2
        generalize L.getD i 0 = y at c1
        clear oL HST
        go_wp2_with fail
        go_roundw
        case rel => exact ⟨i + 1, L.set i 81, by omega, by go_num, by rw [List.length_set]; exact hLk, HS.out, KL.trans (Kp.grown (S := fun q => q = ga) HG.out (fun q e => by simpa [Value.ownBlock] using e.symm)) (fun _ _ e => e)⟩
        case measure => simp [intOf]; omega
      · have h1i : ¬ (i : Int) < (m : Int) := by omega
        go_wp2_with fail
        go_loopw [8, 14] (fun ts ti wr => ∃ (j l rc g1 : Nat) (L : List Int), j ≤ 40 ∧ ti = .int .i64 j ∧ ts = .slice (some ⟨g1, 0, none⟩) l rc ∧ l ≤ m + j ∧ wr.ownsRow w3.heap.size 3 1 (.slice (some ⟨g1, 0, none⟩) l rc) l (L.map (Value.int .i64)) ∧ (g1 = ga ∨ w9.heap.size ≤ g1) ∧ Kp (fun q => q = ga) w9 wr) (fun _ ti _ => 40 - (intOf ti).toNat)
        case atStart => exact ⟨0, m, m, ga, L, by omega, rfl, rfl, by omega, oL, Or.inl rfl, KL⟩
        case round =>
          clear oL KL hLk
          obtain ⟨j, l, rc, g1, L1, hj, rfl, rfl, hlj, oL, hg1, KL⟩ := hrel
          have zz := KL.size
          have z9 := HZ9.out
          by_cases h2 : j < 40
          · have h2i : (j : Int) < 40 := by omega
            go_wp2_with (first
              | (at_builtin; refine wpList_ap12 rfl (.tmp 90) (.tmp 91) 28 rfl w3.heap.size 3 i0 (.int .i64 0) 8 Try.underlying28 hi hz0 hz1 hz2 rfl wr 82 oL rfl rfl (by omega) (by omega) (by omega) ?_; intro g2 gc w10 own3 hk3 hat3))
            go_roundw
            case rel =>
              refine ⟨j + 1, l + 1, gc, g2, L1 ++ [82], by omega, by go_num, rfl, by omega, own3, ?_, KL.trans hk3 (fun q hq e => ?_)⟩
              · rcases hat3 with e | e
                · have : g1 = g2 := by simpa [Value.ownBlock] using e
                  rw [← this]; exact hg1
                · right; omega
              · have : g1 = q := by simpa [Value.ownBlock] using e
                rcases hg1 with c | c
                · show q = ga; omega
                · omega
            case measure => simp [intOf]; omega
          · have h2i : ¬ (j : Int) < 40 := by omega
            obtain ⟨sb, sw, B3E⟩ := HKE.out wr KL
            have BE : Below w.heap.size w wr := B3.trans (B3E.mono B3.size)
            have M1 := HSM.out wr (some ⟨gb, 0, none⟩) rw6 m rc6 sb sw
            clear oL
            go_wp2_with (first
              | (go_at_call 10; refine M1.mono ?_; rintro e12 w12 ⟨rfl, B12⟩; clear M1; have BG := BE.trans (B12.mono BE.size))
              | (go_at_call 6; refine (HAW.out w12 BG).mono ?_; rintro e14 w14 ⟨rfl, B14⟩))
            go_ret
            exact ⟨by first | rfl | simp, B14⟩
end Go.Proofs.Ytkpfailmmcelcaa

namespace Go.Proofs.Ytkpfailmmcelcaa
open Go.ChangeShapes Go.WideShapes Go.ChangeAt Go.RowKit
set_option linter.unusedVariables false

/-- A slice of whole numbers that came in: what lies there, and how it was read. -/
theorem open_seg {H : Type} {enc : TypeId × Value → H} {P : Program} {W : World} {T e : TypeId} {k : IntKind} {M : Int} {a : Option Addr} {len cap : Nat} {d : DataW H} {p : List MemPlace}
    (hT : P.underlying T = some (.slice e)) (he : P.underlying e = some (.int k)) (hc : P.cellsOf e = 1) (hM : 0 ≤ M) (hwf : ∀ n, (Lit.int k n).wf = true → 0 ≤ n ∧ n ≤ M)
    (h : DataW.Trod enc P W 0 (fun _ => true) true T (.slice a len cap) d p) :
    ∃ zs : List Int, zs.length = len ∧ SegK k M W a zs ∧ len ≤ cap ∧ (a = none → cap = 0) ∧ ((d = .nil ∧ len = 0) ∨ ∃ elems spare, d = .slice elems spare ∧ elems.length = len) := by
  obtain ⟨fuel, hf⟩ := h
  rcases open_ints hT he hc hf with ⟨hcs, hx⟩ | ⟨x, l, c, zs, hcs, _, hl, hm, hz, hx, hcell, hwz⟩
  · simp [Value.cells] at hcs
    obtain ⟨rfl, rfl, rfl⟩ := hcs
    simp only [Prod.mk.injEq] at hx
    exact ⟨[], rfl, SegK.nil hM _ _, Nat.le_refl _, fun _ => rfl, Or.inl ⟨hx.1, rfl⟩⟩
  · simp [Value.cells] at hcs
    obtain ⟨rfl, rfl, rfl⟩ := hcs
    simp only [Prod.mk.injEq] at hx
    simp only [if_true] at hz
    refine ⟨zs.take len, by simp; omega, ⟨fun i hi => ?_, hM, getD_bd hM ?_⟩, hl, (by intro h; cases h), Or.inr ⟨_, _, hx.1, by simp [ChangeShapes.lits]; omega⟩⟩
    · simp at hi
      have hi2 : i < len := by omega
      have h1 := hcell i (by omega)
      obtain ⟨b, off, spot⟩ := x
      have hs : spot = none := by
        have := hcell 0 (by omega)
        simpa [Addr.add] using World.cell?_spot this
      subst hs
      refine ⟨b, off, rfl, ?_⟩
      have hadd : (⟨b, off, none⟩ : Addr).add i = ⟨b, off + i, none⟩ := by unfold Addr.add; split <;> simp_all
      rw [hadd] at h1
      rw [h1]
      simp [List.getD, hi2]
    · intro z hz1
      exact hwf z (hwz z (List.mem_of_mem_take hz1))
end Go.Proofs.Ytkpfailmmcelcaa
