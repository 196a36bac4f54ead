import Derived.Test.YtfogknlinmchjaaPaz
import Derived.Test.YtfogknlinmchjaaPat
import Derived.Test.YtfogknlinmchjaaPaa
import Derived.WalkKit
import Derived.ProofKit
import Derived.OpenShut
import Derived.SizedLaws
namespace Go.Proofs.Ytfogknlinmchjaa
open Go.RowKit
set_option linter.unusedVariables false

/-! FindFactors: the walk. -/
theorem add14 (g j : Nat) : (⟨g, 0, none⟩ : Addr).add j = ⟨g, j, none⟩ := by unfold Addr.add; split <;> simp_all
theorem own_some14 {w : World} {base n cap : Nat} {e : TypeId} {b : Option Addr} {xs : List Value} (h : w.ownsRow base e 3 (.slice b n cap) n xs) (hn : 0 < n) : ∃ g, b = some ⟨g, 0, none⟩ ∧ n ≤ cap := by
  rcases h.2 with ⟨h1, h2⟩ | ⟨g, cp, cur, h1, h2, h3, h4, _⟩
  · omega
  · simp only [Value.slice.injEq] at h1
    obtain ⟨rfl, _, rfl⟩ := h1
    exact ⟨g, rfl, h4⟩
theorem own_at14 {w : World} {base n cap g : Nat} {e : TypeId} {F : List Mt14} {L : List Value} (h : w.ownsRow base e 3 (.slice (some ⟨g, 0, none⟩) n cap) n L) {i : Nat} {x : Mt14} (hx : F[i]? = some x) (hL : ∀ j, i * 3 ≤ j → L[j]? = (flatM14 F)[j]?) : w.cell? ⟨g, i * 3, none⟩ = some (.int .i64 (x.old : Int)) ∧ w.cell? ⟨g, i * 3 + 1, none⟩ = some (.int .i64 (x.new : Int)) ∧ w.cell? ⟨g, i * 3 + 2, none⟩ = some (.int .i64 (x.len : Int)) := by
  obtain ⟨q0, q1, q2⟩ := flatM14_get F i x hx
  have c0 := h.cells (g := g) rfl (i * 3) _ ((hL _ (by omega)).trans q0)
  have c1 := h.cells (g := g) rfl (i * 3 + 1) _ ((hL _ (by omega)).trans q1)
  have c2 := h.cells (g := g) rfl (i * 3 + 2) _ ((hL _ (by omega)).trans q2)
  rw [add14] at c0 c1 c2
  exact ⟨c0, c1, c2⟩
set_option maxRecDepth 100000 in
set_option maxHeartbeats 16000000 in
theorem findFactors_walk (w : World) (a : Option Addr) (z : List Int) (ca : Nat) (hs : Seg w a z) (hc : z.length ≤ ca) (hnil : a = none → ca = 0) (hl : z.length ≤ 1073741824) (pa : Option Addr) (p : List Int) (pc : Nat) (hp : Seg w pa p) (hpc : p.length ≤ pc) (hpn : pa = none → pc = 0) (hpl : p.length ≤ 1073741824) :
    Calls Try.prog 6 #[.slice a z.length ca, .slice pa p.length pc] w fun e w' => e = .returned (.bool true) ∧ Below w.heap.size w w' := by
  generalize hn0 : z.length = n at *
  have hn : Hid (z.length = n) := hn0
  generalize hm0 : p.length = m at *
  have hm : Hid (p.length = m) := hm0
  clear hn0 hm0
  have HAW : Hid (∀ W, Below w.heap.size w W → Calls Try.prog 9 #[] W fun e w' => e = .returned (.bool true) ∧ Below w.heap.size w w') := fun W hb => awkW14 hb
  by_cases h24 : 16777216 < n
  · have HN := pidxn14 a n ca w h24 (by omega)
    have AW := HAW.out w (Below.refl _ _)
    clear hs hp
    go_enter Try.func6, Try.ntmps6
    go_wp2_with (first
      | (go_at_call 8; refine HN.mono ?_; rintro e1 w1 ⟨rfl, hw1⟩; subst hw1; clear HN)
      | (go_at_call 9; refine AW.mono ?_; rintro e2 w2 ⟨rfl, B2⟩))
    go_ret
    exact ⟨rfl, B2⟩
  · obtain ⟨i0, hi, hz0, hz1, hz2⟩ := info_parts info_mt14
    have HN := pidx14 a z n ca w hs hnil hn (by omega)
    have HLD : Hid (∀ W, Below w.heap.size w W → Calls Try.prog 10 #[.slice pa m pc] W fun e w' => ∃ g c, e = .returned (.slice (some ⟨g, 0, none⟩) (m + 3) c) ∧ Lt14 w' g c m p ∧ Below w.heap.size w w' ∧ Below W.heap.size W w') := fun W hb => lendW14 hp hm hpn (by omega) hb
    have HKP : Hid (∀ W g c, Below w.heap.size w W → Lt14 W g c m p → Calls Try.prog 14 #[.slice (some ⟨g, 0, none⟩) (m + 3) c, .slice pa m pc] W fun e w' => e = .returned (.bool true) ∧ Below w.heap.size w w' ∧ Below W.heap.size W w') := fun W g c hb hL => keptW14 hp hm hpn (by omega) hb hL
    have HRA : Hid (∀ W, Below w.heap.size w W → Calls Try.prog 19 #[.slice a n ca, .slice pa m pc] W (RFcQ14 W (fc14 z p))) := fun W hb => rfac14 a z n ca pa p m pc W (hs.old hb) (hp.old hb) hn hm (by omega) hpl hpc
    obtain ⟨k, hk⟩ : ∃ k, k = (fc14 z p).length := ⟨_, rfl⟩
    have hkm : k ≤ m := by rw [hk, ← hm.out]; exact fc14_le z p
    unfold RFcQ14 at HRA
    rw [← hk] at HRA
    have HKL : Hid ((fc14 z p).length = k) := hk.symm
    clear hs hp
    go_enter Try.func6, Try.ntmps6
    go_wp2_with (first
      | (go_at_call 8; refine HN.mono ?_; rintro e1 w1 ⟨b, A, rfl, hI, B1⟩; clear HN)
      | (go_at_call 10; refine (HLD.out w1 B1).mono ?_; rintro e2 w2 ⟨g, c, rfl, hL, B2, B12⟩; have hcc := hL.cap; have hcc2 : (m : Int) ≤ (c : Int) := (by omega); have hI2 := hI.old B12; clear hI B12)
      | (go_at_call 18; fail))
    have HFA : Hid (∀ W, Below w2.heap.size w2 W → Calls Try.prog 18 #[.pointer (some ⟨b, 0, none⟩), .slice (some ⟨g, 0, none⟩) m c] W (FcQ14 W (fc14 z p))) := fun W hb => pfac14 b n z A _ p m c W (hI2.old hb) (hL.old hb).txt hm hpl (by omega)
    unfold FcQ14 at HFA
    rw [HKL.out] at HFA
    clear hk
    generalize fc14 z p = F at *
    refine (HFA.out w2 (Below.refl _ _)).mono ?_
    rintro e3 w3 ⟨ra, rc, rfl, oa, B23⟩
    have C4 := HFA.out w3 B23
    go_wp2_with (first
      | (go_at_call 18; fail))
    refine C4.mono ?_
    rintro e4 w4 ⟨rb, rcb, rfl, ob, B34⟩
    have B24 := B23.trans (B34.mono B23.size)
    have B4 := B2.trans (B24.mono B2.size)
    have CR := HRA.out w4 B4
    clear C4
    go_wp2_with (first
      | (go_at_call 19; fail))
    refine CR.mono ?_
    rintro e5 w5 ⟨rr, rcr, rfl, or5, B45⟩
    have B25 := B24.trans (B45.mono B24.size)
    have B5 := B2.trans (B25.mono B2.size)
    have KP := HKP.out w5 g c B5 (hL.old B25)
    have z2 := B2.size
    have z23 := B23.size
    have z34 := B34.size
    have z45 := B45.size
    clear CR
    go_wp2_with (first
      | (go_at_call 14; refine KP.mono ?_; rintro e6 w6 ⟨rfl, B6, B56⟩; clear KP))
    have z56 := B56.size
    have B46 := B45.trans (B56.mono B45.size)
    have B36 := B34.trans (B46.mono B34.size)
    have oa6 := own_below14 oa B36
    have HLA : Hid (∀ q, (Value.slice ra k rc).ownBlock = some q → w2.heap.size ≤ q ∧ q < w3.heap.size) := fun q e => oa.lt q e
    have HKE : Hid (∀ W, Kp (fun q => (Value.slice ra k rc).ownBlock = some q) w6 W → W.ownsRow w3.heap.size 44 3 (.slice rb k rcb) k (flatM14 F) ∧ W.ownsRow w4.heap.size 45 3 (.slice rr k rcr) k (flatM14 F) ∧ Below w.heap.size w W) := fun W K => by
      refine ⟨own_kp14 (own_below14 ob B46) K fun x e hS => ?_, own_kp14 (own_below14 or5 B56) K fun x e hS => ?_, B6.trans (K.below (fun q e => by have := HLA.out q e; omega) (by omega))⟩
      · have := (ob.lt x e).1
        have := HLA.out x hS
        omega
      · have := (or5.lt x e).1
        have := HLA.out x hS
        omega
    have HZ6 : Hid (w2.heap.size ≤ w6.heap.size ∧ w3.heap.size ≤ w6.heap.size) := ⟨by omega, by omega⟩
    clear oa ob or5 hL hI2 B23 B34 B24 B4 B45 B25 B5 B56 B46 B36 HRA HLD HKP HFA z23 z34 z45 z56
    go_loopw [13] (fun ti wr => ∃ (i : Nat) (L : List Value), i ≤ k ∧ ti = .int .i64 i ∧ wr.ownsRow w2.heap.size 44 3 (.slice ra k rc) k L ∧ Hid (∀ j, i * 3 ≤ j → L[j]? = (flatM14 F)[j]?) ∧ Kp (fun q => (Value.slice ra k rc).ownBlock = some q) w6 wr) (fun ti _ => k - (intOf ti).toNat)
    case atStart => exact ⟨0, flatM14 F, Nat.zero_le _, rfl, oa6, (fun j _ => rfl), Kp.refl _ _⟩
    case round =>
      obtain ⟨i, L, hik, rfl, oL, HL, KL⟩ := hrel
      clear oa6
      by_cases h1 : i < k
      · have h1i : (i : Int) < (k : Int) := by omega
        obtain ⟨ob, oR, -⟩ := HKE.out wr KL
        obtain ⟨ga, rfl, hrc⟩ := own_some14 oL (by omega)
        obtain ⟨gr, rfl, hrr⟩ := own_some14 oR (by omega)
        obtain ⟨x, hx⟩ : ∃ x, F[i]? = some x := ⟨F[i]'(by rw [HKL.out]; exact h1), List.getElem?_eq_getElem _⟩
        obtain ⟨a0, a1, a2⟩ := own_at14 oL hx HL.out
        obtain ⟨r0, r1, r2⟩ := own_at14 oR hx (fun j _ => rfl)
        obtain ⟨xo, xn, xl⟩ := x
        simp only at a0 a1 a2 r0 r1 r2
        have fz := oL.frozenAt (i * 3 + 1)
        have HS : Hid (∀ d, ((wr.drewN d).setCell ⟨ga, i * 3 + 1, none⟩ (.int .i64 81)).ownsRow w2.heap.size 44 3 (.slice (some ⟨ga, 0, none⟩) k rc) k (L.set (i * 3 + 1) (.int .i64 81))) := fun d => ((show (wr.drewN d).ownsRow w2.heap.size 44 3 (.slice (some ⟨ga, 0, none⟩) k rc) k L from oL).stored (i * 3 + 1) (.int .i64 81)).1
        have HG : Hid (∀ d, Kp (fun q => (Value.slice (some ⟨ga, 0, none⟩) k rc).ownBlock = some q) w6 ((wr.drewN d).setCell ⟨ga, i * 3 + 1, none⟩ (.int .i64 81))) := fun d => (KL.drewN d).trans (Kp.set (S := fun q => (Value.slice (some ⟨ga, 0, none⟩) k rc).ownBlock = some q) rfl _) (fun _ _ e => e)
        have HL2 : Hid (∀ j, (i + 1) * 3 ≤ j → (L.set (i * 3 + 1) (.int .i64 81))[j]? = (flatM14 F)[j]?) := fun j hj => by
          rw [List.getElem?_set_ne (by omega)]
          exact HL.out j (by omega)
        clear oL ob oR hx HL
        go_wp2_with fail
        go_quiet (fail)
        go_wp2_with fail
        go_roundw
        case rel => exact ⟨i + 1, L.set (i * 3 + 1) (.int .i64 81), by omega, by go_num, HS.out _, HL2, HG.out _⟩
        case measure => simp [intOf]; omega
      · have h1i : ¬ (i : Int) < (k : Int) := by omega
        clear HL
        go_wp2_with fail
        go_loopw [8, 14] (fun ts ti wr => ∃ (j l rc1 : Nat) (ra1 : Option Addr) (L : List Value), j ≤ 40 ∧ ti = .int .i64 j ∧ ts = .slice ra1 l rc1 ∧ l ≤ k + j ∧ wr.ownsRow w2.heap.size 44 3 (.slice ra1 l rc1) l L ∧ Hid (∀ q, (Value.slice ra1 l rc1).ownBlock = some q → (Value.slice ra k rc).ownBlock = some q ∨ w6.heap.size ≤ q) ∧ Kp (fun q => (Value.slice ra k rc).ownBlock = some q) w6 wr) (fun _ ti _ => 40 - (intOf ti).toNat)
        case atStart => exact ⟨0, k, rc, ra, L, by omega, rfl, rfl, by omega, oL, (fun q e => Or.inl e), KL⟩
        case round =>
          clear oL KL
          obtain ⟨j, l, rc1, ra1, L1, hj, rfl, rfl, hlj, oL, HA1, KL⟩ := hrel
          have zz := KL.size
          have z6 := HZ6.out
          by_cases h2 : j < 40
          · have h2i : (j : Int) < 40 := by omega
            go_wp2_with (first
              | (at_builtin; refine wpList_app314 rfl (.tmp 131) (.tmp 133) 38 rfl w2.heap.size 44 i0 _ 24 Try.underlying38 hi hz0 hz1 hz2 rfl wr _ _ _ oL rfl rfl (by omega) (by omega) (by omega) ?_; intro g2 gc w10 own3 hk3 hat3))
            have HA2 : Hid (∀ q, (Value.slice (some ⟨g2, 0, none⟩) (l + 1) gc).ownBlock = some q → (Value.slice ra k rc).ownBlock = some q ∨ w6.heap.size ≤ q) := fun q e => by
              have : g2 = q := by simpa [Value.ownBlock] using e
              subst this
              rcases hat3 with c | c
              · exact HA1.out _ c
              · right; omega
            have K2 : Kp (fun q => (Value.slice ra k rc).ownBlock = some q) w6 w10 := KL.trans hk3 (fun q hq e => by
              rcases HA1.out q e with c | c
              · exact c
              · omega)
            go_roundw
            case rel => exact ⟨j + 1, l + 1, gc, some ⟨g2, 0, none⟩, _, by omega, by go_num, rfl, by omega, own3, HA2, K2⟩
            case measure => simp [intOf]; omega
          · have h2i : ¬ (j : Int) < 40 := by omega
            obtain ⟨ob, oR, BE⟩ := HKE.out wr KL
            have AW := HAW.out wr BE
            clear oL KL HA1
            go_wp2_with fail
            go_loopw [15] (fun ti wr2 => ∃ (i d : Nat), i ≤ k ∧ ti = .int .i64 i ∧ wr2 = wr.drewN d) (fun ti _ => k - (intOf ti).toNat)
            case atStart => exact ⟨0, 0, Nat.zero_le _, rfl, by first | trivial | rfl⟩
            case round =>
              rename World => wr2
              obtain ⟨i5, d5, hi5, rfl, hw5⟩ := hrel
              by_cases h5 : i5 < k
              · have h5i : (i5 : Int) < (k : Int) := by omega
                obtain ⟨gb, rfl, hrc⟩ := own_some14 ob (by omega)
                obtain ⟨gr, rfl, hrr⟩ := own_some14 oR (by omega)
                obtain ⟨x, hx⟩ : ∃ x, F[i5]? = some x := ⟨F[i5]'(by rw [HKL.out]; exact h5), List.getElem?_eq_getElem _⟩
                obtain ⟨a0, a1, a2⟩ := own_at14 ob hx (fun j _ => rfl)
                obtain ⟨r0, r1, r2⟩ := own_at14 oR hx (fun j _ => rfl)
                obtain ⟨xo, xn, xl⟩ := x
                simp only at a0 a1 a2 r0 r1 r2
                have HW5 : Hid (wr2 = wr.drewN d5) := hw5
                have b1 : wr2.cell? ⟨gb, i5 * 3 + 1, none⟩ = some (.int .i64 (xn : Int)) := by rw [hw5]; exact a1
                have c1 : wr2.cell? ⟨gr, i5 * 3 + 1, none⟩ = some (.int .i64 (xn : Int)) := by rw [hw5]; exact r1
                clear ob oR hx a0 a1 a2 r0 r1 r2 hw5
                go_wp2_with fail
                go_quiet (fail)
                go_wp2_with fail
                go_roundw
                case rel => exact ⟨i5 + 1, d5 + _, by omega, by go_num, by rw [HW5.out, drewN14]⟩
                case measure => simp [intOf]; omega
              · have h5i : ¬ (i5 : Int) < (k : Int) := by omega
                have AW5 := HAW.out wr2 (by rw [hw5]; exact BE.trans ((below_drewN14 wr d5).mono BE.size))
                clear hw5 AW
                go_wp2_with (first
                  | (go_at_call 9; refine AW5.mono ?_; rintro e14 w14 ⟨rfl, B14⟩))
                go_ret
                exact ⟨rfl, B14⟩
end Go.Proofs.Ytfogknlinmchjaa

namespace Go.Proofs.Ytfogknlinmchjaa
open Go.ChangeShapes Go.WideShapes Go.ChangeAt Go.RowKit
set_option linter.unusedVariables false

/-- A slice of whole numbers that came in: what lies there, and how it was read. -/
theorem open_seg {H : Type} {enc : TypeId × Value → H} {P : Program} {W : World} {T e : TypeId} {k : IntKind} {M : Int} {a : Option Addr} {len cap : Nat} {d : DataW H} {p : List MemPlace}
    (hT : P.underlying T = some (.slice e)) (he : P.underlying e = some (.int k)) (hc : P.cellsOf e = 1) (hM : 0 ≤ M) (hwf : ∀ n, (Lit.int k n).wf = true → 0 ≤ n ∧ n ≤ M)
    (h : DataW.Trod enc P W 0 (fun _ => true) true T (.slice a len cap) d p) :
    ∃ zs : List Int, zs.length = len ∧ SegK k M W a zs ∧ len ≤ cap ∧ (a = none → cap = 0) ∧ ((d = .nil ∧ len = 0) ∨ ∃ elems spare, d = .slice elems spare ∧ elems.length = len) := by
  obtain ⟨fuel, hf⟩ := h
  rcases open_ints hT he hc hf with ⟨hcs, hx⟩ | ⟨x, l, c, zs, hcs, _, hl, hm, hz, hx, hcell, hwz⟩
  · simp [Value.cells] at hcs
    obtain ⟨rfl, rfl, rfl⟩ := hcs
    simp only [Prod.mk.injEq] at hx
    exact ⟨[], rfl, SegK.nil hM _ _, Nat.le_refl _, fun _ => rfl, Or.inl ⟨hx.1, rfl⟩⟩
  · simp [Value.cells] at hcs
    obtain ⟨rfl, rfl, rfl⟩ := hcs
    simp only [Prod.mk.injEq] at hx
    simp only [if_true] at hz
    refine ⟨zs.take len, by simp; omega, ⟨fun i hi => ?_, hM, getD_bd hM ?_⟩, hl, (by intro h; cases h), Or.inr ⟨_, _, hx.1, by simp [ChangeShapes.lits]; omega⟩⟩
    · simp at hi
      have hi2 : i < len := by omega
      have h1 := hcell i (by omega)
      obtain ⟨b, off, spot⟩ := x
      have hs : spot = none := by
        have := hcell 0 (by omega)
        simpa [Addr.add] using World.cell?_spot this
      subst hs
      refine ⟨b, off, rfl, ?_⟩
      have hadd : (⟨b, off, none⟩ : Addr).add i = ⟨b, off + i, none⟩ := by unfold Addr.add; split <;> simp_all
      rw [hadd] at h1
      rw [h1]
      simp [List.getD, hi2]
    · intro z hz1
      exact hwf z (hwz z (List.mem_of_mem_take hz1))
end Go.Proofs.Ytfogknlinmchjaa
