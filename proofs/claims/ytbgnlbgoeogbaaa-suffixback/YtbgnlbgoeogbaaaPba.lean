import Derived.Test.YtbgnlbgoeogbaaaPaz
import Derived.Test.YtbgnlbgoeogbaaaPaa
import Derived.WalkKit
import Derived.ProofKit
import Derived.OpenShut
import Derived.SizedLaws
namespace Go.Proofs.Ytbgnlbgoeogbaaa
open Go.RowKit
set_option linter.unusedVariables false

/-! SuffixBack. -/
/-- 256 numbers in one block. -/
structure Rc13 (w : World) (g : Nat) (C : List Int) : Prop where
  hp : w.heap[g]? = some (.cells (vi12 C) 65 (0, 0))
theorem Rc13.cell {w : World} {g : Nat} {A : List Int} (h : Rc13 w g A) {i : Nat} (hi : i < A.length) : w.cell? ⟨g, i, none⟩ = some (.int .i64 (A.getD i 0)) := by
  simp [World.cell?, h.hp, vi12, List.getD, hi]
theorem Rc13.free {w : World} {g : Nat} {A : List Int} (h : Rc13 w g A) (i : Nat) : w.frozen? ⟨g, i, none⟩ = false := by simp [World.frozen?, h.hp]
theorem Rc13.set {w : World} {g : Nat} {A : List Int} (h : Rc13 w g A) (i : Nat) (x : Int) : Rc13 (w.setCell ⟨g, i, none⟩ (.int .i64 x)) g (A.set i x) := by
  refine ⟨?_⟩
  simp only [World.setCell, Array.getElem?_modify, h.hp]
  simp [vi12, List.map_set]
theorem zero_get13 (v : Nat) : (List.replicate 256 (0 : Int)).getD v 0 = 0 := by
  rw [List.getD_eq_getElem?_getD, List.getElem?_replicate]
  split <;> rfl
theorem cnt_step13 (C : List Int) (lC : C.length = 256) {v1 v2 v : Nat} (h1 : v1 < 256) (h2 : v2 < 256) : ((C.set v1 (C.getD v1 0 + 1)).set v2 ((C.set v1 (C.getD v1 0 + 1)).getD v2 0 - 1)).getD v 0 = C.getD v 0 + (if v = v1 then 1 else 0) - (if v = v2 then 1 else 0) := by
  rw [getD_set12 _ v2 _ v (by rw [List.length_set]; omega), getD_set12 C v1 _ v2 (by omega), getD_set12 C v1 _ v (by omega)]
  repeat' split
  all_goals (subst_vars; omega)
theorem zc13 : Try.zeroCells65 = vi12 (List.replicate 256 0) := by kernel_rfl
theorem run_index13 {P : Program} (w : World) (t e : TypeId) (n : Nat) (cs : Array Value) (i : Nat) (k : IntKind) (hi : i < n) (hc : cs.size = n) (ht : P.underlying t = some (.array n e)) (he : P.underlying e = some (.int .i64)) (hs : (P.info? e).map (·.size) = some 1) :
    (Instr.index t (.agg cs) (.int k (i : Int))).run P w = .ok (cs.getD i undef) w := by
  cases hq : P.info? e with
  | none => simp [hq] at hs
  | some inf =>
    have h1 : inf.size = 1 := by simpa [hq] using hs
    have hsz : (sizeOf e).run P w = .ok 1 w := by simp [sizeOf, typeInfo, hq, h1]
    have hagg : (isAgg e).run P w = .ok false w := by
      unfold isAgg
      rw [Sem.run_bind, run_underlying he w]
      simp
    have hb : (0 : Int) ≤ (i : Int) ∧ (i : Int) < (n : Int) := by omega
    have hcs : i < cs.size := by omega
    simp [Instr.index, asIntOf, Sem.run_bind, run_underlying ht, hb, hsz, part, hagg, hi, hcs]
set_option maxRecDepth 100000 in
set_option maxHeartbeats 8000000 in
theorem suffixBack_walk (w : World) (a : Option Addr) (z : List Int) (ca : Nat) (hs : Seg w a z) (hc : z.length ≤ ca) (hnil : a = none → ca = 0) (hl : z.length ≤ 140737488351232) (pa : Option Addr) (p : List Int) (pc : Nat) (hp : Seg w pa p) (hpc : p.length ≤ pc) (hpn : pa = none → pc = 0) (hpl : p.length ≤ 140737488351232) (t : Int) (ht0 : -9223372036854775808 ≤ t) (ht1 : t ≤ 9223372036854775807) :
    Calls Try.prog 8 #[.slice a z.length ca, .slice pa p.length pc, .int .i64 t] w fun e w' => e = .returned (.bool true) ∧ Below w.heap.size w w' := by
  have HSD : Hid (∀ W, Below w.heap.size w W → Seg W a z) := fun W b => hs.old b
  have HSP : Hid (∀ W, Below w.heap.size w W → Seg W pa p) := fun W b => hp.old b
  have HV : Hid (∀ y ∈ z, 0 ≤ y ∧ y ≤ 255) := seg_bd13 hs
  have HVP : Hid (∀ y ∈ p, 0 ≤ y ∧ y ≤ 255) := seg_bd13 hp
  have HSM : Hid (∀ W xa xc ya yc (u : List Int) k, u.length = k → Seg W xa u → Seg W ya u → Calls Try.prog 26 #[.slice xa k xc, .slice ya k yc] W fun e w' => e = .returned (.bool true) ∧ w' = W) := fun W xa xc ya yc u k hk s1 s2 => by
    have h5 := bsame_any xa ya u u xc yc W s1 s2
    rw [hk] at h5
    refine h5.mono ?_
    rintro e w' ⟨rfl, hB⟩
    exact ⟨by simp, hB⟩
  clear hs hp
  generalize hn0 : z.length = n at *
  have hn : Hid (z.length = n) := hn0
  generalize hm0 : p.length = m at *
  have hm : Hid (p.length = m) := hm0
  clear hn0 hm0
  by_cases h24 : 16777216 < n
  · have h24i : (16777216 : Int) < (n : Int) := by omega
    go_enter Try.func8, Try.ntmps8
    go_wp2_with (first
      | (go_at_call 31; refine (plives13 _).mono ?_; rintro e14 w14 ⟨rfl, B14⟩))
    go_ret
    exact ⟨rfl, B14⟩
  have h24i : ¬ (16777216 : Int) < (n : Int) := by omega
  have hn24 : n ≤ 16777216 := by omega
  by_cases k24 : 16777216 < m
  · have k24i : (16777216 : Int) < (m : Int) := by omega
    go_enter Try.func8, Try.ntmps8
    go_wp2_with (first
      | (go_at_call 31; refine (plives13 _).mono ?_; rintro e14 w14 ⟨rfl, B14⟩))
    go_ret
    exact ⟨rfl, B14⟩
  have k24i : ¬ (16777216 : Int) < (m : Int) := by omega
  have hm24 : m ≤ 16777216 := by omega
  have C1 := pturn13 a z n ca w (HSD.out w (Below.refl _ _)) hn hn24
  go_enter Try.func8, Try.ntmps8
  go_wp2_with (first
    | (go_at_call 24; fail))
  refine C1.mono ?_
  rintro e2 w2 ⟨A, hA, ra2, rc2, rfl, o2, B2⟩
  clear C1
  obtain ⟨hW, hR, -⟩ := back13 hn.out hA
  have HXB : Hid (∀ y ∈ tn13 z (n :: A), 0 ≤ y ∧ y ≤ 255) := tn13_bd HV.out _
  have HCT : Hid (∀ v : Int, cn12 (fun i => S12 z i = v) n = cn12 (fun i => S12 (tn13 z (n :: A)) i = v) n) := fun v => same13_count hn.out hA v
  have HXL : Hid ((tn13 z (n :: A)).length = n) := tn13_all hA
  have s2 := own_seg13 o2 HXB.out
  have C2 := punt13 ra2 (tn13 z (n :: A)) n rc2 (te13 n A) w2 s2 HXL hn24 (te13_le hA)
  have HSX : Hid (∀ W, Below w2.heap.size w2 W → Seg W ra2 (tn13 z (n :: A))) := fun W hb => s2.old hb
  clear hA o2 s2
  generalize hX : tn13 z (n :: A) = X at *
  generalize te13 n A = E at *
  clear hX
  go_wp2_with (first
    | (go_at_call 29; fail))
  refine C2.mono ?_
  rintro e3 w3 (⟨hN, -⟩ | ⟨-, ra3, rc3, x3, rfl, hx3, -, o3, B3⟩)
  · exact absurd hW hN
  obtain rfl := hx3.unique hR
  have D3 := B2.trans (B3.mono B2.size)
  have s3 := own_seg13 o3 HV.out
  have M3 := HSM.out w3 ra3 rc3 a ca x3 n hn.out s3 (HSD.out w3 D3)
  clear C2 hW hR hx3 o3 s3
  go_wp2_with (first
    | (go_at_call 26; refine M3.mono ?_; rintro e4 w4 ⟨rfl, hw4⟩; subst hw4; clear M3))
  have D4 : Below w.heap.size w w4 := D3
  have L2 : Below w2.heap.size w2 w4 := B3
  obtain ⟨w5, hw5⟩ : ∃ w5, w4.alloc (.cells Try.zeroCells65 65) = w5 := ⟨_, rfl⟩
  obtain ⟨gc, hgc⟩ : ∃ gc, w4.heap.size = gc := ⟨_, rfl⟩
  have R5 : Rc13 w5 gc (List.replicate 256 0) := by
    refine ⟨?_⟩
    rw [← hw5, ← hgc, zc13]
    exact heap_alloc_new w4 _
  have A5 : Below w4.heap.size w4 w5 := by rw [← hw5]; exact (Below.refl _ _).alloc (Nat.le_refl _) _
  rw [hw5]
  rw [hgc]
  have D5 := D4.trans (A5.mono D4.size)
  have L5 := L2.trans (A5.mono L2.size)
  have HGC : Hid (w.heap.size ≤ gc ∧ w2.heap.size ≤ gc) := ⟨by rw [← hgc]; exact D4.size, by rw [← hgc]; exact L2.size⟩
  clear hw5 hgc A5
  have HKK : Hid (∀ W, Kp (fun k => k = gc) w5 W → Seg W a x3 ∧ Seg W ra2 X ∧ Below w.heap.size w W) := fun W K => by
    have b1 : Below w.heap.size w W := D5.trans (K.below (fun k e => by have := HGC.out; omega) D5.size)
    have b2 : Below w2.heap.size w2 W := L5.trans (K.below (fun k e => by have := HGC.out; omega) L5.size)
    exact ⟨HSD.out W b1, HSX.out W b2, b1⟩
  have HC0 : Hid (∀ v, v < 256 → (List.replicate 256 (0 : Int)).getD v 0 = ((cn12 (fun i => S12 x3 i = (v : Int)) 0 : Nat) : Int) - ((cn12 (fun i => S12 X i = (v : Int)) 0 : Nat) : Int)) := fun v hv => by rw [zero_get13]; rfl
  clear L2 L5 D5 B2 B3 D3 D4
  go_loopw [63] (fun ti wr => ∃ (i : Nat) (C : List Int), i ≤ n ∧ ti = .int .i64 i ∧ Rc13 wr gc C ∧ C.length = 256 ∧ Hid (∀ v, v < 256 → C.getD v 0 = ((cn12 (fun i => S12 x3 i = (v : Int)) i : Nat) : Int) - ((cn12 (fun i => S12 X i = (v : Int)) i : Nat) : Int)) ∧ Kp (fun k => k = gc) w5 wr) (fun ti _ => n - (intOf ti).toNat)
  case atStart => exact ⟨0, List.replicate 256 0, Nat.zero_le _, rfl, R5, by simp, HC0, Kp.refl _ _⟩
  case round =>
    obtain ⟨i, C, hi, rfl, RC, lC, HC, KL⟩ := hrel
    clear R5
    obtain ⟨sz, sX, DW⟩ := HKK.out wr KL
    by_cases h1 : i < n
    · have h1i : (i : Int) < (n : Int) := by omega
      obtain ⟨v1, hv1⟩ := Int.eq_ofNat_of_zero_le (sz.bd i).1
      obtain ⟨v2, hv2⟩ := Int.eq_ofNat_of_zero_le (sX.bd i).1
      have hb1 := (sz.bd i).2
      have hb2 := (sX.bd i).2
      have hl1 : v1 < 256 := by omega
      have hl2 : v2 < 256 := by omega
      obtain ⟨db, dof, rfl, d0⟩ := sz.at_ i (by rw [hn.out]; exact h1)
      obtain ⟨eb, eof, rfl, d1⟩ := sX.at_ i (by rw [HXL.out]; exact h1)
      rw [hv1] at d0
      have c1 := RC.cell (i := v1) (by omega)
      have f1 := RC.free v1
      have K1 : Kp (fun k => k = gc) w5 (wr.setCell ⟨gc, v1, none⟩ (.int .i64 (C.getD v1 0 + 1))) := KL.trans (Kp.set (S := fun k => k = gc) rfl _) (fun _ _ e => e)
      obtain ⟨eb', eof', q1, d2⟩ := (HKK.out _ K1).2.1.at_ i (by rw [HXL.out]; exact h1)
      cases q1
      rw [hv2] at d2
      have R1 := RC.set v1 (C.getD v1 0 + 1)
      have c2 := R1.cell (i := v2) (by rw [List.length_set]; omega)
      have f2 := R1.free v2
      have R2 := R1.set v2 ((C.set v1 (C.getD v1 0 + 1)).getD v2 0 - 1)
      have HR2 : Hid (Rc13 ((wr.setCell ⟨gc, v1, none⟩ (.int .i64 (C.getD v1 0 + 1))).setCell ⟨gc, v2, none⟩ (.int .i64 ((C.set v1 (C.getD v1 0 + 1)).getD v2 0 - 1))) gc ((C.set v1 (C.getD v1 0 + 1)).set v2 ((C.set v1 (C.getD v1 0 + 1)).getD v2 0 - 1)) ∧ Kp (fun k => k = gc) w5 ((wr.setCell ⟨gc, v1, none⟩ (.int .i64 (C.getD v1 0 + 1))).setCell ⟨gc, v2, none⟩ (.int .i64 ((C.set v1 (C.getD v1 0 + 1)).getD v2 0 - 1)))) := ⟨R2, K1.trans (Kp.set (S := fun k => k = gc) rfl _) (fun _ _ e => e)⟩
      have HD1 : Hid (d0 = d0) := rfl
      have HC2 : Hid (∀ v, v < 256 → ((C.set v1 (C.getD v1 0 + 1)).set v2 ((C.set v1 (C.getD v1 0 + 1)).getD v2 0 - 1)).getD v 0 = ((cn12 (fun i => S12 x3 i = (v : Int)) (i + 1) : Nat) : Int) - ((cn12 (fun i => S12 X i = (v : Int)) (i + 1) : Nat) : Int)) := fun v hv => by
        have e1 : cn12 (fun i => S12 x3 i = (v : Int)) (i + 1) = cn12 (fun i => S12 x3 i = (v : Int)) i + (if v = v1 then 1 else 0) := by
          by_cases c : v = v1
          · rw [if_pos c]; exact cn12_yes (P := fun i => S12 x3 i = (v : Int)) (by show x3.getD i 0 = _; rw [hv1, c])
          · rw [if_neg c]; exact cn12_no (P := fun i => S12 x3 i = (v : Int)) (by show ¬ x3.getD i 0 = _; rw [hv1]; omega)
        have e2 : cn12 (fun i => S12 X i = (v : Int)) (i + 1) = cn12 (fun i => S12 X i = (v : Int)) i + (if v = v2 then 1 else 0) := by
          by_cases c : v = v2
          · rw [if_pos c]; exact cn12_yes (P := fun i => S12 X i = (v : Int)) (by show X.getD i 0 = _; rw [hv2, c])
          · rw [if_neg c]; exact cn12_no (P := fun i => S12 X i = (v : Int)) (by show ¬ X.getD i 0 = _; rw [hv2]; omega)
        rw [e1, e2, cnt_step13 C lC hl1 hl2, HC.out v hv]
        split <;> split <;> omega
      have bb : ∀ v, v < 256 → -16777216 ≤ C.getD v 0 ∧ C.getD v 0 ≤ 16777216 := fun v hv => by
        rw [HC.out v hv]
        have t1 := cn12_top (fun i => S12 x3 i = (v : Int)) i
        have t2 := cn12_top (fun i => S12 X i = (v : Int)) i
        omega
      have b1 := bb v1 hl1
      have b2 : -16777216 ≤ (C.set v1 (C.getD v1 0 + 1)).getD v2 0 ∧ (C.set v1 (C.getD v1 0 + 1)).getD v2 0 ≤ 16777217 := by
        rw [getD_set12 C v1 _ v2 (by omega)]
        have := bb v2 hl2
        split <;> omega
      have i1 : (v1 : Int) < 256 := by omega
      have i2 : (v2 : Int) < 256 := by omega
      have lC2 : ((C.set v1 (C.getD v1 0 + 1)).set v2 ((C.set v1 (C.getD v1 0 + 1)).getD v2 0 - 1)).length = 256 := by rw [List.length_set, List.length_set]; exact lC
      clear RC R1 R2 K1 HC bb hv1 hv2 hb1 hb2 sz sX HD1 d1
      generalize (C.set v1 (C.getD v1 0 + 1)).set v2 ((C.set v1 (C.getD v1 0 + 1)).getD v2 0 - 1) = C2 at *
      generalize (C.set v1 (C.getD v1 0 + 1)).getD v2 0 = y2 at *
      generalize C.getD v1 0 = y1 at *
      go_wp2_with fail
      go_roundw
      case rel => exact ⟨i + 1, C2, by omega, by go_num, HR2.out.1, lC2, HC2, HR2.out.2⟩
      case measure => simp [intOf]; omega
    · have h1i : ¬ (i : Int) < (n : Int) := by omega
      obtain rfl : i = n := by omega
      have HZ : Hid (∀ v, v < 256 → C.getD v 0 = 0) := fun v hv => by rw [HC.out v hv, HCT.out (v : Int)]; omega
      have hcs : (vi12 C).size = 256 := by simp [vi12, lC]
      have hinf : (Try.prog.info? 65).map (·.size) = some (vi12 C).size := by rw [hcs]; kernel_rfl
      have HIX : Hid (∀ W (k : Nat), k < 256 → (Instr.index 65 (.agg (vi12 C)) (.int .i64 (k : Int))).run Try.prog W = .ok (.int .i64 0) W) := fun W k hk => by
        have h5 := run_index13 W 65 3 256 (vi12 C) k .i64 hk hcs Try.underlying65 Try.underlying3 (by kernel_rfl)
        have h6 : (vi12 C).getD k undef = .int .i64 0 := by
          have h7 := HZ.out k hk
          have hk2 : k < C.length := by omega
          have h8 : C.getD k 0 = C[k] := by simp [List.getD, hk2]
          rw [h8] at h7
          simp [vi12, Array.getD, hk2, h7]
        rw [h6] at h5
        exact h5
      have hRC := RC.hp
      clear HC sz sX HKK
      go_wp2_with (first
        | (refine wpList_load_row rfl 65 (.tmp 12) rfl gc rfl _ _ _ _ hRC Try.underlying65 rfl hinf ?_))
      go_loopw [84] (fun ti wq => ∃ k : Nat, k ≤ 256 ∧ ti = .int .i64 k ∧ wq = wr) (fun ti _ => 256 - (intOf ti).toNat)
      case atStart => exact ⟨0, Nat.zero_le _, rfl, by first | trivial | rfl⟩
      case round =>
        obtain ⟨k, hk, rfl, hw9⟩ := hrel
        subst hw9
        by_cases h3 : k < 256
        · have h3i : (k : Int) < 256 := by omega
          have hix := fun W => HIX.out W k h3
          go_wp2_with fail
          go_roundw
          case rel => exact ⟨k + 1, by omega, by go_num, by first | trivial | rfl⟩
          case measure => simp [intOf]; omega
        · have h3i : ¬ (k : Int) < 256 := by omega
          clear hRC hinf HIX
          go_wp2_with (first
            | (go_at_call 29; fail))
          by_cases ht : 0 ≤ t ∧ t ≤ (m : Int)
          · obtain ⟨e, rfl⟩ := Int.eq_ofNat_of_zero_le ht.1
            refine (punt13 pa p m pc e _ (HSP.out _ DW) hm hm24 (by omega)).mono ?_
            rintro e9 w9 (⟨hN, rfl, B9⟩ | ⟨hW, ra9, rc9, y, rfl, hy, hyb, o9, B9⟩)
            · have D9 := DW.trans (B9.mono DW.size)
              go_wp2_with (first
                | (go_at_call 31; refine (plives13 _).mono ?_; rintro e14 w14 ⟨rfl, B14⟩))
              go_ret
              exact ⟨rfl, D9.trans (B14.mono D9.size)⟩
            · have D9 := DW.trans (B9.mono DW.size)
              have C9 := pturn13 ra9 y m rc9 w9 (own_seg13 o9 hyb) hy.len hm24
              have HPT : Hid (∀ A, Ar12 m (S12 y) A → tn13 y (m :: A) = p ∧ te13 m A = e) := fun A hA => by
                obtain rfl := hA.unique (hW.ar hy)
                exact ⟨Wk13.turn_all hm.out hW hy, hW.te hy⟩
              clear hW hy hyb o9
              go_wp2_with (first
                | (go_at_call 24; fail))
              refine C9.mono ?_
              rintro e10 w10 ⟨A2, hA2, ra10, rc10, rfl, o10, B10⟩
              obtain ⟨e1, e2⟩ := HPT.out A2 hA2
              rw [e1] at o10
              rw [e2]
              clear C9 e1 e2
              have D10 := D9.trans (B10.mono D9.size)
              have M10 := HSM.out w10 ra10 rc10 pa pc p m hm.out (own_seg13 o10 HVP.out) (HSP.out w10 D10)
              clear o10
              go_wp2_with (first
                | (go_at_call 26; refine M10.mono ?_; rintro e11 w11 ⟨rfl, hw11⟩; subst hw11; clear M10)
                | (go_at_call 31; refine (plives13 _).mono ?_; rintro e14 w14 ⟨rfl, B14⟩))
              go_ret
              exact ⟨rfl, D10.trans (B14.mono D10.size)⟩
          · refine (punte13 pa m pc t _ hm24 (by omega)).mono ?_
            rintro e9 w9 ⟨rfl, hw9⟩
            subst hw9
            go_wp2_with (first
              | (go_at_call 31; refine (plives13 _).mono ?_; rintro e14 w14 ⟨rfl, B14⟩))
            go_ret
            exact ⟨rfl, DW.trans (B14.mono DW.size)⟩
end Go.Proofs.Ytbgnlbgoeogbaaa

namespace Go.Proofs.Ytbgnlbgoeogbaaa
open Go.ChangeShapes Go.WideShapes Go.ChangeAt Go.RowKit
set_option linter.unusedVariables false

/-- A slice of whole numbers that came in: what lies there, and how it was read. -/
theorem open_seg {H : Type} {enc : TypeId × Value → H} {P : Program} {W : World} {T e : TypeId} {k : IntKind} {M : Int} {a : Option Addr} {len cap : Nat} {d : DataW H} {p : List MemPlace}
    (hT : P.underlying T = some (.slice e)) (he : P.underlying e = some (.int k)) (hc : P.cellsOf e = 1) (hM : 0 ≤ M) (hwf : ∀ n, (Lit.int k n).wf = true → 0 ≤ n ∧ n ≤ M)
    (h : DataW.Trod enc P W 0 (fun _ => true) true T (.slice a len cap) d p) :
    ∃ zs : List Int, zs.length = len ∧ SegK k M W a zs ∧ len ≤ cap ∧ (a = none → cap = 0) ∧ ((d = .nil ∧ len = 0) ∨ ∃ elems spare, d = .slice elems spare ∧ elems.length = len) := by
  obtain ⟨fuel, hf⟩ := h
  rcases open_ints hT he hc hf with ⟨hcs, hx⟩ | ⟨x, l, c, zs, hcs, _, hl, hm, hz, hx, hcell, hwz⟩
  · simp [Value.cells] at hcs
    obtain ⟨rfl, rfl, rfl⟩ := hcs
    simp only [Prod.mk.injEq] at hx
    exact ⟨[], rfl, SegK.nil hM _ _, Nat.le_refl _, fun _ => rfl, Or.inl ⟨hx.1, rfl⟩⟩
  · simp [Value.cells] at hcs
    obtain ⟨rfl, rfl, rfl⟩ := hcs
    simp only [Prod.mk.injEq] at hx
    simp only [if_true] at hz
    refine ⟨zs.take len, by simp; omega, ⟨fun i hi => ?_, hM, getD_bd hM ?_⟩, hl, (by intro h; cases h), Or.inr ⟨_, _, hx.1, by simp [ChangeShapes.lits]; omega⟩⟩
    · simp at hi
      have hi2 : i < len := by omega
      have h1 := hcell i (by omega)
      obtain ⟨b, off, spot⟩ := x
      have hs : spot = none := by
        have := hcell 0 (by omega)
        simpa [Addr.add] using World.cell?_spot this
      subst hs
      refine ⟨b, off, rfl, ?_⟩
      have hadd : (⟨b, off, none⟩ : Addr).add i = ⟨b, off + i, none⟩ := by unfold Addr.add; split <;> simp_all
      rw [hadd] at h1
      rw [h1]
      simp [List.getD, hi2]
    · intro z hz1
      exact hwf z (hwz z (List.mem_of_mem_take hz1))
end Go.Proofs.Ytbgnlbgoeogbaaa
