import Derived.Test.YtiankbopnjhhaaaGreatDoorPv
import Derived.Test.YtiankbopnjhhaaaGreatDoorPi
import Derived.Test.YtiankbopnjhhaaaGreatDoorPc
namespace Go.Proofs.YtiankbopnjhhaaaGreatDoor
open Go.RowKit
set_option linter.unusedVariables false

/-! The document's OwnLens. -/
def RoQ (w : World) (A D : List Int) (er : Int) (e : Ending) (w' : World) : Prop := ∃ la lc da dc, e = .returned (.tuple #[.slice la A.length lc, .slice da D.length dc, .int .i64 er]) ∧ SegZ w' la A ∧ SegZ w' da D ∧ (∀ x, la = some x → w.heap.size ≤ x.block) ∧ (∀ x, da = some x → w.heap.size ≤ x.block) ∧ Below w.heap.size w w'
/-- Two rows of the call's own beside each other. -/
structure Tw9 (w wr : World) (ga gb : Nat) (A D : List Int) : Prop where
  oa : wr.ownsRow w.heap.size 3 1 (.slice (some ⟨ga, 0, none⟩) 286 286) 286 (A.map (Value.int .i64))
  od : wr.ownsRow w.heap.size 3 1 (.slice (some ⟨gb, 0, none⟩) 30 30) 30 (D.map (Value.int .i64))
  ne : ga ≠ gb
  la : A.length = 286
  ld : D.length = 30
  bl : Below w.heap.size w wr
theorem Tw9.below {w wr w' : World} {ga gb : Nat} {A D : List Int} (h : Tw9 w wr ga gb A D) (b : Below wr.heap.size wr w') : Tw9 w w' ga gb A D := ⟨own_below h.oa b, own_below h.od b, h.ne, h.la, h.ld, h.bl.trans (b.mono h.bl.size)⟩
theorem Tw9.drew {w wr : World} {ga gb : Nat} {A D : List Int} (h : Tw9 w wr ga gb A D) : Tw9 w wr.drew ga gb A D := h.below ⟨rfl, rfl, rfl, Nat.le_refl _, fun _ _ => rfl⟩
theorem own_oth9 {w : World} {base n g x i : Nat} {A : List Int} {v : Value} (O : w.ownsRow base 3 1 (.slice (some ⟨g, 0, none⟩) n n) n (A.map (Value.int .i64))) (hne : g ≠ x) : (w.setCell ⟨x, i, none⟩ v).ownsRow base 3 1 (.slice (some ⟨g, 0, none⟩) n n) n (A.map (Value.int .i64)) :=
  own_kp O (Kp.set (S := fun k => k = x) rfl v) (fun k hk e => by simp [Value.ownBlock] at hk; omega)
theorem Tw9.setA {w wr : World} {ga gb : Nat} {A D : List Int} (h : Tw9 w wr ga gb A D) (i : Nat) (v : Int) : Tw9 w (wr.setCell ⟨ga, i, none⟩ (.int .i64 v)) ga gb (A.set i v) D := by
  obtain ⟨OS, GS⟩ := h.oa.stored i (.int .i64 v)
  rw [← List.map_set] at OS
  refine ⟨by simpa using OS, own_oth9 h.od (fun e => h.ne e.symm), h.ne, by rw [List.length_set]; exact h.la, h.ld, ?_⟩
  have := (h.oa.lt ga (by simp [Value.ownBlock])).1
  exact h.bl.trans ((Kp.set (S := fun k => k = ga) rfl _).below (fun k e => by omega) h.bl.size)
theorem Tw9.setD {w wr : World} {ga gb : Nat} {A D : List Int} (h : Tw9 w wr ga gb A D) (i : Nat) (v : Int) : Tw9 w (wr.setCell ⟨gb, i, none⟩ (.int .i64 v)) ga gb A (D.set i v) := by
  obtain ⟨OS, GS⟩ := h.od.stored i (.int .i64 v)
  rw [← List.map_set] at OS
  refine ⟨own_oth9 h.oa h.ne, by simpa using OS, h.ne, h.la, by rw [List.length_set]; exact h.ld, ?_⟩
  have := (h.od.lt gb (by simp [Value.ownBlock])).1
  exact h.bl.trans ((Kp.set (S := fun k => k = gb) rfl _).below (fun k e => by omega) h.bl.size)
theorem Tw9.cellA {w wr : World} {ga gb : Nat} {A D : List Int} (h : Tw9 w wr ga gb A D) {i : Nat} (hi : i < 286) : wr.cell? ⟨ga, i, none⟩ = some (.int .i64 (A.getD i 0)) ∧ ∀ k, wr.frozen? ⟨ga, k, none⟩ = false := own_cell1 h.oa (by rw [h.la]; exact hi)
theorem Tw9.cellD {w wr : World} {ga gb : Nat} {A D : List Int} (h : Tw9 w wr ga gb A D) {i : Nat} (hi : i < 30) : wr.cell? ⟨gb, i, none⟩ = some (.int .i64 (D.getD i 0)) ∧ ∀ k, wr.frozen? ⟨gb, k, none⟩ = false := own_cell1 h.od (by rw [h.ld]; exact hi)
theorem z0_9 : List.replicate 286 (0 : Int) = cl9 (tals9 []) ∧ List.replicate 30 (0 : Int) = cd9 (tals9 []) := by
  constructor
  · refine ext9 (by rw [cl9_len]; exact List.length_replicate ..) fun i hi => ?_
    rw [List.length_replicate] at hi
    rw [cl9_get _ hi]
    exact (repl_get 286 i).trans (repl_get 318 (2 + i)).symm
  · refine ext9 (by rw [cd9_len]; exact List.length_replicate ..) fun i hi => ?_
    rw [List.length_replicate] at hi
    rw [cd9_get _ hi]
    exact (repl_get 30 i).trans (repl_get 318 (288 + i)).symm
set_option maxRecDepth 100000 in
set_option maxHeartbeats 8000000 in
theorem rown9 (l : List Tok7) (a : Option Addr) (n cap : Nat) (hn : Hid (l.length = n)) (w : World) (hs : SegT w a l) (hl : n ≤ 5864062014634) :
    Calls Tryz.prog 20 #[.slice a n cap] w (RoQ w (owa9 l) (owd9 l) (mer9 l)) := by
  have CM := rmay9 l a n cap hn w hs hl
  have HS : Hid (SegT w a l) := hs
  clear hs
  by_cases hm : mer9 l = 0
  · have HQ : Hid (owa9 l = oL9 (tal9 l) ∧ owd9 l = oD9 (tal9 l) ∧ mer9 l = 0) := ⟨if_pos hm, if_pos hm, hm⟩
    have HMY : Hid (∀ t ∈ l, may7 t) := (mer9_zero hm).2
    have hn6 : n ≤ 65536 := by have := (mer9_zero hm).1; rw [hn.out] at this; exact this
    rw [hm] at CM
    clear hm
    have M1 : ∀ W, (Instr.makeSlice 39 (.int .i64 286) (.int .i64 286)).run Tryz.prog W = .ok (.slice (some ⟨W.heap.size, 0, none⟩) 286 286) (W.alloc (.cells (Array.replicate 286 (.int .i64 0)) 3)) := fun W => run_make_ints 286 (by omega) W
    have M2 : ∀ W, (Instr.makeSlice 39 (.int .i64 30) (.int .i64 30)).run Tryz.prog W = .ok (.slice (some ⟨W.heap.size, 0, none⟩) 30 30) (W.alloc (.cells (Array.replicate 30 (.int .i64 0)) 3)) := fun W => run_make_ints 30 (by omega) W
    go_enter Tryz.func20, Tryz.ntmps20
    go_wp2_with fail
    refine CM.mono ?_
    rintro e w1 ⟨rfl, b1⟩
    clear CM
    go_wp2_with fail
    have BA : ∀ (W : World) (o : Obj), Below W.heap.size W (W.alloc o) := fun W o => below_box8 W o
    go_region
    · have T0 : Tw9 w ((w1.alloc (.cells (Array.replicate 286 (.int .i64 0)) 3)).alloc (.cells (Array.replicate 30 (.int .i64 0)) 3)).drew w1.heap.size (w1.heap.size + 1) (List.replicate 286 0) (List.replicate 30 0) := by
        refine Tw9.drew ⟨own_below (own_baseN (own_zeros w1 286 (by omega)) b1.size) (BA _ _), ?_, by omega, List.length_replicate .., List.length_replicate .., (b1.trans ((BA _ _).mono b1.size)).trans ((BA _ _).mono (by have := b1.size; simp; omega))⟩
        have := own_baseN (base' := w.heap.size) (own_zeros (w1.alloc (.cells (Array.replicate 286 (.int .i64 0)) 3)) 30 (by omega)) (by have := b1.size; simp; omega)
        rw [show (w1.alloc (.cells (Array.replicate 286 (.int .i64 0)) 3)).heap.size = w1.heap.size + 1 by simp] at this
        exact this
      generalize ((w1.alloc (.cells (Array.replicate 286 (.int .i64 0)) 3)).alloc (.cells (Array.replicate 30 (.int .i64 0)) 3)).drew = w2 at *
      generalize w1.heap.size + 1 = gb at *
      generalize w1.heap.size = ga at *
      rw [z0_9.1, z0_9.2] at T0
      have HT0 : Hid (Tw9 w (w2.setCell ⟨ga, 256, none⟩ (.int .i64 1)) ga gb ((cl9 (tals9 [])).set 256 1) (cd9 (tals9 []))) := T0.setA 256 1
      obtain ⟨c0, fz⟩ := T0.cellA (i := 256) (by omega)
      have f0 := fz 256
      generalize (cl9 (tals9 [])).getD 256 0 = y0 at *
      clear fz T0 b1 M1 M2 BA
      go_wp2_with fail
      go_loopw [33] (fun ti wr => ∃ i : Nat, i ≤ n ∧ ti = .int .i64 (i : Int) ∧ Tw9 w wr ga gb ((cl9 (tals9 (l.take i))).set 256 1) (cd9 (tals9 (l.take i))) ∧ Hid (∀ j, (0 ≤ ((cl9 (tals9 (l.take i))).set 256 1).getD j 0 ∧ ((cl9 (tals9 (l.take i))).set 256 1).getD j 0 ≤ (i : Int) + 1) ∧ 0 ≤ (cd9 (tals9 (l.take i))).getD j 0 ∧ (cd9 (tals9 (l.take i))).getD j 0 ≤ (i : Int) + 1)) (fun ti _ => n - (intOf ti).toNat)
      case atStart =>
        refine ⟨0, by omega, rfl, by rw [List.take_zero]; exact HT0.out, ?_⟩
        rw [List.take_zero]
        intro j
        rw [gset9 _ _ _ _ (by rw [cl9_len]; omega), ← z0_9.1, ← z0_9.2, repl_get, repl_get]
        split <;> omega
      case round =>
        obtain ⟨i, hin, rfl, TT, HBD⟩ := hrel
        clear HT0 c0 f0
        by_cases hlt : i < n
        · have hlti : (i : Int) < (n : Int) := by omega
          have hil : i < l.length := by rw [hn.out]; exact hlt
          obtain ⟨g, o, rfl, tk⟩ := (HS.out.old TT.bl).at_ i hil
          have hfit := HS.out.fit (l.getD i tk0) (by simp only [List.getD, List.getElem?_eq_getElem hil, Option.getD_some]; exact List.getElem_mem hil)
          have hmay := HMY.out (l.getD i tk0) (by simp only [List.getD, List.getElem?_eq_getElem hil, Option.getD_some]; exact List.getElem_mem hil)
          have HTK : Hid (tals9 (l.take (i + 1)) = tst9 (tals9 (l.take i)) (l.getD i tk0)) := by show _ = _; rw [takeT7 hil, tals9_snoc]
          generalize l.getD i tk0 = t at *
          have s1 := cl9_step (tals9_len (l.take i)) hfit hmay
          have s2 := cd9_lit (tals9_len (l.take i)) hfit hmay
          have s3 := cd9_step (tals9_len (l.take i)) hfit hmay
          rw [← HTK.out] at s1 s2 s3
          have hsy := (sym9_lt hfit hmay).1
          have hfm := (fit_may9 hfit hmay)
          have hsyd : sym9 t = if t.len = 0 then t.lit.toNat else 257 + lix9 t.len := rfl
          have HS1 : Hid (∀ A D, (cl9 (tals9 (l.take (i + 1)))).set 256 1 = A → cd9 (tals9 (l.take (i + 1))) = D → ∀ W, Tw9 w W ga gb A D → (∀ j, (0 ≤ A.getD j 0 ∧ A.getD j 0 ≤ (i : Int) + 1 + 1) ∧ 0 ≤ D.getD j 0 ∧ D.getD j 0 ≤ (i : Int) + 1 + 1) → Tw9 w W ga gb ((cl9 (tals9 (l.take (i + 1)))).set 256 1) (cd9 (tals9 (l.take (i + 1)))) ∧ Hid (∀ j, (0 ≤ ((cl9 (tals9 (l.take (i + 1)))).set 256 1).getD j 0 ∧ ((cl9 (tals9 (l.take (i + 1)))).set 256 1).getD j 0 ≤ ((i + 1 : Nat) : Int) + 1) ∧ 0 ≤ (cd9 (tals9 (l.take (i + 1)))).getD j 0 ∧ (cd9 (tals9 (l.take (i + 1)))).getD j 0 ≤ ((i + 1 : Nat) : Int) + 1)) := by
            intro A D e1 e2 W hT hb
            subst e1 e2
            exact ⟨hT, fun j => by have := hb j; omega⟩
          obtain ⟨A, hA⟩ : ∃ A, A = (cl9 (tals9 (l.take i))).set 256 1 := ⟨_, rfl⟩
          obtain ⟨D, hD⟩ : ∃ D, D = cd9 (tals9 (l.take i)) := ⟨_, rfl⟩
          rw [← hA] at s1 TT HBD
          rw [← hD] at s2 s3 TT HBD
          clear hA hD HTK
          obtain ⟨lit, len, dist⟩ := t
          obtain ⟨x0, x1, x2⟩ := tk
          simp only at x0 x1 x2 hfm hsyd
          have b1 := below_box8 wr (.cells #[.int .u8 lit, .int .i64 len, .int .i64 dist] 98)
          have T1 := TT.below b1
          have hga := (TT.oa.lt ga (by simp [Value.ownBlock])).2
          have hgb := (TT.od.lt gb (by simp [Value.ownBlock])).2
          by_cases hz : len = 0
          · rw [if_pos hz] at hsyd
            obtain ⟨L, rfl⟩ : ∃ L : Nat, lit = (L : Int) := ⟨lit.toNat, by omega⟩
            rw [Int.toNat_natCast] at hsyd
            rw [hsyd] at s1 hsy
            obtain ⟨c0, fz⟩ := T1.cellA (i := L) hsy
            have f0 := fz L
            have bb := (HBD.out L).1
            have HT2 : Hid (Tw9 w ((wr.setCell ⟨ga, L, none⟩ (.int .i64 (A.getD L 0 + 1))).alloc (.cells #[.int .u8 (L : Int), .int .i64 0, .int .i64 dist] 98)) ga gb (inc9 A L 1) D) := (TT.setA L (A.getD L 0 + 1)).below (below_box8 _ _)
            have HB2 : Hid (∀ j, (0 ≤ (inc9 A L 1).getD j 0 ∧ (inc9 A L 1).getD j 0 ≤ (i : Int) + 1 + 1) ∧ 0 ≤ D.getD j 0 ∧ D.getD j 0 ≤ (i : Int) + 1 + 1) := fun j => by
              rw [inc9_get _ _ _ _ (by rw [TT.la]; exact hsy)]
              have := HBD.out j
              split <;> omega
            have HS2 := HS1.out _ _ s1 (s2 hz)
            have HS3 : Hid (∀ W, Tw9 w W ga gb (inc9 A L 1) D → Tw9 w W ga gb ((cl9 (tals9 (l.take (i + 1)))).set 256 1) (cd9 (tals9 (l.take (i + 1)))) ∧ Hid (∀ j, (0 ≤ ((cl9 (tals9 (l.take (i + 1)))).set 256 1).getD j 0 ∧ ((cl9 (tals9 (l.take (i + 1)))).set 256 1).getD j 0 ≤ ((i + 1 : Nat) : Int) + 1) ∧ 0 ≤ (cd9 (tals9 (l.take (i + 1)))).getD j 0 ∧ (cd9 (tals9 (l.take (i + 1)))).getD j 0 ≤ ((i + 1 : Nat) : Int) + 1)) := fun W hT => HS2 W hT HB2.out
            subst hz
            generalize A.getD L 0 = y at *
            have i1 : IntKind.i64.wrap (y + 1) = y + 1 := IntWalk.i64_in _ (by omega)
            have hLi : (L : Int) < 286 := by omega
            clear s1 s2 s3 HS1 HS2 HBD HB2 T1 b1 TT hsyd hfm hfit hmay fz
            go_wp2_with fail
            go_roundw
            case rel => exact ⟨i + 1, by omega, by go_num, (HS3.out _ HT2.out).1, (HS3.out _ HT2.out).2⟩
            case measure => simp [intOf]; omega
          · rw [if_neg hz] at hsyd
            have hfm2 := hfm.2.2.resolve_left (fun q => hz q.1)
            obtain ⟨k2, k3, k4, k5, k6, klit⟩ := hfm2
            clear klit k2
            have CL := rlsy9_is len k3 k4 (wr.alloc (.cells #[.int .u8 lit, .int .i64 len, .int .i64 dist] 98))
            have hdx := (dspec9 k5).2.1
            have CD := rdsy9_is dist k5 k6
            rw [hsyd] at s1 hsy
            have s3 := s3 hz
            obtain ⟨p, hp⟩ : ∃ p, p = 257 + lix9 len := ⟨_, rfl⟩
            obtain ⟨q, hq⟩ : ∃ q, q = dix9 dist := ⟨_, rfl⟩
            have hpi : 257 + (lix9 len : Int) = (p : Int) := by omega
            rw [← hp] at s1 hsy
            simp only at s3
            rw [← hq] at s3 hdx
            rw [hpi] at CL
            rw [← hq] at CD
            generalize lnS9.getD (lix9 len * 2 + 1) 0 = z1 at *
            generalize lnS9.getD (lix9 len * 2) 0 = z2 at *
            generalize dsS9.getD (q * 2 + 1) 0 = z3 at *
            generalize dsS9.getD (q * 2) 0 = z4 at *
            have HB2 : Hid (∀ j, (0 ≤ (inc9 A p 1).getD j 0 ∧ (inc9 A p 1).getD j 0 ≤ (i : Int) + 1 + 1) ∧ 0 ≤ (inc9 D q 1).getD j 0 ∧ (inc9 D q 1).getD j 0 ≤ (i : Int) + 1 + 1) := fun j => by
              rw [inc9_get _ _ _ _ (by rw [TT.la]; exact hsy), inc9_get _ _ _ _ (by rw [TT.ld]; exact hdx)]
              have := HBD.out j
              constructor <;> split <;> omega
            have HS2 := HS1.out _ _ s1 s3
            have HS3 : Hid (∀ W, Tw9 w W ga gb (inc9 A p 1) (inc9 D q 1) → Tw9 w W ga gb ((cl9 (tals9 (l.take (i + 1)))).set 256 1) (cd9 (tals9 (l.take (i + 1)))) ∧ Hid (∀ j, (0 ≤ ((cl9 (tals9 (l.take (i + 1)))).set 256 1).getD j 0 ∧ ((cl9 (tals9 (l.take (i + 1)))).set 256 1).getD j 0 ≤ ((i + 1 : Nat) : Int) + 1) ∧ 0 ≤ (cd9 (tals9 (l.take (i + 1)))).getD j 0 ∧ (cd9 (tals9 (l.take (i + 1)))).getD j 0 ≤ ((i + 1 : Nat) : Int) + 1)) := fun W hT => HS2 W hT HB2.out
            have bbA := (HBD.out p).1
            have bbD := (HBD.out q).2
            have HT1 : Hid (Tw9 w (wr.alloc (.cells #[.int .u8 lit, .int .i64 len, .int .i64 dist] 98)) ga gb A D) := T1
            have g0 := heap_alloc_new wr (.cells #[.int .u8 lit, .int .i64 len, .int .i64 dist] 98)
            have HCD : Hid (∀ w, Calls Tryz.prog 12 #[.int .i64 dist] w fun e w' => e = .returned (.tuple #[.int .i64 (q : Int), .int .i64 z3, .int .i64 (dist - z4), .int .i64 0]) ∧ Below w.heap.size w w') := CD
            clear s1 s2 s3 HS1 HS2 HBD HB2 T1 b1 TT hsyd hfm hfit hmay CD hp hq hpi
            go_wp2_with fail
            generalize wr.alloc (.cells #[.int .u8 lit, .int .i64 len, .int .i64 dist] 98) = wa at *
            refine CL.mono ?_
            rintro e w3 ⟨rfl, b3⟩
            have T3 := HT1.out.below b3
            have hwl : wr.heap.size < wa.heap.size := (Array.getElem?_eq_some_iff.1 g0).1
            have g3 := (b3.block wr.heap.size hwl).trans g0
            have c2 : w3.cell? ⟨wr.heap.size, 2, none⟩ = some (.int .i64 dist) := (cell_of_row w3 _ 2 _ _ _ g3).trans rfl
            clear CL HT1 g0 b3 g3
            go_wp2_with fail
            refine (HCD.out w3).mono ?_
            rintro e w4 ⟨rfl, b4⟩
            have T4 := T3.below b4
            clear T3 b4 HCD c2
            obtain ⟨c0, fz⟩ := T4.cellA (i := p) hsy
            have f0 := fz p
            obtain ⟨d0, gz⟩ := T4.cellD (i := q) hdx
            have k0 := gz q
            have HT5 : Hid (Tw9 w ((w4.setCell ⟨ga, p, none⟩ (.int .i64 (A.getD p 0 + 1))).setCell ⟨gb, q, none⟩ (.int .i64 (D.getD q 0 + 1))) ga gb (inc9 A p 1) (inc9 D q 1)) := (T4.setA p (A.getD p 0 + 1)).setD q (D.getD q 0 + 1)
            have hne := T4.ne
            have hpl : (p : Int) < 286 := by omega
            have hql : (q : Int) < 30 := by omega
            clear T4 fz gz hga hgb
            generalize A.getD p 0 = y at *
            generalize D.getD q 0 = v at *
            have i1 : IntKind.i64.wrap (y + 1) = y + 1 := IntWalk.i64_in _ (by omega)
            have i2 : IntKind.i64.wrap (v + 1) = v + 1 := IntWalk.i64_in _ (by omega)
            go_wp2_with fail
            go_roundw
            case rel => exact ⟨i + 1, by omega, by go_num, (HS3.out _ HT5.out).1, (HS3.out _ HT5.out).2⟩
            case measure => simp [intOf]; omega
        · have hge : ¬ (i : Int) < (n : Int) := by omega
          have hTA : l.take i = l := List.take_of_length_le (by rw [hn.out]; omega)
          rw [hTA, ← cl9_tal, ← cd9_tal] at TT
          have bdA : ∀ z ∈ cl9 (tal9 l), -9223372036854775808 ≤ z ∧ z ≤ 9223372036854775807 := fun z hz => by
            obtain ⟨j, hj, rfl⟩ := List.mem_iff_getElem.1 hz
            have := (HBD.out j).1
            rw [hTA, ← cl9_tal] at this
            simp only [List.getD, List.getElem?_eq_getElem hj, Option.getD_some] at this
            omega
          have bdD : ∀ z ∈ cd9 (tal9 l), -9223372036854775808 ≤ z ∧ z ≤ 9223372036854775807 := fun z hz => by
            obtain ⟨j, hj, rfl⟩ := List.mem_iff_getElem.1 hz
            have := (HBD.out j).2
            rw [hTA, ← cd9_tal] at this
            simp only [List.getD, List.getElem?_eq_getElem hj, Option.getD_some] at this
            omega
          have sA := own_segZ TT.oa bdA
          have sD := own_segZ TT.od bdD
          have CL := rlengths_far 15 _ (cl9 (tal9 l)) 286 286 (cl9_len _) wr sA (by omega)
          have HCD : Hid (∀ W, Below wr.heap.size wr W → Calls Tryz.prog 49 #[.int .i64 15, .slice (some ⟨gb, 0, none⟩) 30 30] W (LenF W 15 (cd9 (tal9 l)))) := fun W hW => rlengths_far 15 _ (cd9 (tal9 l)) 30 30 (cd9_len _) W (sD.old hW) (by omega)
          have BR := TT.bl
          clear HBD hTA bdA bdD sA sD TT
          go_wp2_with fail
          refine CL.mono ?_
          rintro e w3 ⟨xa, xc, rfl, s3, fr3, b3⟩
          have CD := HCD.out w3 b3
          clear CL HCD
          go_wp2_with fail
          refine CD.mono ?_
          rintro e w4 ⟨ya, yc, rfl, s4, fr4, b4⟩
          have s3' := s3.old b4
          have B3 : Below w.heap.size w w3 := BR.trans (b3.mono BR.size)
          have B4 : Below w.heap.size w w4 := B3.trans (b4.mono B3.size)
          have hr := BR.size
          have h3 := B3.size
          clear CD s3 b3 b4 BR
          go_wp2_with fail
          go_ret3
          show RoQ w (owa9 l) (owd9 l) (mer9 l) _ _
          rw [HQ.out.1, HQ.out.2.1, HQ.out.2.2]
          exact ⟨xa, xc, ya, yc, rfl, s3', s4, fun x e => Nat.le_trans hr (fr3 x e), fun x e => Nat.le_trans h3 (fr4 x e), B4⟩
    · have T0 : Tw9 w ((w1.alloc (.cells (Array.replicate 30 (.int .i64 0)) 3)).alloc (.cells (Array.replicate 286 (.int .i64 0)) 3)).drew (w1.heap.size + 1) w1.heap.size (List.replicate 286 0) (List.replicate 30 0) := by
        refine Tw9.drew ⟨?_, own_below (own_baseN (own_zeros w1 30 (by omega)) b1.size) (BA _ _), by omega, List.length_replicate .., List.length_replicate .., (b1.trans ((BA _ _).mono b1.size)).trans ((BA _ _).mono (by have := b1.size; simp; omega))⟩
        have := own_baseN (base' := w.heap.size) (own_zeros (w1.alloc (.cells (Array.replicate 30 (.int .i64 0)) 3)) 286 (by omega)) (by have := b1.size; simp; omega)
        rw [show (w1.alloc (.cells (Array.replicate 30 (.int .i64 0)) 3)).heap.size = w1.heap.size + 1 by simp] at this
        exact this
      generalize ((w1.alloc (.cells (Array.replicate 30 (.int .i64 0)) 3)).alloc (.cells (Array.replicate 286 (.int .i64 0)) 3)).drew = w2 at *
      generalize w1.heap.size + 1 = ga at *
      generalize w1.heap.size = gb at *
      rw [z0_9.1, z0_9.2] at T0
      have HT0 : Hid (Tw9 w (w2.setCell ⟨ga, 256, none⟩ (.int .i64 1)) ga gb ((cl9 (tals9 [])).set 256 1) (cd9 (tals9 []))) := T0.setA 256 1
      obtain ⟨c0, fz⟩ := T0.cellA (i := 256) (by omega)
      have f0 := fz 256
      generalize (cl9 (tals9 [])).getD 256 0 = y0 at *
      clear fz T0 b1 M1 M2 BA
      go_wp2_with fail
      go_loopw [33] (fun ti wr => ∃ i : Nat, i ≤ n ∧ ti = .int .i64 (i : Int) ∧ Tw9 w wr ga gb ((cl9 (tals9 (l.take i))).set 256 1) (cd9 (tals9 (l.take i))) ∧ Hid (∀ j, (0 ≤ ((cl9 (tals9 (l.take i))).set 256 1).getD j 0 ∧ ((cl9 (tals9 (l.take i))).set 256 1).getD j 0 ≤ (i : Int) + 1) ∧ 0 ≤ (cd9 (tals9 (l.take i))).getD j 0 ∧ (cd9 (tals9 (l.take i))).getD j 0 ≤ (i : Int) + 1)) (fun ti _ => n - (intOf ti).toNat)
      case atStart =>
        refine ⟨0, by omega, rfl, by rw [List.take_zero]; exact HT0.out, ?_⟩
        rw [List.take_zero]
        intro j
        rw [gset9 _ _ _ _ (by rw [cl9_len]; omega), ← z0_9.1, ← z0_9.2, repl_get, repl_get]
        split <;> omega
      case round =>
        obtain ⟨i, hin, rfl, TT, HBD⟩ := hrel
        clear HT0 c0 f0
        by_cases hlt : i < n
        · have hlti : (i : Int) < (n : Int) := by omega
          have hil : i < l.length := by rw [hn.out]; exact hlt
          obtain ⟨g, o, rfl, tk⟩ := (HS.out.old TT.bl).at_ i hil
          have hfit := HS.out.fit (l.getD i tk0) (by simp only [List.getD, List.getElem?_eq_getElem hil, Option.getD_some]; exact List.getElem_mem hil)
          have hmay := HMY.out (l.getD i tk0) (by simp only [List.getD, List.getElem?_eq_getElem hil, Option.getD_some]; exact List.getElem_mem hil)
          have HTK : Hid (tals9 (l.take (i + 1)) = tst9 (tals9 (l.take i)) (l.getD i tk0)) := by show _ = _; rw [takeT7 hil, tals9_snoc]
          generalize l.getD i tk0 = t at *
          have s1 := cl9_step (tals9_len (l.take i)) hfit hmay
          have s2 := cd9_lit (tals9_len (l.take i)) hfit hmay
          have s3 := cd9_step (tals9_len (l.take i)) hfit hmay
          rw [← HTK.out] at s1 s2 s3
          have hsy := (sym9_lt hfit hmay).1
          have hfm := (fit_may9 hfit hmay)
          have hsyd : sym9 t = if t.len = 0 then t.lit.toNat else 257 + lix9 t.len := rfl
          have HS1 : Hid (∀ A D, (cl9 (tals9 (l.take (i + 1)))).set 256 1 = A → cd9 (tals9 (l.take (i + 1))) = D → ∀ W, Tw9 w W ga gb A D → (∀ j, (0 ≤ A.getD j 0 ∧ A.getD j 0 ≤ (i : Int) + 1 + 1) ∧ 0 ≤ D.getD j 0 ∧ D.getD j 0 ≤ (i : Int) + 1 + 1) → Tw9 w W ga gb ((cl9 (tals9 (l.take (i + 1)))).set 256 1) (cd9 (tals9 (l.take (i + 1)))) ∧ Hid (∀ j, (0 ≤ ((cl9 (tals9 (l.take (i + 1)))).set 256 1).getD j 0 ∧ ((cl9 (tals9 (l.take (i + 1)))).set 256 1).getD j 0 ≤ ((i + 1 : Nat) : Int) + 1) ∧ 0 ≤ (cd9 (tals9 (l.take (i + 1)))).getD j 0 ∧ (cd9 (tals9 (l.take (i + 1)))).getD j 0 ≤ ((i + 1 : Nat) : Int) + 1)) := by
            intro A D e1 e2 W hT hb
            subst e1 e2
            exact ⟨hT, fun j => by have := hb j; omega⟩
          obtain ⟨A, hA⟩ : ∃ A, A = (cl9 (tals9 (l.take i))).set 256 1 := ⟨_, rfl⟩
          obtain ⟨D, hD⟩ : ∃ D, D = cd9 (tals9 (l.take i)) := ⟨_, rfl⟩
          rw [← hA] at s1 TT HBD
          rw [← hD] at s2 s3 TT HBD
          clear hA hD HTK
          obtain ⟨lit, len, dist⟩ := t
          obtain ⟨x0, x1, x2⟩ := tk
          simp only at x0 x1 x2 hfm hsyd
          have b1 := below_box8 wr (.cells #[.int .u8 lit, .int .i64 len, .int .i64 dist] 98)
          have T1 := TT.below b1
          have hga := (TT.oa.lt ga (by simp [Value.ownBlock])).2
          have hgb := (TT.od.lt gb (by simp [Value.ownBlock])).2
          by_cases hz : len = 0
          · rw [if_pos hz] at hsyd
            obtain ⟨L, rfl⟩ : ∃ L : Nat, lit = (L : Int) := ⟨lit.toNat, by omega⟩
            rw [Int.toNat_natCast] at hsyd
            rw [hsyd] at s1 hsy
            obtain ⟨c0, fz⟩ := T1.cellA (i := L) hsy
            have f0 := fz L
            have bb := (HBD.out L).1
            have HT2 : Hid (Tw9 w ((wr.setCell ⟨ga, L, none⟩ (.int .i64 (A.getD L 0 + 1))).alloc (.cells #[.int .u8 (L : Int), .int .i64 0, .int .i64 dist] 98)) ga gb (inc9 A L 1) D) := (TT.setA L (A.getD L 0 + 1)).below (below_box8 _ _)
            have HB2 : Hid (∀ j, (0 ≤ (inc9 A L 1).getD j 0 ∧ (inc9 A L 1).getD j 0 ≤ (i : Int) + 1 + 1) ∧ 0 ≤ D.getD j 0 ∧ D.getD j 0 ≤ (i : Int) + 1 + 1) := fun j => by
              rw [inc9_get _ _ _ _ (by rw [TT.la]; exact hsy)]
              have := HBD.out j
              split <;> omega
            have HS2 := HS1.out _ _ s1 (s2 hz)
            have HS3 : Hid (∀ W, Tw9 w W ga gb (inc9 A L 1) D → Tw9 w W ga gb ((cl9 (tals9 (l.take (i + 1)))).set 256 1) (cd9 (tals9 (l.take (i + 1)))) ∧ Hid (∀ j, (0 ≤ ((cl9 (tals9 (l.take (i + 1)))).set 256 1).getD j 0 ∧ ((cl9 (tals9 (l.take (i + 1)))).set 256 1).getD j 0 ≤ ((i + 1 : Nat) : Int) + 1) ∧ 0 ≤ (cd9 (tals9 (l.take (i + 1)))).getD j 0 ∧ (cd9 (tals9 (l.take (i + 1)))).getD j 0 ≤ ((i + 1 : Nat) : Int) + 1)) := fun W hT => HS2 W hT HB2.out
            subst hz
            generalize A.getD L 0 = y at *
            have i1 : IntKind.i64.wrap (y + 1) = y + 1 := IntWalk.i64_in _ (by omega)
            have hLi : (L : Int) < 286 := by omega
            clear s1 s2 s3 HS1 HS2 HBD HB2 T1 b1 TT hsyd hfm hfit hmay fz
            go_wp2_with fail
            go_roundw
            case rel => exact ⟨i + 1, by omega, by go_num, (HS3.out _ HT2.out).1, (HS3.out _ HT2.out).2⟩
            case measure => simp [intOf]; omega
          · rw [if_neg hz] at hsyd
            have hfm2 := hfm.2.2.resolve_left (fun q => hz q.1)
            obtain ⟨k2, k3, k4, k5, k6, klit⟩ := hfm2
            clear klit k2
            have CL := rlsy9_is len k3 k4 (wr.alloc (.cells #[.int .u8 lit, .int .i64 len, .int .i64 dist] 98))
            have hdx := (dspec9 k5).2.1
            have CD := rdsy9_is dist k5 k6
            rw [hsyd] at s1 hsy
            have s3 := s3 hz
            obtain ⟨p, hp⟩ : ∃ p, p = 257 + lix9 len := ⟨_, rfl⟩
            obtain ⟨q, hq⟩ : ∃ q, q = dix9 dist := ⟨_, rfl⟩
            have hpi : 257 + (lix9 len : Int) = (p : Int) := by omega
            rw [← hp] at s1 hsy
            simp only at s3
            rw [← hq] at s3 hdx
            rw [hpi] at CL
            rw [← hq] at CD
            generalize lnS9.getD (lix9 len * 2 + 1) 0 = z1 at *
            generalize lnS9.getD (lix9 len * 2) 0 = z2 at *
            generalize dsS9.getD (q * 2 + 1) 0 = z3 at *
            generalize dsS9.getD (q * 2) 0 = z4 at *
            have HB2 : Hid (∀ j, (0 ≤ (inc9 A p 1).getD j 0 ∧ (inc9 A p 1).getD j 0 ≤ (i : Int) + 1 + 1) ∧ 0 ≤ (inc9 D q 1).getD j 0 ∧ (inc9 D q 1).getD j 0 ≤ (i : Int) + 1 + 1) := fun j => by
              rw [inc9_get _ _ _ _ (by rw [TT.la]; exact hsy), inc9_get _ _ _ _ (by rw [TT.ld]; exact hdx)]
              have := HBD.out j
              constructor <;> split <;> omega
            have HS2 := HS1.out _ _ s1 s3
            have HS3 : Hid (∀ W, Tw9 w W ga gb (inc9 A p 1) (inc9 D q 1) → Tw9 w W ga gb ((cl9 (tals9 (l.take (i + 1)))).set 256 1) (cd9 (tals9 (l.take (i + 1)))) ∧ Hid (∀ j, (0 ≤ ((cl9 (tals9 (l.take (i + 1)))).set 256 1).getD j 0 ∧ ((cl9 (tals9 (l.take (i + 1)))).set 256 1).getD j 0 ≤ ((i + 1 : Nat) : Int) + 1) ∧ 0 ≤ (cd9 (tals9 (l.take (i + 1)))).getD j 0 ∧ (cd9 (tals9 (l.take (i + 1)))).getD j 0 ≤ ((i + 1 : Nat) : Int) + 1)) := fun W hT => HS2 W hT HB2.out
            have bbA := (HBD.out p).1
            have bbD := (HBD.out q).2
            have HT1 : Hid (Tw9 w (wr.alloc (.cells #[.int .u8 lit, .int .i64 len, .int .i64 dist] 98)) ga gb A D) := T1
            have g0 := heap_alloc_new wr (.cells #[.int .u8 lit, .int .i64 len, .int .i64 dist] 98)
            have HCD : Hid (∀ w, Calls Tryz.prog 12 #[.int .i64 dist] w fun e w' => e = .returned (.tuple #[.int .i64 (q : Int), .int .i64 z3, .int .i64 (dist - z4), .int .i64 0]) ∧ Below w.heap.size w w') := CD
            clear s1 s2 s3 HS1 HS2 HBD HB2 T1 b1 TT hsyd hfm hfit hmay CD hp hq hpi
            go_wp2_with fail
            generalize wr.alloc (.cells #[.int .u8 lit, .int .i64 len, .int .i64 dist] 98) = wa at *
            refine CL.mono ?_
            rintro e w3 ⟨rfl, b3⟩
            have T3 := HT1.out.below b3
            have hwl : wr.heap.size < wa.heap.size := (Array.getElem?_eq_some_iff.1 g0).1
            have g3 := (b3.block wr.heap.size hwl).trans g0
            have c2 : w3.cell? ⟨wr.heap.size, 2, none⟩ = some (.int .i64 dist) := (cell_of_row w3 _ 2 _ _ _ g3).trans rfl
            clear CL HT1 g0 b3 g3
            go_wp2_with fail
            refine (HCD.out w3).mono ?_
            rintro e w4 ⟨rfl, b4⟩
            have T4 := T3.below b4
            clear T3 b4 HCD c2
            obtain ⟨c0, fz⟩ := T4.cellA (i := p) hsy
            have f0 := fz p
            obtain ⟨d0, gz⟩ := T4.cellD (i := q) hdx
            have k0 := gz q
            have HT5 : Hid (Tw9 w ((w4.setCell ⟨ga, p, none⟩ (.int .i64 (A.getD p 0 + 1))).setCell ⟨gb, q, none⟩ (.int .i64 (D.getD q 0 + 1))) ga gb (inc9 A p 1) (inc9 D q 1)) := (T4.setA p (A.getD p 0 + 1)).setD q (D.getD q 0 + 1)
            have hne := T4.ne
            have hpl : (p : Int) < 286 := by omega
            have hql : (q : Int) < 30 := by omega
            clear T4 fz gz hga hgb
            generalize A.getD p 0 = y at *
            generalize D.getD q 0 = v at *
            have i1 : IntKind.i64.wrap (y + 1) = y + 1 := IntWalk.i64_in _ (by omega)
            have i2 : IntKind.i64.wrap (v + 1) = v + 1 := IntWalk.i64_in _ (by omega)
            go_wp2_with fail
            go_roundw
            case rel => exact ⟨i + 1, by omega, by go_num, (HS3.out _ HT5.out).1, (HS3.out _ HT5.out).2⟩
            case measure => simp [intOf]; omega
        · have hge : ¬ (i : Int) < (n : Int) := by omega
          have hTA : l.take i = l := List.take_of_length_le (by rw [hn.out]; omega)
          rw [hTA, ← cl9_tal, ← cd9_tal] at TT
          have bdA : ∀ z ∈ cl9 (tal9 l), -9223372036854775808 ≤ z ∧ z ≤ 9223372036854775807 := fun z hz => by
            obtain ⟨j, hj, rfl⟩ := List.mem_iff_getElem.1 hz
            have := (HBD.out j).1
            rw [hTA, ← cl9_tal] at this
            simp only [List.getD, List.getElem?_eq_getElem hj, Option.getD_some] at this
            omega
          have bdD : ∀ z ∈ cd9 (tal9 l), -9223372036854775808 ≤ z ∧ z ≤ 9223372036854775807 := fun z hz => by
            obtain ⟨j, hj, rfl⟩ := List.mem_iff_getElem.1 hz
            have := (HBD.out j).2
            rw [hTA, ← cd9_tal] at this
            simp only [List.getD, List.getElem?_eq_getElem hj, Option.getD_some] at this
            omega
          have sA := own_segZ TT.oa bdA
          have sD := own_segZ TT.od bdD
          have CL := rlengths_far 15 _ (cl9 (tal9 l)) 286 286 (cl9_len _) wr sA (by omega)
          have HCD : Hid (∀ W, Below wr.heap.size wr W → Calls Tryz.prog 49 #[.int .i64 15, .slice (some ⟨gb, 0, none⟩) 30 30] W (LenF W 15 (cd9 (tal9 l)))) := fun W hW => rlengths_far 15 _ (cd9 (tal9 l)) 30 30 (cd9_len _) W (sD.old hW) (by omega)
          have BR := TT.bl
          clear HBD hTA bdA bdD sA sD TT
          go_wp2_with fail
          refine CL.mono ?_
          rintro e w3 ⟨xa, xc, rfl, s3, fr3, b3⟩
          have CD := HCD.out w3 b3
          clear CL HCD
          go_wp2_with fail
          refine CD.mono ?_
          rintro e w4 ⟨ya, yc, rfl, s4, fr4, b4⟩
          have s3' := s3.old b4
          have B3 : Below w.heap.size w w3 := BR.trans (b3.mono BR.size)
          have B4 : Below w.heap.size w w4 := B3.trans (b4.mono B3.size)
          have hr := BR.size
          have h3 := B3.size
          clear CD s3 b3 b4 BR
          go_wp2_with fail
          go_ret3
          show RoQ w (owa9 l) (owd9 l) (mer9 l) _ _
          rw [HQ.out.1, HQ.out.2.1, HQ.out.2.2]
          exact ⟨xa, xc, ya, yc, rfl, s3', s4, fun x e => Nat.le_trans hr (fr3 x e), fun x e => Nat.le_trans h3 (fr4 x e), B4⟩
  · have HQ : Hid (owa9 l = [] ∧ owd9 l = []) := ⟨if_neg hm, if_neg hm⟩
    go_enter Tryz.func20, Tryz.ntmps20
    go_wp2_with fail
    refine CM.mono ?_
    rintro e w1 ⟨rfl, b1⟩
    clear CM
    rcases mer9_no hm with hm | hm
    · rw [hm]
      go_wp2_with fail
      go_ret3
      show RoQ w (owa9 l) (owd9 l) _ _ _
      rw [HQ.out.1, HQ.out.2, hm]
      exact ⟨none, 0, none, 0, rfl, SegZ.nil _ _, SegZ.nil _ _, (fun x e => by cases e), (fun x e => by cases e), b1⟩
    · rw [hm]
      go_wp2_with fail
      go_ret3
      show RoQ w (owa9 l) (owd9 l) _ _ _
      rw [HQ.out.1, HQ.out.2, hm]
      exact ⟨none, 0, none, 0, rfl, SegZ.nil _ _, SegZ.nil _ _, (fun x e => by cases e), (fun x e => by cases e), b1⟩
end Go.Proofs.YtiankbopnjhhaaaGreatDoor

namespace Go.Proofs.YtiankbopnjhhaaaGreatDoor
open Go.RowKit
set_option linter.unusedVariables false
set_option linter.unusedSimpArgs false

/-! The law's own helpers over tokens and numbers: face, same, kept. -/
theorem info_tokA : (Tryz.prog.info? 97).map (fun i => (i.zero, i.size, i.bytes)) = some (some (.agg #[.int .u8 0, .int .i64 0, .int .i64 0]), 3, 24) := by kernel_rfl
/-- Two tokens behind a row of the call's own. -/
theorem wpList_appT2 {P : Program} {ops : Array Oper} {rest : List Oper} {o : Oper} {a : Act} {Q : Exit → Act → World → Prop} (hgd : o.guard = none) (s x : Operand) (t : TypeId)
    (ho : o.op = .call { callee := .builtin .append, args := #[s, x], argTypes := #[t, t] })
    (base : Nat) (e : TypeId) (i : TypeInfo) (z : Value) (bytes : Nat) (ht : P.underlying t = some (.slice e)) (hi : P.info? e = some i) (hz : i.zero = some z)
    (hsize : i.size = 3) (hby : i.bytes = bytes) (hzs : z.cells.size = 3) (w0 : World) (y y' : Tok7)
    {ra : Option Addr} {n rc : Nat} {l : List Tok7} (hown : w0.ownsRow base e 3 (.slice ra n rc) n (flatT l)) (hs : a.eval s = .slice ra n rc) (hx : a.eval x = .slice (some ⟨w0.heap.size, 0, none⟩) 2 2)
    (h63 : n + 2 ≤ 140737488355328) (hbytes : (n + 2) * bytes ≤ 140737488355328) (hbase : base ≤ w0.heap.size)
    (h : ∀ (g c : Nat) (w' : World), w'.ownsRow base e 3 (.slice (some ⟨g, 0, none⟩) (n + 2) c) (n + 2) (flatT (l ++ [y, y'])) → Below base w0 w' → wpList P ops Q rest (a.put o.dst (.slice (some ⟨g, 0, none⟩) (n + 2) c)) w') : wpList P ops Q (o :: rest) a (w0.alloc (.cells #[.int .u8 y.lit, .int .i64 y.len, .int .i64 y.dist, .int .u8 y'.lit, .int .i64 y'.len, .int .i64 y'.dist] e)) := by
  have hnew : ∀ j u, ([.int .u8 y.lit, .int .i64 y.len, .int .i64 y.dist, .int .u8 y'.lit, .int .i64 y'.len, .int .i64 y'.dist] : List Value)[j]? = some u → (w0.alloc (.cells #[.int .u8 y.lit, .int .i64 y.len, .int .i64 y.dist, .int .u8 y'.lit, .int .i64 y'.len, .int .i64 y'.dist] e)).cell? ((⟨w0.heap.size, 0, none⟩ : Addr).add j) = some u := by
    intro j u hu
    have hadd : (⟨w0.heap.size, 0, none⟩ : Addr).add j = ⟨w0.heap.size, j, none⟩ := by unfold Addr.add; split <;> simp_all
    rw [hadd]
    have hh := heap_alloc_new w0 (.cells #[.int .u8 y.lit, .int .i64 y.len, .int .i64 y.dist, .int .u8 y'.lit, .int .i64 y'.len, .int .i64 y'.dist] e)
    simp only [World.cell?, hh]
    simpa using hu
  refine wpList_append_own _ hgd s x t ho base e i z 3 bytes ht hi hz hsize hby hzs (by decide) _ n (flatT l) hs (hown.alloc _) ⟨w0.heap.size, 0, none⟩ 2 2 [.int .u8 y.lit, .int .i64 y.len, .int .i64 y.dist, .int .u8 y'.lit, .int .i64 y'.len, .int .i64 y'.dist] hx rfl hnew (by intro u hu; simp only [List.mem_cons, List.not_mem_nil, or_false] at hu; rcases hu with rfl | rfl | rfl | rfl | rfl | rfl <;> rfl) (by unfold maxLen; omega) hbytes (by simp; omega) ?_
  intro v' w' h1 h2 _
  obtain ⟨g, c, hv, _⟩ := own_shapeT h1 (by omega)
  subst hv
  refine h g c w' (by rw [flatT_app]; exact h1) ?_
  have b1 : Below base w0 (w0.alloc (.cells #[.int .u8 y.lit, .int .i64 y.len, .int .i64 y.dist, .int .u8 y'.lit, .int .i64 y'.len, .int .i64 y'.dist] e)) := (Below.refl _ _).alloc hbase _
  exact b1.trans ((Below.refl _ _).grown h2 (Nat.le_trans hbase b1.size) (fun k hk => (hown.lt k hk).1))
def faceL (l : List Tok7) : List Tok7 := l ++ [⟨0, 77, 0⟩, ⟨0, 78, 0⟩]
theorem faceL_fit {l : List Tok7} (h : ∀ t ∈ l, t.Fit) : ∀ t ∈ faceL l, t.Fit := by
  intro t ht
  unfold faceL at ht
  rcases List.mem_append.1 ht with ht | ht
  · exact h t ht
  · simp at ht
    rcases ht with rfl | rfl <;> (unfold Tok7.Fit; decide)
def FaceQ (w : World) (l : List Tok7) (n : Nat) (e : Ending) (w' : World) : Prop := ∃ g c, e = .returned (.tuple #[.slice (some ⟨g, 0, none⟩) (n + 2) c, .slice (some ⟨g, 0, none⟩) n c]) ∧ w'.ownsRow w.heap.size 97 3 (.slice (some ⟨g, 0, none⟩) (n + 2) c) (n + 2) (flatT (faceL l)) ∧ Below w.heap.size w w'
set_option maxRecDepth 100000 in
set_option maxHeartbeats 2000000 in
theorem face9 (l : List Tok7) (a : Option Addr) (n cap : Nat) (hn : Hid (l.length = n)) (w : World) (hs : SegT w a l) (hl : n ≤ 5864062014634) : Calls Tryz.prog 18 #[.slice a n cap] w (FaceQ w l n) := by
  obtain ⟨i0, hi, hz0, hz1, hz2⟩ := info_parts info_tokA
  go_enter Tryz.func18, Tryz.ntmps18
  go_wp2_with fail
  go_loopw [4, 9] (fun tl ti wr => ∃ (i oc : Nat) (oa : Option Addr), i ≤ n ∧ ti = .int .i64 (i : Int) ∧ tl = .slice oa i oc ∧ wr.ownsRow w.heap.size 97 3 (.slice oa i oc) i (flatT (l.take i)) ∧ Below w.heap.size w wr) (fun _ ti _ => n - (intOf ti).toNat)
  case atStart => exact ⟨0, 0, none, by omega, rfl, rfl, by rw [List.take_zero]; exact World.ownsRow_nil _ _ _ _, Below.refl _ _⟩
  case round =>
    obtain ⟨i, oc, oa, hi0, rfl, rfl, OO, BR⟩ := hrel
    have hsr := BR.size
    by_cases hin : i < n
    · have hii : (i : Int) < (n : Int) := by omega
      have hil : i < l.length := by rw [hn.out]; exact hin
      obtain ⟨b, off, rfl, hT⟩ := (hs.old BR).at_ i hil
      have HT : Hid (l.take (i + 1) = l.take i ++ [l.getD i tk0]) := takeT7 hil
      generalize l.getD i tk0 = t at *
      obtain ⟨wA, hwA⟩ : ∃ wA, wA = wr.alloc (.cells #[.int .u8 t.lit, .int .i64 t.len, .int .i64 t.dist] 98) := ⟨_, rfl⟩
      have bA : Below wr.heap.size wr wA := by rw [hwA]; exact below_box _ _
      have HWA : Hid (wA = wr.alloc (.cells #[.int .u8 t.lit, .int .i64 t.len, .int .i64 t.dist] 98)) := hwA
      have HSZ : Hid (wr.heap.size + 1 = wA.heap.size) := by show _ = _; rw [hwA]; simp
      have BA : Below w.heap.size w wA := BR.trans (bA.mono BR.size)
      have OA := own_belowT OO bA
      have hsA := BA.size
      have hc0 := hT.c0
      have hc1 := hT.c1
      have hc2 := hT.c2
      clear hwA hT OO
      obtain ⟨z, ln, ds⟩ := t
      simp only at hc0 hc1 hc2 HWA
      go_wp2_with (first | (at_builtin; rw [HSZ.out, ← HWA.out]; refine wpList_appT rfl (.tmp 13) (.tmp 21) 36 rfl w.heap.size 97 i0 _ 24 Tryz.underlying36 hi hz0 hz1 hz2 rfl wA ⟨z, ln, ds⟩ OA rfl rfl (by omega) (by omega) hsA ?_; intro ga gc w3 own3 b3))
      have B3 : Below w.heap.size w w3 := BA.trans b3
      go_roundw
      case rel => exact ⟨i + 1, gc, ga, by omega, by go_num, rfl, by rw [HT.out]; exact own3, B3⟩
      case measure => simp [intOf]; omega
    · have hge : ¬ (i : Int) < (n : Int) := by omega
      obtain rfl : i = n := by omega
      have HW : Hid (l.take i = l) := List.take_of_length_le (by rw [hn.out]; omega)
      rw [HW.out] at OO
      have hie : (i : Int) ≤ ((i + 2 : Nat) : Int) := by omega
      have hi0' : (0 : Int) ≤ (i : Int) := by omega
      clear HW hi0
      go_wp2_with (first | (at_builtin; refine wpList_appT2 rfl (.tmp 24) (.tmp 27) 36 rfl w.heap.size 97 i0 _ 24 Tryz.underlying36 hi hz0 hz1 hz2 rfl wr ⟨0, 77, 0⟩ ⟨0, 78, 0⟩ OO rfl rfl (by omega) (by omega) hsr ?_; intro g gc w3 own3 b3; have hc3 := (own_factsT own3).1; have hci : (i : Int) ≤ (gc : Int) := by omega))
      have B3 : Below w.heap.size w w3 := BR.trans b3
      go_quiet (fail)
      go_wp2
      go_ret2
      refine ⟨g, gc, rfl, ?_, ⟨B3.os, B3.tape, B3.output, B3.size, B3.block⟩⟩
      unfold faceL
      exact own_belowT own3 ⟨rfl, rfl, rfl, Nat.le_refl _, fun _ _ => rfl⟩

set_option maxRecDepth 100000 in
set_option maxHeartbeats 2000000 in
theorem same9 (a b : Option Addr) (xs : List Int) (n ca cb : Nat) (hn : Hid (xs.length = n)) (w : World) (hx : SegZ w a xs) (hy : SegZ w b xs) (hl : n ≤ 1000000) :
    Calls Tryz.prog 21 #[.slice a n ca, .slice b n cb] w fun e w' => e = .returned (.bool true) ∧ Below w.heap.size w w' := by
  have HX : Hid (SegZ w a xs) := hx
  have HY : Hid (SegZ w b xs) := hy
  clear hx hy
  go_enter Tryz.func21, Tryz.ntmps21
  go_wp2_with fail
  go_loopw [13] (fun ti wr => ∃ k : Nat, k ≤ n ∧ ti = .int .i64 k ∧ Below w.heap.size w wr) (fun ti _ => n - (intOf ti).toNat)
  case atStart => exact ⟨0, Nat.zero_le _, rfl, Below.refl _ _⟩
  case round =>
    obtain ⟨k, hk, rfl, hb⟩ := hrel
    by_cases h1 : k < n
    · have h1i : (k : Int) < (n : Int) := by omega
      have h2 : k < xs.length := by rw [hn.out]; exact h1
      obtain ⟨b1, o1, rfl, c1⟩ := (HX.out.old hb).at_ k h2
      obtain ⟨b2, o2, rfl, c2⟩ := (HY.out.old hb).at_ k h2
      have bb := HX.out.bd k
      generalize xs.getD k 0 = z1 at *
      go_wp2_with fail
      go_region
      go_wp2
      go_roundw
      case rel => exact ⟨k + 1, by omega, by go_num, hb.drew⟩
      case measure => simp [intOf]; omega
    · have h1i : ¬ (k : Int) < (n : Int) := by omega
      go_wp2_with fail
      go_ret
      exact ⟨rfl, hb⟩
set_option maxRecDepth 100000 in
set_option maxHeartbeats 2000000 in
theorem kept9 (l : List Tok7) (a b : Option Addr) (n ca cb : Nat) (hn : Hid (l.length = n)) (w : World) (ha : SegT w a (faceL l)) (hb : SegT w b l) (hc : n + 2 ≤ ca) (hl : n ≤ 5864062014634) : Calls Tryz.prog 22 #[.slice a (n + 2) ca, .slice b n cb] w fun e w' => e = .returned (.bool true) ∧ Below w.heap.size w w' := by
  have hfl : (faceL l).length = n + 2 := by unfold faceL; rw [List.length_append, hn.out]; rfl
  obtain ⟨g, off, rfl, hT⟩ := ha.at_ n (by omega)
  obtain ⟨g', off', hgg, hT2⟩ := ha.at_ (n + 1) (by omega)
  cases hgg
  have e1 : (faceL l).getD n tk0 = ⟨0, 77, 0⟩ := by have := hn.out; simp [faceL, List.getD, ← this]
  have e2 : (faceL l).getD (n + 1) tk0 = ⟨0, 78, 0⟩ := by have := hn.out; simp [faceL, List.getD, ← this]
  rw [e1] at hT
  rw [e2] at hT2
  have st : SegT w (some ⟨g, off, none⟩) l := by
    have := ha.take n
    rwa [show (faceL l).take n = l by unfold faceL; rw [← hn.out]; simp] at this
  have HT1 : Hid (∀ W, Below w.heap.size w W → TkAt W g (off + n * 3) ⟨0, 77, 0⟩ ∧ TkAt W g (off + (n + 1) * 3) ⟨0, 78, 0⟩) := fun W hW => ⟨hT.of_block (hW.block g hT.lt), hT2.of_block (hW.block g hT.lt)⟩
  obtain ⟨k, hk⟩ : ∃ k, k = n + 1 := ⟨_, rfl⟩
  obtain ⟨k2, hk2⟩ : ∃ k2, k2 = n + 2 := ⟨_, rfl⟩
  have hw1 : IntKind.i64.wrap ((n : Int) + 1) = (k : Int) := by rw [IntWalk.i64_in _ (by omega)]; omega
  have hk12 : (k : Int) < (k2 : Int) := by omega
  have hnk2 : (n : Int) < (k2 : Int) := by omega
  rw [← hk] at HT1
  rw [← hk2]
  have HK : Hid (k = n + 1 ∧ k2 = n + 2) := ⟨hk, hk2⟩
  have HST : Hid (SegT w (some ⟨g, off, none⟩) l) := st
  have HHB : Hid (SegT w b l) := hb
  have hkn : k ≤ k2 ∧ n ≤ k2 := by omega
  clear hk hk2 ha hb hT hT2 e1 e2 st hfl hc
  go_enter Tryz.func22, Tryz.ntmps22
  go_wp2_with fail
  go_loopw [12] (fun ti wr => ∃ i : Nat, i ≤ n ∧ ti = .int .i64 (i : Int) ∧ Below w.heap.size w wr) (fun ti _ => n - (intOf ti).toNat)
  case atStart => exact ⟨0, by omega, rfl, Below.refl _ _⟩
  case round =>
    obtain ⟨i, hi0, rfl, BR⟩ := hrel
    by_cases hin : i < n
    · have hii : (i : Int) < (n : Int) := by omega
      have hii2 : (i : Int) < (k2 : Int) := by omega
      have hil : i < l.length := by rw [hn.out]; exact hin
      obtain ⟨g1, o1, hg1, hT⟩ := (HST.out.old BR).at_ i hil
      cases hg1
      obtain ⟨g2, off2, rfl, hT2⟩ := (HHB.out.old BR).at_ i hil
      generalize l.getD i tk0 = t at *
      obtain ⟨wA, hwA⟩ : ∃ wA, wA = wr.alloc (.cells #[.int .u8 t.lit, .int .i64 t.len, .int .i64 t.dist] 98) := ⟨_, rfl⟩
      have bA : Below wr.heap.size wr wA := by rw [hwA]; exact below_box8 _ _
      have tA : TkAt wA wr.heap.size 0 t := by
        have h : wA.heap[wr.heap.size]? = some (.cells #[.int .u8 t.lit, .int .i64 t.len, .int .i64 t.dist] 98 (0, 0)) := by rw [hwA]; exact heap_alloc_new wr _
        refine ⟨?_, ?_, ?_⟩ <;> simp [World.cell?, h]
      have HWA : Hid (wA = wr.alloc (.cells #[.int .u8 t.lit, .int .i64 t.len, .int .i64 t.dist] 98)) := hwA
      have BA : Below w.heap.size w wA := BR.trans (bA.mono BR.size)
      have tB := hT.of_block (bA.block g hT.lt)
      obtain ⟨ob, hob⟩ : ∃ ob, ob = wr.heap.size := ⟨_, rfl⟩
      have HOB : Hid (ob = wr.heap.size) := hob
      rw [← hob] at tA
      obtain ⟨a0, a1, a2⟩ := tA
      obtain ⟨b0, b1, b2⟩ := tB
      obtain ⟨h0, h1, h2⟩ := hT2
      clear hwA hob hT
      obtain ⟨z, ln, ds⟩ := t
      simp only at h0 h1 h2 a0 a1 a2 b0 b1 b2 HWA
      go_wp2_with fail
      rw [← HWA.out, ← HOB.out]
      go_quiet (fail)
      go_wp2
      go_roundw
      case rel => exact ⟨i + 1, by omega, by go_num, ⟨BA.os, BA.tape, BA.output, BA.size, BA.block⟩⟩
      case measure => simp [intOf]; omega
    · have hge : ¬ (i : Int) < (n : Int) := by omega
      obtain ⟨tA, tB⟩ := HT1.out wr BR
      obtain ⟨a0, a1, a2⟩ := tA
      obtain ⟨b0, b1, b2⟩ := tB
      simp only at a0 a1 a2 b0 b1 b2
      go_wp2_with fail
      go_ret
      exact ⟨rfl, BR⟩
end Go.Proofs.YtiankbopnjhhaaaGreatDoor
