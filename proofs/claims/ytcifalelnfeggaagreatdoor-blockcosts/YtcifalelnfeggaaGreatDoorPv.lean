import Derived.Test.YtcifalelnfeggaaGreatDoorPt
import Derived.Test.YtcifalelnfeggaaGreatDoorPu
import Derived.Test.YtcifalelnfeggaaGreatDoorPq
namespace Go.Proofs.YtcifalelnfeggaaGreatDoor
open Go.RowKit
set_option linter.unusedVariables false

/-! The document's OwnLens. -/
def RoQ (w : World) (A D : List Int) (er : Int) (e : Ending) (w' : World) : Prop := ∃ la lc da dc, e = .returned (.tuple #[.slice la A.length lc, .slice da D.length dc, .int .i64 er]) ∧ SegZ w' la A ∧ SegZ w' da D ∧ (∀ x, la = some x → w.heap.size ≤ x.block ∧ A.length ≤ lc) ∧ (∀ x, da = some x → w.heap.size ≤ x.block ∧ D.length ≤ dc) ∧ Below w.heap.size w w'
/-- Two rows of the call's own beside each other. -/
structure Tw9 (w wr : World) (ga gb : Nat) (A D : List Int) : Prop where
  oa : wr.ownsRow w.heap.size 3 1 (.slice (some ⟨ga, 0, none⟩) 286 286) 286 (A.map (Value.int .i64))
  od : wr.ownsRow w.heap.size 3 1 (.slice (some ⟨gb, 0, none⟩) 30 30) 30 (D.map (Value.int .i64))
  ne : ga ≠ gb
  la : A.length = 286
  ld : D.length = 30
  bl : Below w.heap.size w wr
theorem Tw9.below {w wr w' : World} {ga gb : Nat} {A D : List Int} (h : Tw9 w wr ga gb A D) (b : Below wr.heap.size wr w') : Tw9 w w' ga gb A D := ⟨own_below h.oa b, own_below h.od b, h.ne, h.la, h.ld, h.bl.trans (b.mono h.bl.size)⟩
theorem Tw9.drew {w wr : World} {ga gb : Nat} {A D : List Int} (h : Tw9 w wr ga gb A D) : Tw9 w wr.drew ga gb A D := h.below ⟨rfl, rfl, rfl, Nat.le_refl _, fun _ _ => rfl⟩
theorem own_oth9 {w : World} {base n g x i : Nat} {A : List Int} {v : Value} (O : w.ownsRow base 3 1 (.slice (some ⟨g, 0, none⟩) n n) n (A.map (Value.int .i64))) (hne : g ≠ x) : (w.setCell ⟨x, i, none⟩ v).ownsRow base 3 1 (.slice (some ⟨g, 0, none⟩) n n) n (A.map (Value.int .i64)) :=
  own_kp O (Kp.set (S := fun k => k = x) rfl v) (fun k hk e => by simp [Value.ownBlock] at hk; omega)
theorem Tw9.setA {w wr : World} {ga gb : Nat} {A D : List Int} (h : Tw9 w wr ga gb A D) (i : Nat) (v : Int) : Tw9 w (wr.setCell ⟨ga, i, none⟩ (.int .i64 v)) ga gb (A.set i v) D := by
  obtain ⟨OS, GS⟩ := h.oa.stored i (.int .i64 v)
  rw [← List.map_set] at OS
  refine ⟨by simpa using OS, own_oth9 h.od (fun e => h.ne e.symm), h.ne, by rw [List.length_set]; exact h.la, h.ld, ?_⟩
  have := (h.oa.lt ga (by simp [Value.ownBlock])).1
  exact h.bl.trans ((Kp.set (S := fun k => k = ga) rfl _).below (fun k e => by omega) h.bl.size)
theorem Tw9.setD {w wr : World} {ga gb : Nat} {A D : List Int} (h : Tw9 w wr ga gb A D) (i : Nat) (v : Int) : Tw9 w (wr.setCell ⟨gb, i, none⟩ (.int .i64 v)) ga gb A (D.set i v) := by
  obtain ⟨OS, GS⟩ := h.od.stored i (.int .i64 v)
  rw [← List.map_set] at OS
  refine ⟨own_oth9 h.oa h.ne, by simpa using OS, h.ne, h.la, by rw [List.length_set]; exact h.ld, ?_⟩
  have := (h.od.lt gb (by simp [Value.ownBlock])).1
  exact h.bl.trans ((Kp.set (S := fun k => k = gb) rfl _).below (fun k e => by omega) h.bl.size)
theorem Tw9.cellA {w wr : World} {ga gb : Nat} {A D : List Int} (h : Tw9 w wr ga gb A D) {i : Nat} (hi : i < 286) : wr.cell? ⟨ga, i, none⟩ = some (.int .i64 (A.getD i 0)) ∧ ∀ k, wr.frozen? ⟨ga, k, none⟩ = false := own_cell1 h.oa (by rw [h.la]; exact hi)
theorem Tw9.cellD {w wr : World} {ga gb : Nat} {A D : List Int} (h : Tw9 w wr ga gb A D) {i : Nat} (hi : i < 30) : wr.cell? ⟨gb, i, none⟩ = some (.int .i64 (D.getD i 0)) ∧ ∀ k, wr.frozen? ⟨gb, k, none⟩ = false := own_cell1 h.od (by rw [h.ld]; exact hi)
theorem z0_9 : List.replicate 286 (0 : Int) = cl9 (tals9 []) ∧ List.replicate 30 (0 : Int) = cd9 (tals9 []) := by
  constructor
  · refine ext9 (by rw [cl9_len]; exact List.length_replicate ..) fun i hi => ?_
    rw [List.length_replicate] at hi
    rw [cl9_get _ hi]
    exact (repl_get 286 i).trans (repl_get 318 (2 + i)).symm
  · refine ext9 (by rw [cd9_len]; exact List.length_replicate ..) fun i hi => ?_
    rw [List.length_replicate] at hi
    rw [cd9_get _ hi]
    exact (repl_get 30 i).trans (repl_get 318 (288 + i)).symm
set_option maxRecDepth 100000 in
set_option maxHeartbeats 8000000 in
theorem rown9 (l : List Tok7) (a : Option Addr) (n cap : Nat) (hn : Hid (l.length = n)) (w : World) (hs : SegT w a l) (hl : n ≤ 5864062014634) :
    Calls Tryz.prog 20 #[.slice a n cap] w (RoQ w (owa9 l) (owd9 l) (mer9 l)) := by
  have CM := rmay9 l a n cap hn w hs hl
  have HS : Hid (SegT w a l) := hs
  clear hs
  by_cases hm : mer9 l = 0
  · have HQ : Hid (owa9 l = oL9 (tal9 l) ∧ owd9 l = oD9 (tal9 l) ∧ mer9 l = 0) := ⟨if_pos hm, if_pos hm, hm⟩
    have HMY : Hid (∀ t ∈ l, may7 t) := (mer9_zero hm).2
    have hn6 : n ≤ 65536 := by have := (mer9_zero hm).1; rw [hn.out] at this; exact this
    rw [hm] at CM
    clear hm
    have M1 : ∀ W, (Instr.makeSlice 39 (.int .i64 286) (.int .i64 286)).run Tryz.prog W = .ok (.slice (some ⟨W.heap.size, 0, none⟩) 286 286) (W.alloc (.cells (Array.replicate 286 (.int .i64 0)) 3)) := fun W => run_make_ints 286 (by omega) W
    have M2 : ∀ W, (Instr.makeSlice 39 (.int .i64 30) (.int .i64 30)).run Tryz.prog W = .ok (.slice (some ⟨W.heap.size, 0, none⟩) 30 30) (W.alloc (.cells (Array.replicate 30 (.int .i64 0)) 3)) := fun W => run_make_ints 30 (by omega) W
    go_enter Tryz.func20, Tryz.ntmps20
    go_wp2_with fail
    refine CM.mono ?_
    rintro e w1 ⟨rfl, b1⟩
    clear CM
    go_wp2_with fail
    have BA : ∀ (W : World) (o : Obj), Below W.heap.size W (W.alloc o) := fun W o => below_box8 W o
    go_region
    · have T0 : Tw9 w ((w1.alloc (.cells (Array.replicate 286 (.int .i64 0)) 3)).alloc (.cells (Array.replicate 30 (.int .i64 0)) 3)).drew w1.heap.size (w1.heap.size + 1) (List.replicate 286 0) (List.replicate 30 0) := by
        refine Tw9.drew ⟨own_below (own_baseN (own_zeros w1 286 (by omega)) b1.size) (BA _ _), ?_, by omega, List.length_replicate .., List.length_replicate .., (b1.trans ((BA _ _).mono b1.size)).trans ((BA _ _).mono (by have := b1.size; simp; omega))⟩
        have := own_baseN (base' := w.heap.size) (own_zeros (w1.alloc (.cells (Array.replicate 286 (.int .i64 0)) 3)) 30 (by omega)) (by have := b1.size; simp; omega)
        rw [show (w1.alloc (.cells (Array.replicate 286 (.int .i64 0)) 3)).heap.size = w1.heap.size + 1 by simp] at this
        exact this
      generalize ((w1.alloc (.cells (Array.replicate 286 (.int .i64 0)) 3)).alloc (.cells (Array.replicate 30 (.int .i64 0)) 3)).drew = w2 at *
      generalize w1.heap.size + 1 = gb at *
      generalize w1.heap.size = ga at *
      rw [z0_9.1, z0_9.2] at T0
      have HT0 : Hid (Tw9 w (w2.setCell ⟨ga, 256, none⟩ (.int .i64 1)) ga gb ((cl9 (tals9 [])).set 256 1) (cd9 (tals9 []))) := T0.setA 256 1
      obtain ⟨c0, fz⟩ := T0.cellA (i := 256) (by omega)
      have f0 := fz 256
      generalize (cl9 (tals9 [])).getD 256 0 = y0 at *
      clear fz T0 b1 M1 M2 BA
      go_wp2_with fail
      go_loopw [33] (fun ti wr => ∃ i : Nat, i ≤ n ∧ ti = .int .i64 (i : Int) ∧ Tw9 w wr ga gb ((cl9 (tals9 (l.take i))).set 256 1) (cd9 (tals9 (l.take i))) ∧ Hid (∀ j, (0 ≤ ((cl9 (tals9 (l.take i))).set 256 1).getD j 0 ∧ ((cl9 (tals9 (l.take i))).set 256 1).getD j 0 ≤ (i : Int) + 1) ∧ 0 ≤ (cd9 (tals9 (l.take i))).getD j 0 ∧ (cd9 (tals9 (l.take i))).getD j 0 ≤ (i : Int) + 1)) (fun ti _ => n - (intOf ti).toNat)
      case atStart =>
        refine ⟨0, by omega, rfl, by rw [List.take_zero]; exact HT0.out, ?_⟩
        rw [List.take_zero]
        intro j
        rw [gset9 _ _ _ _ (by rw [cl9_len]; omega), ← z0_9.1, ← z0_9.2, repl_get, repl_get]
        split <;> omega
      case round =>
        obtain ⟨i, hin, rfl, TT, HBD⟩ := hrel
        clear HT0 c0 f0
        by_cases hlt : i < n
        · have hlti : (i : Int) < (n : Int) := by omega
          have hil : i < l.length := by rw [hn.out]; exact hlt
          obtain ⟨g, o, rfl, tk⟩ := (HS.out.old TT.bl).at_ i hil
          have hfit := HS.out.fit (l.getD i tk0) (by simp only [List.getD, List.getElem?_eq_getElem hil, Option.getD_some]; exact List.getElem_mem hil)
          have hmay := HMY.out (l.getD i tk0) (by simp only [List.getD, List.getElem?_eq_getElem hil, Option.getD_some]; exact List.getElem_mem hil)
          have HTK : Hid (tals9 (l.take (i + 1)) = tst9 (tals9 (l.take i)) (l.getD i tk0)) := by show _ = _; rw [takeT7 hil, tals9_snoc]
          generalize l.getD i tk0 = t at *
          have s1 := cl9_step (tals9_len (l.take i)) hfit hmay
          have s2 := cd9_lit (tals9_len (l.take i)) hfit hmay
          have s3 := cd9_step (tals9_len (l.take i)) hfit hmay
          rw [← HTK.out] at s1 s2 s3
          have hsy := (sym9_lt hfit hmay).1
          have hfm := (fit_may9 hfit hmay)
          have hsyd : sym9 t = if t.len = 0 then t.lit.toNat else 257 + lix9 t.len := rfl
          have HS1 : Hid (∀ A D, (cl9 (tals9 (l.take (i + 1)))).set 256 1 = A → cd9 (tals9 (l.take (i + 1))) = D → ∀ W, Tw9 w W ga gb A D → (∀ j, (0 ≤ A.getD j 0 ∧ A.getD j 0 ≤ (i : Int) + 1 + 1) ∧ 0 ≤ D.getD j 0 ∧ D.getD j 0 ≤ (i : Int) + 1 + 1) → Tw9 w W ga gb ((cl9 (tals9 (l.take (i + 1)))).set 256 1) (cd9 (tals9 (l.take (i + 1)))) ∧ Hid (∀ j, (0 ≤ ((cl9 (tals9 (l.take (i + 1)))).set 256 1).getD j 0 ∧ ((cl9 (tals9 (l.take (i + 1)))).set 256 1).getD j 0 ≤ ((i + 1 : Nat) : Int) + 1) ∧ 0 ≤ (cd9 (tals9 (l.take (i + 1)))).getD j 0 ∧ (cd9 (tals9 (l.take (i + 1)))).getD j 0 ≤ ((i + 1 : Nat) : Int) + 1)) := by
            intro A D e1 e2 W hT hb
            subst e1 e2
            exact ⟨hT, fun j => by have := hb j; omega⟩
          obtain ⟨A, hA⟩ : ∃ A, A = (cl9 (tals9 (l.take i))).set 256 1 := ⟨_, rfl⟩
          obtain ⟨D, hD⟩ : ∃ D, D = cd9 (tals9 (l.take i)) := ⟨_, rfl⟩
          rw [← hA] at s1 TT HBD
          rw [← hD] at s2 s3 TT HBD
          clear hA hD HTK
          obtain ⟨lit, len, dist⟩ := t
          obtain ⟨x0, x1, x2⟩ := tk
          simp only at x0 x1 x2 hfm hsyd
          have b1 := below_box8 wr (.cells #[.int .u8 lit, .int .i64 len, .int .i64 dist] 98)
          have T1 := TT.below b1
          have hga := (TT.oa.lt ga (by simp [Value.ownBlock])).2
          have hgb := (TT.od.lt gb (by simp [Value.ownBlock])).2
          by_cases hz : len = 0
          · rw [if_pos hz] at hsyd
            obtain ⟨L, rfl⟩ : ∃ L : Nat, lit = (L : Int) := ⟨lit.toNat, by omega⟩
            rw [Int.toNat_natCast] at hsyd
            rw [hsyd] at s1 hsy
            obtain ⟨c0, fz⟩ := T1.cellA (i := L) hsy
            have f0 := fz L
            have bb := (HBD.out L).1
            have HT2 : Hid (Tw9 w ((wr.setCell ⟨ga, L, none⟩ (.int .i64 (A.getD L 0 + 1))).alloc (.cells #[.int .u8 (L : Int), .int .i64 0, .int .i64 dist] 98)) ga gb (inc9 A L 1) D) := (TT.setA L (A.getD L 0 + 1)).below (below_box8 _ _)
            have HB2 : Hid (∀ j, (0 ≤ (inc9 A L 1).getD j 0 ∧ (inc9 A L 1).getD j 0 ≤ (i : Int) + 1 + 1) ∧ 0 ≤ D.getD j 0 ∧ D.getD j 0 ≤ (i : Int) + 1 + 1) := fun j => by
              rw [inc9_get _ _ _ _ (by rw [TT.la]; exact hsy)]
              have := HBD.out j
              split <;> omega
            have HS2 := HS1.out _ _ s1 (s2 hz)
            have HS3 : Hid (∀ W, Tw9 w W ga gb (inc9 A L 1) D → Tw9 w W ga gb ((cl9 (tals9 (l.take (i + 1)))).set 256 1) (cd9 (tals9 (l.take (i + 1)))) ∧ Hid (∀ j, (0 ≤ ((cl9 (tals9 (l.take (i + 1)))).set 256 1).getD j 0 ∧ ((cl9 (tals9 (l.take (i + 1)))).set 256 1).getD j 0 ≤ ((i + 1 : Nat) : Int) + 1) ∧ 0 ≤ (cd9 (tals9 (l.take (i + 1)))).getD j 0 ∧ (cd9 (tals9 (l.take (i + 1)))).getD j 0 ≤ ((i + 1 : Nat) : Int) + 1)) := fun W hT => HS2 W hT HB2.out
            subst hz
            generalize A.getD L 0 = y at *
            have i1 : IntKind.i64.wrap (y + 1) = y + 1 := IntWalk.i64_in _ (by omega)
            have hLi : (L : Int) < 286 := by omega
            clear s1 s2 s3 HS1 HS2 HBD HB2 T1 b1 TT hsyd hfm hfit hmay fz
            go_wp2_with fail
            go_roundw
            case rel => exact ⟨i + 1, by omega, by go_num, (HS3.out _ HT2.out).1, (HS3.out _ HT2.out).2⟩
            case measure => simp [intOf]; omega
          · rw [if_neg hz] at hsyd
            have hfm2 := hfm.2.2.resolve_left (fun q => hz q.1)
            obtain ⟨k2, k3, k4, k5, k6, klit⟩ := hfm2
            clear klit k2
            have CL := rlsy9_is len k3 k4 (wr.alloc (.cells #[.int .u8 lit, .int .i64 len, .int .i64 dist] 98))
            have hdx := (dspec9 k5).2.1
            have CD := rdsy9_is dist k5 k6
            rw [hsyd] at s1 hsy
            have s3 := s3 hz
            obtain ⟨p, hp⟩ : ∃ p, p = 257 + lix9 len := ⟨_, rfl⟩
            obtain ⟨q, hq⟩ : ∃ q, q = dix9 dist := ⟨_, rfl⟩
            have hpi : 257 + (lix9 len : Int) = (p : Int) := by omega
            rw [← hp] at s1 hsy
            simp only at s3
            rw [← hq] at s3 hdx
            rw [hpi] at CL
            rw [← hq] at CD
            generalize lnS9.getD (lix9 len * 2 + 1) 0 = z1 at *
            generalize lnS9.getD (lix9 len * 2) 0 = z2 at *
            generalize dsS9.getD (q * 2 + 1) 0 = z3 at *
            generalize dsS9.getD (q * 2) 0 = z4 at *
            have HB2 : Hid (∀ j, (0 ≤ (inc9 A p 1).getD j 0 ∧ (inc9 A p 1).getD j 0 ≤ (i : Int) + 1 + 1) ∧ 0 ≤ (inc9 D q 1).getD j 0 ∧ (inc9 D q 1).getD j 0 ≤ (i : Int) + 1 + 1) := fun j => by
              rw [inc9_get _ _ _ _ (by rw [TT.la]; exact hsy), inc9_get _ _ _ _ (by rw [TT.ld]; exact hdx)]
              have := HBD.out j
              constructor <;> split <;> omega
            have HS2 := HS1.out _ _ s1 s3
            have HS3 : Hid (∀ W, Tw9 w W ga gb (inc9 A p 1) (inc9 D q 1) → Tw9 w W ga gb ((cl9 (tals9 (l.take (i + 1)))).set 256 1) (cd9 (tals9 (l.take (i + 1)))) ∧ Hid (∀ j, (0 ≤ ((cl9 (tals9 (l.take (i + 1)))).set 256 1).getD j 0 ∧ ((cl9 (tals9 (l.take (i + 1)))).set 256 1).getD j 0 ≤ ((i + 1 : Nat) : Int) + 1) ∧ 0 ≤ (cd9 (tals9 (l.take (i + 1)))).getD j 0 ∧ (cd9 (tals9 (l.take (i + 1)))).getD j 0 ≤ ((i + 1 : Nat) : Int) + 1)) := fun W hT => HS2 W hT HB2.out
            have bbA := (HBD.out p).1
            have bbD := (HBD.out q).2
            have HT1 : Hid (Tw9 w (wr.alloc (.cells #[.int .u8 lit, .int .i64 len, .int .i64 dist] 98)) ga gb A D) := T1
            have g0 := heap_alloc_new wr (.cells #[.int .u8 lit, .int .i64 len, .int .i64 dist] 98)
            have HCD : Hid (∀ w, Calls Tryz.prog 12 #[.int .i64 dist] w fun e w' => e = .returned (.tuple #[.int .i64 (q : Int), .int .i64 z3, .int .i64 (dist - z4), .int .i64 0]) ∧ Below w.heap.size w w') := CD
            clear s1 s2 s3 HS1 HS2 HBD HB2 T1 b1 TT hsyd hfm hfit hmay CD hp hq hpi
            go_wp2_with fail
            generalize wr.alloc (.cells #[.int .u8 lit, .int .i64 len, .int .i64 dist] 98) = wa at *
            refine CL.mono ?_
            rintro e w3 ⟨rfl, b3⟩
            have T3 := HT1.out.below b3
            have hwl : wr.heap.size < wa.heap.size := (Array.getElem?_eq_some_iff.1 g0).1
            have g3 := (b3.block wr.heap.size hwl).trans g0
            have c2 : w3.cell? ⟨wr.heap.size, 2, none⟩ = some (.int .i64 dist) := (cell_of_row w3 _ 2 _ _ _ g3).trans rfl
            clear CL HT1 g0 b3 g3
            go_wp2_with fail
            refine (HCD.out w3).mono ?_
            rintro e w4 ⟨rfl, b4⟩
            have T4 := T3.below b4
            clear T3 b4 HCD c2
            obtain ⟨c0, fz⟩ := T4.cellA (i := p) hsy
            have f0 := fz p
            obtain ⟨d0, gz⟩ := T4.cellD (i := q) hdx
            have k0 := gz q
            have HT5 : Hid (Tw9 w ((w4.setCell ⟨ga, p, none⟩ (.int .i64 (A.getD p 0 + 1))).setCell ⟨gb, q, none⟩ (.int .i64 (D.getD q 0 + 1))) ga gb (inc9 A p 1) (inc9 D q 1)) := (T4.setA p (A.getD p 0 + 1)).setD q (D.getD q 0 + 1)
            have hne := T4.ne
            have hpl : (p : Int) < 286 := by omega
            have hql : (q : Int) < 30 := by omega
            clear T4 fz gz hga hgb
            generalize A.getD p 0 = y at *
            generalize D.getD q 0 = v at *
            have i1 : IntKind.i64.wrap (y + 1) = y + 1 := IntWalk.i64_in _ (by omega)
            have i2 : IntKind.i64.wrap (v + 1) = v + 1 := IntWalk.i64_in _ (by omega)
            go_wp2_with fail
            go_roundw
            case rel => exact ⟨i + 1, by omega, by go_num, (HS3.out _ HT5.out).1, (HS3.out _ HT5.out).2⟩
            case measure => simp [intOf]; omega
        · have hge : ¬ (i : Int) < (n : Int) := by omega
          have hTA : l.take i = l := List.take_of_length_le (by rw [hn.out]; omega)
          rw [hTA, ← cl9_tal, ← cd9_tal] at TT
          have bdA : ∀ z ∈ cl9 (tal9 l), -9223372036854775808 ≤ z ∧ z ≤ 9223372036854775807 := fun z hz => by
            obtain ⟨j, hj, rfl⟩ := List.mem_iff_getElem.1 hz
            have := (HBD.out j).1
            rw [hTA, ← cl9_tal] at this
            simp only [List.getD, List.getElem?_eq_getElem hj, Option.getD_some] at this
            omega
          have bdD : ∀ z ∈ cd9 (tal9 l), -9223372036854775808 ≤ z ∧ z ≤ 9223372036854775807 := fun z hz => by
            obtain ⟨j, hj, rfl⟩ := List.mem_iff_getElem.1 hz
            have := (HBD.out j).2
            rw [hTA, ← cd9_tal] at this
            simp only [List.getD, List.getElem?_eq_getElem hj, Option.getD_some] at this
            omega
          have sA := own_segZ TT.oa bdA
          have sD := own_segZ TT.od bdD
          have CL := rlengths_far 15 _ (cl9 (tal9 l)) 286 286 (cl9_len _) wr sA (by omega)
          have HCD : Hid (∀ W, Below wr.heap.size wr W → Calls Tryz.prog 49 #[.int .i64 15, .slice (some ⟨gb, 0, none⟩) 30 30] W (LenF W 15 (cd9 (tal9 l)))) := fun W hW => rlengths_far 15 _ (cd9 (tal9 l)) 30 30 (cd9_len _) W (sD.old hW) (by omega)
          have BR := TT.bl
          clear HBD hTA bdA bdD sA sD TT
          go_wp2_with fail
          refine CL.mono ?_
          rintro e w3 ⟨xa, xc, rfl, s3, fr3, b3⟩
          have CD := HCD.out w3 b3
          clear CL HCD
          go_wp2_with fail
          refine CD.mono ?_
          rintro e w4 ⟨ya, yc, rfl, s4, fr4, b4⟩
          have s3' := s3.old b4
          have B3 : Below w.heap.size w w3 := BR.trans (b3.mono BR.size)
          have B4 : Below w.heap.size w w4 := B3.trans (b4.mono B3.size)
          have hr := BR.size
          have h3 := B3.size
          clear CD s3 b3 b4 BR
          go_wp2_with fail
          go_ret3
          show RoQ w (owa9 l) (owd9 l) (mer9 l) _ _
          rw [HQ.out.1, HQ.out.2.1, HQ.out.2.2]
          exact ⟨xa, xc, ya, yc, rfl, s3', s4, fun x e => ⟨Nat.le_trans hr (fr3 x e).1, (fr3 x e).2⟩, fun x e => ⟨Nat.le_trans h3 (fr4 x e).1, (fr4 x e).2⟩, B4⟩
    · have T0 : Tw9 w ((w1.alloc (.cells (Array.replicate 30 (.int .i64 0)) 3)).alloc (.cells (Array.replicate 286 (.int .i64 0)) 3)).drew (w1.heap.size + 1) w1.heap.size (List.replicate 286 0) (List.replicate 30 0) := by
        refine Tw9.drew ⟨?_, own_below (own_baseN (own_zeros w1 30 (by omega)) b1.size) (BA _ _), by omega, List.length_replicate .., List.length_replicate .., (b1.trans ((BA _ _).mono b1.size)).trans ((BA _ _).mono (by have := b1.size; simp; omega))⟩
        have := own_baseN (base' := w.heap.size) (own_zeros (w1.alloc (.cells (Array.replicate 30 (.int .i64 0)) 3)) 286 (by omega)) (by have := b1.size; simp; omega)
        rw [show (w1.alloc (.cells (Array.replicate 30 (.int .i64 0)) 3)).heap.size = w1.heap.size + 1 by simp] at this
        exact this
      generalize ((w1.alloc (.cells (Array.replicate 30 (.int .i64 0)) 3)).alloc (.cells (Array.replicate 286 (.int .i64 0)) 3)).drew = w2 at *
      generalize w1.heap.size + 1 = ga at *
      generalize w1.heap.size = gb at *
      rw [z0_9.1, z0_9.2] at T0
      have HT0 : Hid (Tw9 w (w2.setCell ⟨ga, 256, none⟩ (.int .i64 1)) ga gb ((cl9 (tals9 [])).set 256 1) (cd9 (tals9 []))) := T0.setA 256 1
      obtain ⟨c0, fz⟩ := T0.cellA (i := 256) (by omega)
      have f0 := fz 256
      generalize (cl9 (tals9 [])).getD 256 0 = y0 at *
      clear fz T0 b1 M1 M2 BA
      go_wp2_with fail
      go_loopw [33] (fun ti wr => ∃ i : Nat, i ≤ n ∧ ti = .int .i64 (i : Int) ∧ Tw9 w wr ga gb ((cl9 (tals9 (l.take i))).set 256 1) (cd9 (tals9 (l.take i))) ∧ Hid (∀ j, (0 ≤ ((cl9 (tals9 (l.take i))).set 256 1).getD j 0 ∧ ((cl9 (tals9 (l.take i))).set 256 1).getD j 0 ≤ (i : Int) + 1) ∧ 0 ≤ (cd9 (tals9 (l.take i))).getD j 0 ∧ (cd9 (tals9 (l.take i))).getD j 0 ≤ (i : Int) + 1)) (fun ti _ => n - (intOf ti).toNat)
      case atStart =>
        refine ⟨0, by omega, rfl, by rw [List.take_zero]; exact HT0.out, ?_⟩
        rw [List.take_zero]
        intro j
        rw [gset9 _ _ _ _ (by rw [cl9_len]; omega), ← z0_9.1, ← z0_9.2, repl_get, repl_get]
        split <;> omega
      case round =>
        obtain ⟨i, hin, rfl, TT, HBD⟩ := hrel
        clear HT0 c0 f0
        by_cases hlt : i < n
        · have hlti : (i : Int) < (n : Int) := by omega
          have hil : i < l.length := by rw [hn.out]; exact hlt
          obtain ⟨g, o, rfl, tk⟩ := (HS.out.old TT.bl).at_ i hil
          have hfit := HS.out.fit (l.getD i tk0) (by simp only [List.getD, List.getElem?_eq_getElem hil, Option.getD_some]; exact List.getElem_mem hil)
          have hmay := HMY.out (l.getD i tk0) (by simp only [List.getD, List.getElem?_eq_getElem hil, Option.getD_some]; exact List.getElem_mem hil)
          have HTK : Hid (tals9 (l.take (i + 1)) = tst9 (tals9 (l.take i)) (l.getD i tk0)) := by show _ = _; rw [takeT7 hil, tals9_snoc]
          generalize l.getD i tk0 = t at *
          have s1 := cl9_step (tals9_len (l.take i)) hfit hmay
          have s2 := cd9_lit (tals9_len (l.take i)) hfit hmay
          have s3 := cd9_step (tals9_len (l.take i)) hfit hmay
          rw [← HTK.out] at s1 s2 s3
          have hsy := (sym9_lt hfit hmay).1
          have hfm := (fit_may9 hfit hmay)
          have hsyd : sym9 t = if t.len = 0 then t.lit.toNat else 257 + lix9 t.len := rfl
          have HS1 : Hid (∀ A D, (cl9 (tals9 (l.take (i + 1)))).set 256 1 = A → cd9 (tals9 (l.take (i + 1))) = D → ∀ W, Tw9 w W ga gb A D → (∀ j, (0 ≤ A.getD j 0 ∧ A.getD j 0 ≤ (i : Int) + 1 + 1) ∧ 0 ≤ D.getD j 0 ∧ D.getD j 0 ≤ (i : Int) + 1 + 1) → Tw9 w W ga gb ((cl9 (tals9 (l.take (i + 1)))).set 256 1) (cd9 (tals9 (l.take (i + 1)))) ∧ Hid (∀ j, (0 ≤ ((cl9 (tals9 (l.take (i + 1)))).set 256 1).getD j 0 ∧ ((cl9 (tals9 (l.take (i + 1)))).set 256 1).getD j 0 ≤ ((i + 1 : Nat) : Int) + 1) ∧ 0 ≤ (cd9 (tals9 (l.take (i + 1)))).getD j 0 ∧ (cd9 (tals9 (l.take (i + 1)))).getD j 0 ≤ ((i + 1 : Nat) : Int) + 1)) := by
            intro A D e1 e2 W hT hb
            subst e1 e2
            exact ⟨hT, fun j => by have := hb j; omega⟩
          obtain ⟨A, hA⟩ : ∃ A, A = (cl9 (tals9 (l.take i))).set 256 1 := ⟨_, rfl⟩
          obtain ⟨D, hD⟩ : ∃ D, D = cd9 (tals9 (l.take i)) := ⟨_, rfl⟩
          rw [← hA] at s1 TT HBD
          rw [← hD] at s2 s3 TT HBD
          clear hA hD HTK
          obtain ⟨lit, len, dist⟩ := t
          obtain ⟨x0, x1, x2⟩ := tk
          simp only at x0 x1 x2 hfm hsyd
          have b1 := below_box8 wr (.cells #[.int .u8 lit, .int .i64 len, .int .i64 dist] 98)
          have T1 := TT.below b1
          have hga := (TT.oa.lt ga (by simp [Value.ownBlock])).2
          have hgb := (TT.od.lt gb (by simp [Value.ownBlock])).2
          by_cases hz : len = 0
          · rw [if_pos hz] at hsyd
            obtain ⟨L, rfl⟩ : ∃ L : Nat, lit = (L : Int) := ⟨lit.toNat, by omega⟩
            rw [Int.toNat_natCast] at hsyd
            rw [hsyd] at s1 hsy
            obtain ⟨c0, fz⟩ := T1.cellA (i := L) hsy
            have f0 := fz L
            have bb := (HBD.out L).1
            have HT2 : Hid (Tw9 w ((wr.setCell ⟨ga, L, none⟩ (.int .i64 (A.getD L 0 + 1))).alloc (.cells #[.int .u8 (L : Int), .int .i64 0, .int .i64 dist] 98)) ga gb (inc9 A L 1) D) := (TT.setA L (A.getD L 0 + 1)).below (below_box8 _ _)
            have HB2 : Hid (∀ j, (0 ≤ (inc9 A L 1).getD j 0 ∧ (inc9 A L 1).getD j 0 ≤ (i : Int) + 1 + 1) ∧ 0 ≤ D.getD j 0 ∧ D.getD j 0 ≤ (i : Int) + 1 + 1) := fun j => by
              rw [inc9_get _ _ _ _ (by rw [TT.la]; exact hsy)]
              have := HBD.out j
              split <;> omega
            have HS2 := HS1.out _ _ s1 (s2 hz)
            have HS3 : Hid (∀ W, Tw9 w W ga gb (inc9 A L 1) D → Tw9 w W ga gb ((cl9 (tals9 (l.take (i + 1)))).set 256 1) (cd9 (tals9 (l.take (i + 1)))) ∧ Hid (∀ j, (0 ≤ ((cl9 (tals9 (l.take (i + 1)))).set 256 1).getD j 0 ∧ ((cl9 (tals9 (l.take (i + 1)))).set 256 1).getD j 0 ≤ ((i + 1 : Nat) : Int) + 1) ∧ 0 ≤ (cd9 (tals9 (l.take (i + 1)))).getD j 0 ∧ (cd9 (tals9 (l.take (i + 1)))).getD j 0 ≤ ((i + 1 : Nat) : Int) + 1)) := fun W hT => HS2 W hT HB2.out
            subst hz
            generalize A.getD L 0 = y at *
            have i1 : IntKind.i64.wrap (y + 1) = y + 1 := IntWalk.i64_in _ (by omega)
            have hLi : (L : Int) < 286 := by omega
            clear s1 s2 s3 HS1 HS2 HBD HB2 T1 b1 TT hsyd hfm hfit hmay fz
            go_wp2_with fail
            go_roundw
            case rel => exact ⟨i + 1, by omega, by go_num, (HS3.out _ HT2.out).1, (HS3.out _ HT2.out).2⟩
            case measure => simp [intOf]; omega
          · rw [if_neg hz] at hsyd
            have hfm2 := hfm.2.2.resolve_left (fun q => hz q.1)
            obtain ⟨k2, k3, k4, k5, k6, klit⟩ := hfm2
            clear klit k2
            have CL := rlsy9_is len k3 k4 (wr.alloc (.cells #[.int .u8 lit, .int .i64 len, .int .i64 dist] 98))
            have hdx := (dspec9 k5).2.1
            have CD := rdsy9_is dist k5 k6
            rw [hsyd] at s1 hsy
            have s3 := s3 hz
            obtain ⟨p, hp⟩ : ∃ p, p = 257 + lix9 len := ⟨_, rfl⟩
            obtain ⟨q, hq⟩ : ∃ q, q = dix9 dist := ⟨_, rfl⟩
            have hpi : 257 + (lix9 len : Int) = (p : Int) := by omega
            rw [← hp] at s1 hsy
            simp only at s3
            rw [← hq] at s3 hdx
            rw [hpi] at CL
            rw [← hq] at CD
            generalize lnS9.getD (lix9 len * 2 + 1) 0 = z1 at *
            generalize lnS9.getD (lix9 len * 2) 0 = z2 at *
            generalize dsS9.getD (q * 2 + 1) 0 = z3 at *
            generalize dsS9.getD (q * 2) 0 = z4 at *
            have HB2 : Hid (∀ j, (0 ≤ (inc9 A p 1).getD j 0 ∧ (inc9 A p 1).getD j 0 ≤ (i : Int) + 1 + 1) ∧ 0 ≤ (inc9 D q 1).getD j 0 ∧ (inc9 D q 1).getD j 0 ≤ (i : Int) + 1 + 1) := fun j => by
              rw [inc9_get _ _ _ _ (by rw [TT.la]; exact hsy), inc9_get _ _ _ _ (by rw [TT.ld]; exact hdx)]
              have := HBD.out j
              constructor <;> split <;> omega
            have HS2 := HS1.out _ _ s1 s3
            have HS3 : Hid (∀ W, Tw9 w W ga gb (inc9 A p 1) (inc9 D q 1) → Tw9 w W ga gb ((cl9 (tals9 (l.take (i + 1)))).set 256 1) (cd9 (tals9 (l.take (i + 1)))) ∧ Hid (∀ j, (0 ≤ ((cl9 (tals9 (l.take (i + 1)))).set 256 1).getD j 0 ∧ ((cl9 (tals9 (l.take (i + 1)))).set 256 1).getD j 0 ≤ ((i + 1 : Nat) : Int) + 1) ∧ 0 ≤ (cd9 (tals9 (l.take (i + 1)))).getD j 0 ∧ (cd9 (tals9 (l.take (i + 1)))).getD j 0 ≤ ((i + 1 : Nat) : Int) + 1)) := fun W hT => HS2 W hT HB2.out
            have bbA := (HBD.out p).1
            have bbD := (HBD.out q).2
            have HT1 : Hid (Tw9 w (wr.alloc (.cells #[.int .u8 lit, .int .i64 len, .int .i64 dist] 98)) ga gb A D) := T1
            have g0 := heap_alloc_new wr (.cells #[.int .u8 lit, .int .i64 len, .int .i64 dist] 98)
            have HCD : Hid (∀ w, Calls Tryz.prog 12 #[.int .i64 dist] w fun e w' => e = .returned (.tuple #[.int .i64 (q : Int), .int .i64 z3, .int .i64 (dist - z4), .int .i64 0]) ∧ Below w.heap.size w w') := CD
            clear s1 s2 s3 HS1 HS2 HBD HB2 T1 b1 TT hsyd hfm hfit hmay CD hp hq hpi
            go_wp2_with fail
            generalize wr.alloc (.cells #[.int .u8 lit, .int .i64 len, .int .i64 dist] 98) = wa at *
            refine CL.mono ?_
            rintro e w3 ⟨rfl, b3⟩
            have T3 := HT1.out.below b3
            have hwl : wr.heap.size < wa.heap.size := (Array.getElem?_eq_some_iff.1 g0).1
            have g3 := (b3.block wr.heap.size hwl).trans g0
            have c2 : w3.cell? ⟨wr.heap.size, 2, none⟩ = some (.int .i64 dist) := (cell_of_row w3 _ 2 _ _ _ g3).trans rfl
            clear CL HT1 g0 b3 g3
            go_wp2_with fail
            refine (HCD.out w3).mono ?_
            rintro e w4 ⟨rfl, b4⟩
            have T4 := T3.below b4
            clear T3 b4 HCD c2
            obtain ⟨c0, fz⟩ := T4.cellA (i := p) hsy
            have f0 := fz p
            obtain ⟨d0, gz⟩ := T4.cellD (i := q) hdx
            have k0 := gz q
            have HT5 : Hid (Tw9 w ((w4.setCell ⟨ga, p, none⟩ (.int .i64 (A.getD p 0 + 1))).setCell ⟨gb, q, none⟩ (.int .i64 (D.getD q 0 + 1))) ga gb (inc9 A p 1) (inc9 D q 1)) := (T4.setA p (A.getD p 0 + 1)).setD q (D.getD q 0 + 1)
            have hne := T4.ne
            have hpl : (p : Int) < 286 := by omega
            have hql : (q : Int) < 30 := by omega
            clear T4 fz gz hga hgb
            generalize A.getD p 0 = y at *
            generalize D.getD q 0 = v at *
            have i1 : IntKind.i64.wrap (y + 1) = y + 1 := IntWalk.i64_in _ (by omega)
            have i2 : IntKind.i64.wrap (v + 1) = v + 1 := IntWalk.i64_in _ (by omega)
            go_wp2_with fail
            go_roundw
            case rel => exact ⟨i + 1, by omega, by go_num, (HS3.out _ HT5.out).1, (HS3.out _ HT5.out).2⟩
            case measure => simp [intOf]; omega
        · have hge : ¬ (i : Int) < (n : Int) := by omega
          have hTA : l.take i = l := List.take_of_length_le (by rw [hn.out]; omega)
          rw [hTA, ← cl9_tal, ← cd9_tal] at TT
          have bdA : ∀ z ∈ cl9 (tal9 l), -9223372036854775808 ≤ z ∧ z ≤ 9223372036854775807 := fun z hz => by
            obtain ⟨j, hj, rfl⟩ := List.mem_iff_getElem.1 hz
            have := (HBD.out j).1
            rw [hTA, ← cl9_tal] at this
            simp only [List.getD, List.getElem?_eq_getElem hj, Option.getD_some] at this
            omega
          have bdD : ∀ z ∈ cd9 (tal9 l), -9223372036854775808 ≤ z ∧ z ≤ 9223372036854775807 := fun z hz => by
            obtain ⟨j, hj, rfl⟩ := List.mem_iff_getElem.1 hz
            have := (HBD.out j).2
            rw [hTA, ← cd9_tal] at this
            simp only [List.getD, List.getElem?_eq_getElem hj, Option.getD_some] at this
            omega
          have sA := own_segZ TT.oa bdA
          have sD := own_segZ TT.od bdD
          have CL := rlengths_far 15 _ (cl9 (tal9 l)) 286 286 (cl9_len _) wr sA (by omega)
          have HCD : Hid (∀ W, Below wr.heap.size wr W → Calls Tryz.prog 49 #[.int .i64 15, .slice (some ⟨gb, 0, none⟩) 30 30] W (LenF W 15 (cd9 (tal9 l)))) := fun W hW => rlengths_far 15 _ (cd9 (tal9 l)) 30 30 (cd9_len _) W (sD.old hW) (by omega)
          have BR := TT.bl
          clear HBD hTA bdA bdD sA sD TT
          go_wp2_with fail
          refine CL.mono ?_
          rintro e w3 ⟨xa, xc, rfl, s3, fr3, b3⟩
          have CD := HCD.out w3 b3
          clear CL HCD
          go_wp2_with fail
          refine CD.mono ?_
          rintro e w4 ⟨ya, yc, rfl, s4, fr4, b4⟩
          have s3' := s3.old b4
          have B3 : Below w.heap.size w w3 := BR.trans (b3.mono BR.size)
          have B4 : Below w.heap.size w w4 := B3.trans (b4.mono B3.size)
          have hr := BR.size
          have h3 := B3.size
          clear CD s3 b3 b4 BR
          go_wp2_with fail
          go_ret3
          show RoQ w (owa9 l) (owd9 l) (mer9 l) _ _
          rw [HQ.out.1, HQ.out.2.1, HQ.out.2.2]
          exact ⟨xa, xc, ya, yc, rfl, s3', s4, fun x e => ⟨Nat.le_trans hr (fr3 x e).1, (fr3 x e).2⟩, fun x e => ⟨Nat.le_trans h3 (fr4 x e).1, (fr4 x e).2⟩, B4⟩
  · have HQ : Hid (owa9 l = [] ∧ owd9 l = []) := ⟨if_neg hm, if_neg hm⟩
    go_enter Tryz.func20, Tryz.ntmps20
    go_wp2_with fail
    refine CM.mono ?_
    rintro e w1 ⟨rfl, b1⟩
    clear CM
    rcases mer9_no hm with hm | hm
    · rw [hm]
      go_wp2_with fail
      go_ret3
      show RoQ w (owa9 l) (owd9 l) _ _ _
      rw [HQ.out.1, HQ.out.2, hm]
      exact ⟨none, 0, none, 0, rfl, SegZ.nil _ _, SegZ.nil _ _, (fun x e => by cases e), (fun x e => by cases e), b1⟩
    · rw [hm]
      go_wp2_with fail
      go_ret3
      show RoQ w (owa9 l) (owd9 l) _ _ _
      rw [HQ.out.1, HQ.out.2, hm]
      exact ⟨none, 0, none, 0, rfl, SegZ.nil _ _, SegZ.nil _ _, (fun x e => by cases e), (fun x e => by cases e), b1⟩
end Go.Proofs.YtcifalelnfeggaaGreatDoor

namespace Go.Proofs.YtcifalelnfeggaaGreatDoor
open Go.RowKit
set_option linter.unusedVariables false

/-! The bits of tokens by codes of these lengths; as many as the tally says. -/
def tkB9 (ZL ZD : List Int) (t : Tok7) : List Bool := if t.len = 0 then putB ZL t.lit else putB ZL ((257 + lix9 t.len : Nat) : Int) ++ bN (t.len - lnS9.getD (lix9 t.len * 2) 0).toNat (lnS9.getD (lix9 t.len * 2 + 1) 0).toNat ++ putB ZD (dix9 t.dist : Int) ++ bN (t.dist - dsS9.getD (dix9 t.dist * 2) 0).toNat (dsS9.getD (dix9 t.dist * 2 + 1) 0).toNat
def bdy9 (ZL ZD : List Int) (l : List Tok7) : List Bool := l.flatMap (tkB9 ZL ZD) ++ putB ZL 256
theorem sum_inc9 (A ys : List Int) (s : Nat) (v : Int) (hs : s < A.length) : ∀ n, sumC9 (inc9 A s v) ys n = sumC9 A ys n + if s < n then v * ys.getD s 0 else 0
  | 0 => by simp [sumC9]
  | n + 1 => by
    rw [sumC9, sumC9, sum_inc9 A ys s v hs n, inc9_get _ _ _ _ hs]
    by_cases h1 : s < n
    · rw [if_pos h1, if_neg (by omega), if_pos (by omega)]
      rw [Int.add_zero]
      omega
    · rw [if_neg h1]
      by_cases h2 : s = n
      · subst h2
        rw [if_pos rfl, if_pos (by omega), Int.add_mul]
        omega
      · rw [if_neg h2, if_neg (by omega), Int.add_zero, Int.add_zero, Int.add_zero]
theorem sum_zero9 (ys : List Int) (m : Nat) : ∀ n, sumC9 (List.replicate m 0) ys n = 0
  | 0 => rfl
  | n + 1 => by rw [sumC9, sum_zero9 ys m n, repl_get]; omega
theorem set_inc9 {A : List Int} {s : Nat} (h : A.getD s 0 = 0) : A.set s 1 = inc9 A s 1 := by unfold inc9; rw [h]; rfl
theorem tak_get9 (Z : List Int) {n i : Nat} (h : i < n) : (Z.take n).getD i 0 = Z.getD i 0 := by
  simp only [List.getD, List.getElem?_take_of_lt h]
theorem tst9_more {X : List Int} (hX : X.length = 318) {t : Tok7} (hf : t.Fit) (hm : may7 t) : (tst9 X t).getD 1 0 = X.getD 1 0 + if t.len = 0 then 0 else lnS9.getD (lix9 t.len * 2 + 1) 0 + dsS9.getD (dix9 t.dist * 2 + 1) 0 := by
  obtain ⟨a, b, c⟩ := fit_may9 hf hm
  unfold tst9
  rcases c with ⟨c, _⟩ | ⟨c, c3, c4, c5, c6, _⟩
  · rw [if_pos c, if_pos c, inc9_get _ _ _ _ (by rw [inc9_len, hX]; omega), inc9_get _ _ _ _ (by omega), if_neg (by omega), if_neg (by omega)]
    omega
  · have h1 := (lspec9 c3).2.1
    have h2 := (dspec9 c5).2.1
    rw [if_neg c, if_neg c, inc9_get _ _ _ _ (by simp only [inc9_len, hX]; omega), inc9_get _ _ _ _ (by simp only [inc9_len, hX]; omega), inc9_get _ _ _ _ (by simp only [inc9_len, hX]; omega), inc9_get _ _ _ _ (by simp only [inc9_len, hX]; omega), inc9_get _ _ _ _ (by omega)]
    simp only [eq_false (show ¬ 0 = 1 by omega), eq_false (show ¬ 259 + lix9 t.len = 1 by omega), eq_false (show ¬ 288 + dix9 t.dist = 1 by omega), if_false, if_true]
    omega
theorem put_len9 {Z : List Int} (h : errC Z = 0) {k : Nat} (hk : k < Z.length) : ((putB Z (k : Int)).length : Int) = Z.getD k 0 := by
  rw [putB_lenIn h hk]
  have := (errS_zero (errC_zero h).1).2
  unfold ln
  have hz : 0 ≤ Z.getD k 0 := by
    have hm : Z.getD k 0 ∈ Z := by simp only [List.getD, List.getElem?_eq_getElem hk, Option.getD_some]; exact List.getElem_mem hk
    exact (this _ hm).1
  omega
theorem bdy9_k {ZL ZD : List Int} (hL : errC ZL = 0) (hD : errC ZD = 0) (nL : 286 ≤ ZL.length) (nD : 30 ≤ ZD.length) (l : List Tok7) (hf : ∀ t ∈ l, t.Fit) (hm : ∀ t ∈ l, may7 t) : ∀ k, k ≤ l.length → sumC9 ((cl9 (tals9 (l.take k))).set 256 1) (ZL.take 286) 286 + sumC9 (cd9 (tals9 (l.take k))) (ZD.take 30) 30 + (tals9 (l.take k)).getD 1 0 = (((l.take k).flatMap (tkB9 ZL ZD)).length : Int) + ((putB ZL 256).length : Int)
  | 0, _ => by
    rw [List.take_zero, ← z0_9.1, ← z0_9.2, set_inc9 (repl_get 286 256), sum_inc9 _ _ _ _ (by rw [List.length_replicate]; omega), sum_zero9, sum_zero9, if_pos (by omega), tak_get9 _ (by omega)]
    have e1 := put_len9 hL (k := 256) (by omega)
    have e2 : (tals9 []).getD 1 0 = 0 := repl_get 318 1
    rw [e2]
    simp only [List.flatMap_nil, List.length_nil]
    have e3 : ((256 : Nat) : Int) = 256 := rfl
    rw [e3] at e1
    omega
  | k + 1, hk => by
    have ih := bdy9_k hL hD nL nD l hf hm k (by omega)
    have hmem : l.getD k tk0 ∈ l := by simp only [List.getD, List.getElem?_eq_getElem (show k < l.length by omega), Option.getD_some]; exact List.getElem_mem _
    have hft := hf _ hmem
    have hmt := hm _ hmem
    rw [takeT7 (by omega), tals9_snoc, List.flatMap_append, List.length_append]
    generalize l.getD k tk0 = t at *
    have hX := tals9_len (l.take k)
    generalize tals9 (l.take k) = X at *
    obtain ⟨hs, hs2⟩ := sym9_lt hft hmt
    rw [cl9_step hX hft hmt, sum_inc9 _ _ _ _ (by rw [List.length_set, cl9_len]; exact hs), if_pos hs, tak_get9 _ hs, tst9_more hX hft hmt]
    simp only [List.flatMap_cons, List.flatMap_nil, List.append_nil]
    obtain ⟨a, b, c⟩ := fit_may9 hft hmt
    rcases c with ⟨c, _⟩ | ⟨c, c3, c4, c5, c6, _⟩
    · rw [cd9_lit hX hft hmt c, if_pos c]
      have e : sym9 t = t.lit.toNat := by unfold sym9; rw [if_pos c]
      have e2 : tkB9 ZL ZD t = putB ZL (t.lit.toNat : Int) := by unfold tkB9; rw [if_pos c, Int.toNat_of_nonneg a]
      rw [e2, e]
      have e1 := put_len9 hL (k := t.lit.toNat) (by omega)
      push_cast
      omega
    · have h1 := (lspec9 c3).2.1
      have h2 := (dspec9 c5).2.1
      have b1 := lnb9 (lix9 t.len)
      have b2 := dsb9 (dix9 t.dist)
      rw [cd9_step hX hft hmt c, sum_inc9 _ _ _ _ (by rw [cd9_len]; exact h2), if_pos h2, tak_get9 _ h2, if_neg c]
      have e : sym9 t = 257 + lix9 t.len := by unfold sym9; rw [if_neg c]
      have e1 := put_len9 hL (k := 257 + lix9 t.len) (by omega)
      have e3 := put_len9 hD (k := dix9 t.dist) (by omega)
      have e2 : ((tkB9 ZL ZD t).length : Int) = ZL.getD (257 + lix9 t.len) 0 + lnS9.getD (lix9 t.len * 2 + 1) 0 + ZD.getD (dix9 t.dist) 0 + dsS9.getD (dix9 t.dist * 2 + 1) 0 := by
        unfold tkB9
        rw [if_neg c]
        rw [List.length_append, List.length_append, List.length_append, bN_len, bN_len]
        omega
      rw [e]
      push_cast
      omega
theorem bdy9_len {ZL ZD : List Int} (hL : errC ZL = 0) (hD : errC ZD = 0) (nL : 286 ≤ ZL.length) (nD : 30 ≤ ZD.length) {l : List Tok7} (hm : mer9 l = 0) (hf : ∀ t ∈ l, t.Fit) : ((bdy9 ZL ZD l).length : Int) = bts9 (tal9 l) ZL ZD := by
  have h := bdy9_k hL hD nL nD l hf (mer9_zero hm).2 l.length (Nat.le_refl _)
  rw [List.take_of_length_le (Nat.le_refl _), ← cl9_tal, ← cd9_tal] at h
  have hct := tal9_ct hm hf
  have e1 : (tal9 l).getD 1 0 = (tals9 l).getD 1 0 := by unfold tal9; rw [gset9 _ _ _ _ (by rw [tals9_len]; omega), if_neg (by omega)]
  have bL := (errS_zero (errC_zero hL).1).2
  have bD := (errS_zero (errC_zero hD).1).2
  have l1 : (ZL.take 286).length = 286 := by rw [List.length_take]; omega
  have l2 : (ZD.take 30).length = 30 := by rw [List.length_take]; omega
  have g : ∀ (Z : List Int) (hb : ∀ z ∈ Z, 0 ≤ z ∧ z ≤ 15) (n i : Nat), i < (Z.take n).length → 0 ≤ (Z.take n).getD i 0 ∧ (Z.take n).getD i 0 ≤ 15 := fun Z hb n i hi => by
    have hm : (Z.take n).getD i 0 ∈ Z.take n := by simp only [List.getD, List.getElem?_eq_getElem hi, Option.getD_some]; exact List.getElem_mem hi
    exact hb _ (List.mem_of_mem_take hm)
  have c1 := (errK9_ok (xs := cl9 (tal9 l)) (ys := ZL.take 286) (by rw [cl9_len, l1]) (errOf_ok9 (by rw [cl9_len]; omega) (cl9_bd hct)) (fun i hi => g ZL bL 286 i hi)).2
  have c2 := (errK9_ok (xs := cd9 (tal9 l)) (ys := ZD.take 30) (by rw [cd9_len, l2]) (errOf_ok9 (by rw [cd9_len]; omega) (cd9_bd hct)) (fun i hi => g ZD bD 30 i hi)).2
  unfold bts9
  rw [c1, c2, l1, l2, e1, h]
  unfold bdy9
  rw [List.length_append]
  push_cast
  rfl
end Go.Proofs.YtcifalelnfeggaaGreatDoor

namespace Go.Proofs.YtcifalelnfeggaaGreatDoor
open Go.RowKit
set_option linter.unusedVariables false

/-! A head's bits, counted. -/
theorem rnb8_cost {Z : List Int} (h : errC Z = 0) (hl : Z.length = 19) : ∀ R : List Rn8, (∀ r ∈ R, ok8 r) → (rnb8 Z R).length = cb8 Z R
  | [], _ => rfl
  | r :: R, hr => by
    have hok := hr r (by simp)
    have h1 := putB_cost h r.sy
    obtain ⟨s, hs⟩ : ∃ s : Nat, r.sy = (s : Int) := ⟨r.sy.toNat, by unfold ok8 at hok; omega⟩
    have hs19 : s < 19 := by unfold ok8 at hok; omega
    rw [hs, costV_in (by omega)] at h1
    rw [rnb8, cb8, List.length_append, List.length_append, bN_len, rnb8_cost h hl R fun x hx => hr x (by simp [hx]), hs, Int.toNat_natCast]
    omega
theorem hd8_len {lit dist : List Int} (h : tld8 errC lit dist) : (hd8 lit dist).length = cst8 lit dist := by
  have hZ := sz8_ok h
  have hR := (runs8_ok (tld8_ok h).2.2.1).1
  unfold hd8 cst8
  simp only [List.length_append, bN_len, szb8_len]
  have hc := rnb8_cost hZ.1 hZ.2.1 (rs8 lit dist) hR
  omega
end Go.Proofs.YtcifalelnfeggaaGreatDoor

namespace Go.Proofs.YtcifalelnfeggaaGreatDoor
open Go.RowKit
set_option linter.unusedVariables false

/-! A block's own lengths can be told; what a block costs is how many bits it has. -/
theorem lensR_code9 {zs : List Int} (h : zs.length ≤ 288) (hb : ∀ i, 0 ≤ zs.getD i 0 ∧ zs.getD i 0 ≤ 1099511627776) : errC (lensR 15 zs) = 0 ∧ ∀ i, i < zs.length → zs.getD i 0 ≠ 0 → (lensR 15 zs).getD i 0 ≠ 0 := by
  have he := errOf_ok9 h hb
  have hu : nUse zs ≤ 2 ^ 15 := by
    rw [nUse_us]
    unfold usI
    have := List.length_filter_le (fun i => decide (zs.getD i 0 ≠ 0)) (List.range zs.length)
    rw [List.length_range] at this
    omega
  have hL : lensR 15 zs = lensL 15 zs := by
    unfold lensR
    rw [if_pos (errL_ok9 h hb)]
    rfl
  rw [hL]
  obtain ⟨h1, h2, h3⟩ := lens_code he (lim := 15) (by omega) (by omega) hu
  exact ⟨h1, fun i hi hz => h3 i hi hz⟩
theorem own_told9 {l : List Tok7} (hm : mer9 l = 0) (hf : ∀ t ∈ l, t.Fit) : errC (oL9 (tal9 l)) = 0 ∧ errC (oD9 (tal9 l)) = 0 ∧ tld8 errC (oL9 (tal9 l)) (oD9 (tal9 l)) := by
  have hct := tal9_ct hm hf
  obtain ⟨n1, n2⟩ := oL9_len hct
  have c1 := lensR_code9 (by rw [cl9_len]; omega) (cl9_bd hct)
  have c2 := lensR_code9 (by rw [cd9_len]; omega) (cd9_bd hct)
  refine ⟨c1.1, c2.1, by rw [n1]; omega, by rw [n1]; omega, by rw [n2]; omega, c1.1, c2.1, ?_⟩
  refine c1.2 256 (by rw [cl9_len]; omega) ?_
  rw [cl9_get _ (by omega)]
  unfold tal9
  rw [gset9 _ _ _ _ (by rw [tals9_len]; omega), if_pos rfl]
  omega
/-- The bits of a block, behind x bits of a byte. -/
def blk9 (k x : Nat) (last : Bool) (data : List Int) (l : List Tok7) : List Bool :=
  [last, decide (k % 2 = 1), decide (k / 2 % 2 = 1)] ++
  (if k = 0 then List.replicate ((8 - (x + 3) % 8) % 8) false ++ bN data.length 16 ++ bN (65535 - data.length) 16 ++ bB data
   else if k = 1 then bdy9 plnL9 plnD9 l else hd8 (oL9 (tal9 l)) (oD9 (tal9 l)) ++ bdy9 (oL9 (tal9 l)) (oD9 (tal9 l)) l)
theorem owc9_len {l : List Tok7} (hm : mer9 l = 0) (hf : ∀ t ∈ l, t.Fit) : owc9 (tal9 l) = 3 + ((hd8 (oL9 (tal9 l)) (oD9 (tal9 l))).length : Int) + ((bdy9 (oL9 (tal9 l)) (oD9 (tal9 l)) l).length : Int) := by
  obtain ⟨e1, e2, ht⟩ := own_told9 hm hf
  obtain ⟨n1, n2⟩ := oL9_len (tal9_ct hm hf)
  rw [bdy9_len e1 e2 (by omega) (by omega) hm hf]
  unfold owc9 hco9
  rw [if_pos ht, hd8_len ht]
theorem blk9_len {k x : Nat} (hk : k < 3) {last : Bool} {data : List Int} {l : List Tok7} (hm : mer9 l = 0) (hf : ∀ t ∈ l, t.Fit) (hd : (data.length : Int) = (tal9 l).getD 0 0) : ((blk9 k x last data l).length : Int) = cos9 k x (tal9 l) := by
  unfold blk9 cos9
  obtain rfl | rfl | rfl : k = 0 ∨ k = 1 ∨ k = 2 := by omega
  · rw [if_pos rfl, if_pos rfl]
    unfold sto9
    rw [← hd]
    simp only [List.length_append, List.length_cons, List.length_nil, List.length_replicate, bN_len, bB_len]
    omega
  · rw [if_neg (by omega), if_pos rfl, if_neg (by omega), if_pos rfl, ← bdy9_len pln_ok9.1 pln_ok9.2 (by rw [plnL9_len]; omega) (by show 30 ≤ 32; omega) hm hf]
    simp only [List.length_append, List.length_cons, List.length_nil]
    omega
  · rw [if_neg (by omega), if_neg (by omega), if_neg (by omega), if_neg (by omega), owc9_len hm hf]
    simp only [List.length_append, List.length_cons, List.length_nil]
    omega
end Go.Proofs.YtcifalelnfeggaaGreatDoor

namespace Go.Proofs.YtcifalelnfeggaaGreatDoor
open Go.RowKit
set_option linter.unusedVariables false

/-! The document's writer on its way; how many sizes it tells. -/
def RwI (W wr : World) (bw B : Nat) (v : Value) (M : List Bool) : Prop := ∃ v', RwL wr bw B v' M ∧ Kp (WS bw v) W wr ∧ Fresh W v v'
theorem RwI.start {W : World} {bw B : Nat} {v : Value} {M : List Bool} (h : RwL W bw B v M) : RwI W W bw B v M := ⟨v, h, Kp.refl _ _, fun k e => .inl e⟩
theorem RwI.kp {W wr : World} {bw B : Nat} {v : Value} {M : List Bool} (h : RwI W wr bw B v M) : Kp (WS bw v) W wr := by
  obtain ⟨v', _, h2, _⟩ := h
  exact h2
theorem RwI.next {W wr w' : World} {bw B : Nat} {v v1 v2 : Value} {M2 : List Bool} (hK : Kp (WS bw v) W wr) (hF : Fresh W v v1) (h : RwL w' bw B v2 M2) (hk : Kp (WS bw v1) wr w') (hf : Fresh wr v1 v2) : RwI W w' bw B v M2 := by
  refine ⟨v2, h, hK.trans (S' := WS bw v1) hk (fun k hlt e => ?_), fun k e => ?_⟩
  · rcases e with e | e
    · exact .inl e
    · rcases hF k e with e2 | e2
      · exact .inr e2
      · omega
  · rcases hf k e with e2 | e2
    · exact hF k e2
    · exact .inr (Nat.le_trans hK.size e2)
theorem RwL.below8 {w w' : World} {b B : Nat} {v : Value} {L : List Bool} (h : RwL w b B v L) (hb : Below w.heap.size w w') : RwL w' b B v L := h.kp (kp_of_below hb (fun _ => False)) (fun h => h) (fun _ _ h => h)
theorem RwI.old {W wr w' : World} {bw B : Nat} {v : Value} {M : List Bool} (h : RwI W wr bw B v M) (hb : Below wr.heap.size wr w') : RwI W w' bw B v M := by
  obtain ⟨v', h1, h2, h3⟩ := h
  exact ⟨v', h1.below8 hb, h2.trans (S' := fun _ => False) (kp_of_below hb _) (fun _ _ e => e.elim), h3⟩
theorem RwI.up {w W wr : World} {bw B : Nat} {v : Value} {M : List Bool} (hb : Below w.heap.size w W) (h : RwI W wr bw B v M) : RwI w wr bw B v M := by
  obtain ⟨v', h1, h2, h3⟩ := h
  refine ⟨v', h1, (kp_of_below hb (WS bw v)).trans (S' := WS bw v) h2 (fun _ _ e => e), fun k e => ?_⟩
  rcases h3 k e with e2 | e2
  · exact .inl e2
  · exact .inr (Nat.le_trans hb.size e2)
def RuQ (W : World) (bw B : Nat) (v : Value) (M : List Bool) (e : Ending) (w' : World) : Prop := e = .returned (.int .i64 0) ∧ RwI W w' bw B v M
theorem rput8 {W wr : World} {bw B : Nat} {v : Value} {M : List Bool} (h : RwI W wr bw B v M) (x k : Nat) (hx : x < 2 ^ k) (hk : k ≤ 56) (hl : M.length ≤ 140737488355264) :
    Calls Tryz.prog 30 #[.pointer (some ⟨bw, 0, none⟩), .int .u64 (x : Int), .int .i64 (k : Int)] wr (RuQ W bw B v (M ++ bN x k)) := by
  obtain ⟨v', h1, h2, h3⟩ := h
  refine (rput_ok bw B v' M x k wr h1 hx hk hl).mono ?_
  rintro e w' ⟨rfl, v2, q1, q2, q3⟩
  exact ⟨rfl, RwI.next h2 h3 q1 q2 q3⟩
/-- The document's way to count the sizes that are told. -/
def cmx8 (Z : List Int) : Nat → Nat
  | 0 => 4
  | i + 1 => if Z.getD (ordL.getD i 0).toNat 0 ≠ 0 ∧ cmx8 Z i < i + 1 then i + 1 else cmx8 Z i
theorem cmx8_bd (Z : List Int) : ∀ i, 4 ≤ cmx8 Z i ∧ cmx8 Z i ≤ max 4 i
  | 0 => by simp [cmx8]
  | i + 1 => by
    have := cmx8_bd Z i
    rw [cmx8]
    split <;> omega
theorem cmx8_few (Z : List Int) : ∀ i, i ≤ 4 → cmx8 Z i = 4
  | 0, _ => rfl
  | i + 1, h => by
    have e := cmx8_few Z i (by omega)
    rw [cmx8, e, if_neg (by omega)]
theorem cmx8_tol (Z : List Int) : ∀ n, 4 ≤ n → cmx8 Z n = tol8 Z n
  | 0, h => by omega
  | n + 1, h => by
    by_cases h4 : n + 1 = 4
    · rw [h4, cmx8_few Z 4 (by omega)]
      obtain rfl : n = 3 := by omega
      rw [tol8, if_neg (by omega)]
    · have ih := cmx8_tol Z n (by omega)
      have hb := cmx8_bd Z n
      rw [cmx8, tol8]
      by_cases hz : Z.getD (ordL.getD n 0).toNat 0 = 0
      · rw [if_neg (fun h => h.1 hz), if_pos ⟨by omega, hz⟩, ih]
      · rw [if_pos ⟨hz, by omega⟩, if_neg (fun h => hz h.2)]
end Go.Proofs.YtcifalelnfeggaaGreatDoor
