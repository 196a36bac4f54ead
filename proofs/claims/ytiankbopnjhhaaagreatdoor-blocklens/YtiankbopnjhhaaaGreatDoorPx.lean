import Derived.Test.YtiankbopnjhhaaaGreatDoorPw
import Derived.Test.YtiankbopnjhhaaaGreatDoorPa
import Derived.WalkKit
import Derived.ProofKit
import Derived.OpenShut
import Derived.SizedLaws
import Derived.Test.YtiankbopnjhhaaaGreatDoorPh
import Derived.Deep.Slices
import Derived.Lib.SmallJoins
import Derived.Test.YtiankbopnjhhaaaGreatDoorRows
import Derived.Deep.DeepHandedRow
import Derived.Lib.LaidTab
import Derived.LaidSub
namespace Go.Proofs.YtiankbopnjhhaaaGreatDoor
open Go.RowKit
set_option linter.unusedVariables false

/-! BlockLens. -/
theorem lensR_le9 (lim : Int) (zs : List Int) : (lensR lim zs).length ≤ 288 := by
  unfold lensR
  split
  · rename_i h
    rw [lens_len]
    unfold errL at h
    split at h
    · cases h
    · split at h
      · rename_i h2
        exact (errOf_zero h2).1
      · omega
  · simp
theorem owa9_le (l : List Tok7) : (owa9 l).length ≤ 288 ∧ (owd9 l).length ≤ 288 := by
  unfold owa9 owd9 oL9 oD9
  constructor <;> split <;> first | exact lensR_le9 _ _ | simp
theorem mer9_bd (l : List Tok7) : 0 ≤ mer9 l ∧ mer9 l ≤ 91 := by unfold mer9; split; omega; split <;> omega
theorem own_sh9 {w : World} {base n cap : Nat} {e : TypeId} {b : Option Addr} {xs : List Value} (h : w.ownsRow base e 1 (.slice b n cap) n xs) (hn : 0 < n) : ∃ g, b = some ⟨g, 0, none⟩ := by
  rcases h.2 with ⟨h1, _⟩ | ⟨g, cp, cur, h1, hb, _⟩
  · simp only [Value.slice.injEq] at h1; omega
  · simp only [Value.slice.injEq] at h1; exact ⟨g, h1.1⟩
/-- Two numbers behind a row of the call's own. -/
theorem wpList_appI2 {P : Program} {ops : Array Oper} {rest : List Oper} {o : Oper} {a : Act} {Q : Exit → Act → World → Prop} (hgd : o.guard = none) (s x : Operand) (t : TypeId)
    (ho : o.op = .call { callee := .builtin .append, args := #[s, x], argTypes := #[t, t] })
    (base : Nat) (e : TypeId) (i : TypeInfo) (z : Value) (bytes : Nat) (ht : P.underlying t = some (.slice e)) (hi : P.info? e = some i) (hz : i.zero = some z)
    (hsize : i.size = 1) (hby : i.bytes = bytes) (hzs : z.cells.size = 1) (w0 : World) (y y' : Int)
    {ra : Option Addr} {n rc : Nat} {l : List Int} (hown : w0.ownsRow base e 1 (.slice ra n rc) n (l.map (Value.int .i64))) (hs : a.eval s = .slice ra n rc) (hx : a.eval x = .slice (some ⟨w0.heap.size, 0, none⟩) 2 2)
    (h63 : n + 2 ≤ 140737488355328) (hbytes : (n + 2) * bytes ≤ 140737488355328) (hbase : base ≤ w0.heap.size)
    (h : ∀ (g : Nat) (c : Nat) (w' : World), Kp (fun k => (Value.slice ra n rc).ownBlock = some k) w0 w' → wpList P ops Q rest (a.put o.dst (.slice (some ⟨g, 0, none⟩) (n + 2) c)) w') : wpList P ops Q (o :: rest) a (w0.alloc (.cells #[.int .i64 y, .int .i64 y'] e)) := by
  have hnew : ∀ j u, ([.int .i64 y, .int .i64 y'] : List Value)[j]? = some u → (w0.alloc (.cells #[.int .i64 y, .int .i64 y'] e)).cell? ((⟨w0.heap.size, 0, none⟩ : Addr).add j) = some u := by
    intro j u hu
    have hadd : (⟨w0.heap.size, 0, none⟩ : Addr).add j = ⟨w0.heap.size, j, none⟩ := by unfold Addr.add; split <;> simp_all
    rw [hadd]
    have hh := heap_alloc_new w0 (.cells #[.int .i64 y, .int .i64 y'] e)
    simp only [World.cell?, hh]
    simpa using hu
  refine wpList_append_lies _ hgd s x t ho base e i z 1 bytes ht hi hz hsize hby hzs (by decide) _ n (l.map (Value.int .i64)) hs (hown.alloc _) ⟨w0.heap.size, 0, none⟩ 2 2 [.int .i64 y, .int .i64 y'] hx rfl hnew (by intro u hu; simp only [List.mem_cons, List.not_mem_nil, or_false] at hu; rcases hu with rfl | rfl <;> rfl) (by decide) (by unfold maxLen; omega) hbytes (by simp; omega) (w0.heap.size + 1) (by simp) ?_
  intro g c w' h1 h2 h3 _
  refine h g c w' ?_
  exact (Kp.alloc w0 _).trans (Kp.grown (S := fun k => (Value.slice ra n rc).ownBlock = some k) h2 (fun i e => e)) (fun _ _ e => e)
/-- A row of the call's own, written over at a place. -/
theorem own_put9 {w : World} {base n g cap : Nat} {L : List Int} (h : w.ownsRow base 3 1 (.slice (some ⟨g, 0, none⟩) n cap) n (L.map (Value.int .i64))) (i : Nat) (v : Int) : (w.setCell ⟨g, i, none⟩ (.int .i64 v)).ownsRow base 3 1 (.slice (some ⟨g, 0, none⟩) n cap) n ((L.set i v).map (Value.int .i64)) := by
  obtain ⟨OS, GS⟩ := h.stored i (.int .i64 v)
  rw [← List.map_set] at OS
  simpa using OS
set_option maxRecDepth 100000 in
set_option maxHeartbeats 16000000 in
theorem blockLens_walk (w : World) (tab : TabS w ∧ TabO w) (a : Option Addr) (l : List Tok7) (cap : Nat) (hs : SegT w a l) (hl : l.length ≤ 5864062014634) :
    Calls Tryz.prog 5 #[.slice a l.length cap] w fun e w' => e = .returned (.bool true) ∧ Below w.heap.size w w' := by
  obtain ⟨i0, hi, hz0, hz1, hz2⟩ := info_parts info_int
  clear tab
  obtain ⟨n, hnn⟩ : ∃ n, n = l.length := ⟨_, rfl⟩
  have HN : Hid (l.length = n) := hnn.symm
  rw [← hnn] at hl ⊢
  clear hnn
  obtain ⟨X, hX⟩ : ∃ X, X = owa9 l := ⟨_, rfl⟩
  obtain ⟨Y, hY⟩ : ∃ Y, Y = owd9 l := ⟨_, rfl⟩
  obtain ⟨E, hE⟩ : ∃ E, E = mer9 l := ⟨_, rfl⟩
  have hle := owa9_le l
  have hEb := mer9_bd l
  rw [← hX, ← hY] at hle
  rw [← hE] at hEb
  obtain ⟨nX, hnX⟩ : ∃ nX, nX = X.length := ⟨_, rfl⟩
  obtain ⟨nY, hnY⟩ : ∃ nY, nY = Y.length := ⟨_, rfl⟩
  have HNX : Hid (X.length = nX) := hnX.symm
  have HNY : Hid (Y.length = nY) := hnY.symm
  rw [← hnX, ← hnY] at hle
  clear hnX hnY
  have CF := face9 l a n cap HN w hs hl
  have HP : Hid (∀ W g c, SegT W (some ⟨g, 0, none⟩) l → Calls Tryz.prog 19 #[.slice (some ⟨g, 0, none⟩) n c] W (OnQ W X Y E)) := by
    intro W g c h
    have := pown9 l (some ⟨g, 0, none⟩) n c HN W h
    rw [← hX, ← hY, ← hE] at this
    exact this
  have HR : Hid (∀ W, SegT W a l → Calls Tryz.prog 20 #[.slice a n cap] W (RoQ W X Y E)) := by
    intro W h
    have := rown9 l a n cap HN W h hl
    rw [← hX, ← hY, ← hE] at this
    exact this
  have HSX : Hid (∀ W xa xc ya yc, SegZ W xa X → SegZ W ya X → Calls Tryz.prog 21 #[.slice xa nX xc, .slice ya nX yc] W fun e w' => e = .returned (.bool true) ∧ Below W.heap.size W w') := fun W xa xc ya yc h1 h2 => same9 xa ya X nX xc yc HNX W h1 h2 (by omega)
  have HSY : Hid (∀ W xa xc ya yc, SegZ W xa Y → SegZ W ya Y → Calls Tryz.prog 21 #[.slice xa nY xc, .slice ya nY yc] W fun e w' => e = .returned (.bool true) ∧ Below W.heap.size W w') := fun W xa xc ya yc h1 h2 => same9 xa ya Y nY xc yc HNY W h1 h2 (by omega)
  have HSU : Hid (∀ W xa xc ya yc, SegZ W xa plnL9 → SegZ W ya plnL9 → Calls Tryz.prog 21 #[.slice xa 288 xc, .slice ya 288 yc] W fun e w' => e = .returned (.bool true) ∧ Below W.heap.size W w') := fun W xa xc ya yc h1 h2 => same9 xa ya plnL9 288 xc yc plnL9_len W h1 h2 (by omega)
  have HSV : Hid (∀ W xa xc ya yc, SegZ W xa plnD9 → SegZ W ya plnD9 → Calls Tryz.prog 21 #[.slice xa 32 xc, .slice ya 32 yc] W fun e w' => e = .returned (.bool true) ∧ Below W.heap.size W w') := fun W xa xc ya yc h1 h2 => same9 xa ya plnD9 32 xc yc rfl W h1 h2 (by omega)
  clear hX hY hE
  go_enter Tryz.func5, Tryz.ntmps5
  go_wp2_with fail
  refine CF.mono ?_
  rintro e w1 ⟨g, c, rfl, OF, b1⟩
  have hfl : (faceL l).length = n + 2 := by unfold faceL; rw [List.length_append, HN.out]; rfl
  have SF : SegT w1 (some ⟨g, 0, none⟩) (faceL l) := own_segT OF hfl (faceL_fit hs.fit)
  have SP : SegT w1 (some ⟨g, 0, none⟩) l := by
    have := SF.take n
    rwa [show (faceL l).take n = l by unfold faceL; rw [← HN.out]; simp] at this
  have hc : n + 2 ≤ c := (own_factsT OF).1
  have HSF : Hid (SegT w1 (some ⟨g, 0, none⟩) (faceL l)) := SF
  have HHS : Hid (SegT w a l) := hs
  have CO := HP.out w1 g c SP
  have HSP : Hid (SegT w1 (some ⟨g, 0, none⟩) l) := SP
  clear CF OF hfl SF SP hs
  go_wp2_with fail
  refine CO.mono ?_
  rintro e w2 ⟨la, lc, da, dc, rfl, OA, OB, hap, b2⟩
  rw [HNX.out] at OA
  rw [HNY.out] at OB
  rw [HNX.out, HNY.out] at hap ⊢
  have HAP : Hid (∀ g h, (Value.slice la nX lc).ownBlock = some g → (Value.slice da nY dc).ownBlock = some h → g < h) := hap
  have HOA : Hid (w2.ownsRow w1.heap.size 3 1 (.slice la nX lc) nX (X.map (Value.int .i64)) ∧ w2.ownsRow w1.heap.size 3 1 (.slice da nY dc) nY (Y.map (Value.int .i64))) := ⟨OA, OB⟩
  have CO2 := HP.out w2 g c (HSP.out.old b2)
  clear CO OA OB hap
  go_wp2_with fail
  refine CO2.mono ?_
  rintro e w3 ⟨ca, cc, ea, ec, rfl, OC, OD, _, b3⟩
  rw [HNX.out] at OC
  rw [HNY.out] at OD
  rw [HNX.out, HNY.out]
  have HOC : Hid (w3.ownsRow w2.heap.size 3 1 (.slice ca nX cc) nX (X.map (Value.int .i64)) ∧ w3.ownsRow w2.heap.size 3 1 (.slice ea nY ec) nY (Y.map (Value.int .i64))) := ⟨OC, OD⟩
  have b12 := b1.trans (b2.mono b1.size)
  have b13 := b12.trans (b3.mono b12.size)
  have CR := HR.out w3 (HHS.out.old b13)
  clear CO2 OC OD HP HR
  go_wp2_with fail
  refine CR.mono ?_
  rintro e w4 ⟨xa, xc, ya, yc, rfl, sX, sY, fX, fY, b4⟩
  rw [HNX.out, HNY.out]
  have bdX := sX.mem
  have bdY := sY.mem
  have hz12 := b2.size
  have hz23 := b3.size
  have hz34 := b4.size
  have oA := own_below (own_below HOA.out.1 b3) b4
  have oB := own_below (own_below HOA.out.2 b3) b4
  have oC := own_below HOC.out.1 b4
  have oD := own_below HOC.out.2 b4
  have ltA : ∀ k, (Value.slice la nX lc).ownBlock = some k → w1.heap.size ≤ k ∧ k < w2.heap.size := fun k e => HOA.out.1.lt k e
  have ltB : ∀ k, (Value.slice da nY dc).ownBlock = some k → w1.heap.size ≤ k ∧ k < w2.heap.size := fun k e => HOA.out.2.lt k e
  have fC : ∀ b off, ca = some ⟨b, off, none⟩ → w2.heap.size ≤ b := fun b off e => own_blk9 HOC.out.1 _ e
  have fD : ∀ b off, ea = some ⟨b, off, none⟩ → w2.heap.size ≤ b := fun b off e => own_blk9 HOC.out.2 _ e
  have HF : Hid ((∀ b off, ca = some ⟨b, off, none⟩ → w2.heap.size ≤ b) ∧ (∀ b off, ea = some ⟨b, off, none⟩ → w2.heap.size ≤ b) ∧ (∀ b off, xa = some ⟨b, off, none⟩ → w2.heap.size ≤ b) ∧ (∀ b off, ya = some ⟨b, off, none⟩ → w2.heap.size ≤ b)) := ⟨fC, fD, fun b off e => Nat.le_trans hz23 (fX _ e), fun b off e => Nat.le_trans hz23 (fY _ e)⟩
  have HLT : Hid ((∀ k, (Value.slice la nX lc).ownBlock = some k → w1.heap.size ≤ k ∧ k < w2.heap.size) ∧ (∀ k, (Value.slice da nY dc).ownBlock = some k → w1.heap.size ≤ k ∧ k < w2.heap.size)) := ⟨ltA, ltB⟩
  have HSG : Hid (SegZ w4 la X ∧ SegZ w4 da Y ∧ SegZ w4 ca X ∧ SegZ w4 ea Y ∧ SegZ w4 xa X ∧ SegZ w4 ya Y) := ⟨own_segZ oA bdX, own_segZ oB bdY, own_segZ oC bdX, own_segZ oD bdY, sX, sY⟩
  have HOW : Hid (w4.ownsRow w1.heap.size 3 1 (.slice la nX lc) nX (X.map (Value.int .i64)) ∧ w4.ownsRow w1.heap.size 3 1 (.slice da nY dc) nY (Y.map (Value.int .i64))) := ⟨oA, oB⟩
  have b24 := b3.trans (b4.mono b3.size)
  have b14 := b13.trans (b4.mono b13.size)
  have HK4 : Hid (SegT w4 (some ⟨g, 0, none⟩) (faceL l) ∧ SegT w4 a l) := ⟨(HSF.out.old b2).old b24, HHS.out.old b14⟩
  have HB4 : Hid (Below w.heap.size w w4 ∧ w.heap.size ≤ w1.heap.size ∧ w1.heap.size ≤ w2.heap.size ∧ w2.heap.size ≤ w4.heap.size) := ⟨b14, b1.size, hz12, by omega⟩
  clear CR sX sY fX fY b4 b13 b12 b1 b2 b3 oA oB oC oD ltA ltB fC fD HOA HOC HSF HHS HSP b24 b14 hz12 hz23 hz34
  go_wp2_with fail
  refine (HSX.out w4 la lc xa xc HSG.out.1 HSG.out.2.2.2.2.1).mono ?_
  rintro e w5 ⟨rfl, b5⟩
  go_wp2_with fail
  refine (HSY.out w5 da dc ya yc (HSG.out.2.1.old b5) (HSG.out.2.2.2.2.2.old b5)).mono ?_
  rintro e w6 ⟨rfl, b6⟩
  have B6 : Below w4.heap.size w4 w6 := b5.trans (b6.mono b5.size)
  clear b5 b6
  go_wp2_with fail
  refine (HSX.out w6 ca cc xa xc (HSG.out.2.2.1.old B6) (HSG.out.2.2.2.2.1.old B6)).mono ?_
  rintro e w7 ⟨rfl, b7⟩
  have B7 : Below w4.heap.size w4 w7 := B6.trans (b7.mono B6.size)
  clear b7 B6
  go_wp2_with fail
  refine (HSY.out w7 ea ec ya yc (HSG.out.2.2.2.1.old B7) (HSG.out.2.2.2.2.2.old B7)).mono ?_
  rintro e w8 ⟨rfl, b8⟩
  have B8 : Below w4.heap.size w4 w8 := B7.trans (b8.mono B7.size)
  clear b8 B7
  have CK := kept9 l (some ⟨g, 0, none⟩) a n c cap HN w8 (HK4.out.1.old B8) (HK4.out.2.old B8) hc hl
  go_wp2_with fail
  refine CK.mono ?_
  rintro e w9 ⟨rfl, b9⟩
  have B9 : Below w4.heap.size w4 w9 := B8.trans (b9.mono B8.size)
  have HO9 : Hid (w9.ownsRow w1.heap.size 3 1 (.slice la nX lc) nX (X.map (Value.int .i64)) ∧ w9.ownsRow w1.heap.size 3 1 (.slice da nY dc) nY (Y.map (Value.int .i64))) := ⟨own_below HOW.out.1 B9, own_below HOW.out.2 B9⟩
  have HS9 : Hid (SegZ w9 ca X ∧ SegZ w9 ea Y ∧ SegZ w9 xa X ∧ SegZ w9 ya Y) := ⟨HSG.out.2.2.1.old B9, HSG.out.2.2.2.1.old B9, HSG.out.2.2.2.2.1.old B9, HSG.out.2.2.2.2.2.old B9⟩
  have HB9 : Hid (Below w.heap.size w w9 ∧ w.heap.size ≤ w1.heap.size ∧ w1.heap.size ≤ w2.heap.size ∧ w2.heap.size ≤ w9.heap.size) := ⟨HB4.out.1.trans (B9.mono HB4.out.1.size), HB4.out.2.1, HB4.out.2.2.1, Nat.le_trans HB4.out.2.2.2 B9.size⟩
  clear CK b9 B8 B9 HSG HOW HB4 HK4
  generalize w1.heap.size = N1 at *
  generalize w2.heap.size = N2 at *
  go_wp2_with fail
  go_loopw [79] (fun ti wr => ∃ (i : Nat) (L : List Int), i ≤ nX ∧ ti = .int .i64 (i : Int) ∧ wr.ownsRow N1 3 1 (.slice la nX lc) nX (L.map (Value.int .i64)) ∧ wr.ownsRow N1 3 1 (.slice da nY dc) nY (Y.map (Value.int .i64)) ∧ Hid (L.length = nX) ∧ Kp (fun k => N1 ≤ k ∧ k < N2) w9 wr) (fun ti _ => nX - (intOf ti).toNat)
  case atStart => exact ⟨0, X, by omega, rfl, HO9.out.1, HO9.out.2, HNX.out, Kp.refl _ _⟩
  case round =>
    obtain ⟨i, L, hin, rfl, OA, OB, HL, KR⟩ := hrel
    clear HO9
    by_cases hlt : i < nX
    · have hlti : (i : Int) < (nX : Int) := by omega
      obtain ⟨ga, rfl⟩ := own_sh9 OA (by omega)
      obtain ⟨d0, fz⟩ := own_cell1 OA (i := i) (by rw [HL.out]; exact hlt)
      have f0 := fz i
      have gA := HLT.out.1 ga rfl
      have HO2 : Hid ((wr.setCell ⟨ga, i, none⟩ (.int .i64 (-1))).ownsRow N1 3 1 (.slice (some ⟨ga, 0, none⟩) nX lc) nX ((L.set i (-1)).map (Value.int .i64)) ∧ (wr.setCell ⟨ga, i, none⟩ (.int .i64 (-1))).ownsRow N1 3 1 (.slice da nY dc) nY (Y.map (Value.int .i64)) ∧ Kp (fun k => N1 ≤ k ∧ k < N2) w9 (wr.setCell ⟨ga, i, none⟩ (.int .i64 (-1)))) := ⟨own_put9 OA i (-1), own_kp OB (Kp.set (S := fun k => k = ga) rfl _) (fun k e e2 => by have := HAP.out ga k rfl e; omega), KR.trans (Kp.set (S := fun k => N1 ≤ k ∧ k < N2) gA _) (fun _ _ e => e)⟩
      have HL2 : Hid ((L.set i (-1)).length = nX) := by show _ = _; rw [List.length_set]; exact HL.out
      generalize L.getD i 0 = y at *
      clear OA OB KR fz gA
      go_wp2_with fail
      go_roundw
      case rel => exact ⟨i + 1, L.set i (-1), by omega, by go_num, HO2.out.1, HO2.out.2.1, HL2.out, HO2.out.2.2⟩
      case measure => simp [intOf]; omega
    · have hge : ¬ (i : Int) < (nX : Int) := by omega
      have HI : Hid (wr.ownsRow N1 3 1 (.slice la nX lc) nX (L.map (Value.int .i64)) ∧ wr.ownsRow N1 3 1 (.slice da nY dc) nY (Y.map (Value.int .i64)) ∧ Kp (fun k => N1 ≤ k ∧ k < N2) w9 wr) := ⟨OA, OB, KR⟩
      clear OA OB KR HL
      obtain rfl : i = nX := by omega
      clear hge hin
      revert wr
      intro w10 HI
      go_wp2_with fail
      go_loopw [88] (fun ti wr => ∃ (j : Nat) (L2 : List Int), j ≤ nY ∧ ti = .int .i64 (j : Int) ∧ wr.ownsRow N1 3 1 (.slice la i lc) i (L.map (Value.int .i64)) ∧ wr.ownsRow N1 3 1 (.slice da nY dc) nY (L2.map (Value.int .i64)) ∧ Hid (L2.length = nY) ∧ Kp (fun k => N1 ≤ k ∧ k < N2) w9 wr) (fun ti _ => nY - (intOf ti).toNat)
      case atStart => exact ⟨0, Y, by omega, rfl, HI.out.1, HI.out.2.1, HNY.out, HI.out.2.2⟩
      case round =>
        obtain ⟨j, L2, hjn, rfl, OA, OB, HL, KR⟩ := hrel
        clear HI
        by_cases hlt : j < nY
        · have hlti : (j : Int) < (nY : Int) := by omega
          obtain ⟨gb, rfl⟩ := own_sh9 OB (by omega)
          obtain ⟨d0, fz⟩ := own_cell1 OB (i := j) (by rw [HL.out]; exact hlt)
          have f0 := fz j
          have gB := HLT.out.2 gb rfl
          have HO2 : Hid ((wr.setCell ⟨gb, j, none⟩ (.int .i64 (-1))).ownsRow N1 3 1 (.slice la i lc) i (L.map (Value.int .i64)) ∧ (wr.setCell ⟨gb, j, none⟩ (.int .i64 (-1))).ownsRow N1 3 1 (.slice (some ⟨gb, 0, none⟩) nY dc) nY ((L2.set j (-1)).map (Value.int .i64)) ∧ Kp (fun k => N1 ≤ k ∧ k < N2) w9 (wr.setCell ⟨gb, j, none⟩ (.int .i64 (-1)))) := ⟨own_kp OA (Kp.set (S := fun k => k = gb) rfl _) (fun k e e2 => by have := HAP.out k gb e rfl; omega), own_put9 OB j (-1), KR.trans (Kp.set (S := fun k => N1 ≤ k ∧ k < N2) gB _) (fun _ _ e => e)⟩
          have HL2 : Hid ((L2.set j (-1)).length = nY) := by show _ = _; rw [List.length_set]; exact HL.out
          generalize L2.getD j 0 = y at *
          clear OA OB KR fz gB
          go_wp2_with fail
          go_roundw
          case rel => exact ⟨j + 1, L2.set j (-1), by omega, by go_num, HO2.out.1, HO2.out.2.1, HL2.out, HO2.out.2.2⟩
          case measure => simp [intOf]; omega
        · have hge : ¬ (j : Int) < (nY : Int) := by omega
          obtain rfl : j = nY := by omega
          have HI : Hid (wr.ownsRow N1 3 1 (.slice da j dc) j (L2.map (Value.int .i64)) ∧ Kp (fun k => N1 ≤ k ∧ k < N2) w9 wr) := ⟨OB, KR⟩
          clear OB KR HL hge hjn
          revert wr
          intro w11 OA HI
          have hs11 : N1 ≤ w11.heap.size := by have := HI.out.2.size; have := HB9.out.2.2; omega
          go_wp2_with (first | (at_builtin; refine wpList_appI2 rfl (.tmp 95) (.tmp 96) 39 rfl N1 3 i0 _ 8 Tryz.underlying39 hi hz0 hz1 hz2 rfl w11 1 2 OA rfl rfl (by omega) (by omega) hs11 ?_; intro g1 c1 w12 k12; have OB12 := own_kp HI.out.1 k12 (fun k e e2 => by have := HAP.out k k e2 e; omega); have K12 : Kp (fun k => N1 ≤ k ∧ k < N2) w9 w12 := HI.out.2.trans k12 (fun k _ e => HLT.out.1 k e); have hs12 : N1 ≤ w12.heap.size := Nat.le_trans hs11 k12.size; clear OA HI k12) | (at_builtin; refine wpList_appI2 rfl (.tmp 98) (.tmp 99) 39 rfl N1 3 i0 _ 8 Tryz.underlying39 hi hz0 hz1 hz2 rfl w12 3 4 OB12 rfl rfl (by omega) (by omega) hs12 ?_; intro g2 c2 w13 k13))
          have K13 : Kp (fun k => N1 ≤ k ∧ k < N2) w9 w13 := K12.trans k13 (fun k _ e => HLT.out.2 k e)
          have S13 : Hid (SegZ w13 ca X ∧ SegZ w13 ea Y ∧ SegZ w13 xa X ∧ SegZ w13 ya Y) := ⟨HS9.out.1.kp K13 (fun b o e _ h => by have := HF.out.1 b o e; omega), HS9.out.2.1.kp K13 (fun b o e _ h => by have := HF.out.2.1 b o e; omega), HS9.out.2.2.1.kp K13 (fun b o e _ h => by have := HF.out.2.2.1 b o e; omega), HS9.out.2.2.2.kp K13 (fun b o e _ h => by have := HF.out.2.2.2 b o e; omega)⟩
          have HB13 : Hid (Below w.heap.size w w13) := HB9.out.1.trans (K13.below (fun k e => by have := HB9.out.2.1; omega) HB9.out.1.size)
          clear OB12 K12 k13 K13 HS9 HB9 hs11 hs12 HF
          go_wp2_with fail
          refine (pplain9 w13).mono ?_
          rintro e w14 ⟨pa, pc, qa, rfl, OP, OQ, _, b14⟩
          go_wp2_with fail
          refine (rplain9 w14).mono ?_
          rintro e w15 ⟨ua, uc, va, vc, rfl, sU, sV, fU, fV, b15⟩
          have oP := own_below OP b15
          have HOP : Hid (w15.ownsRow w13.heap.size 3 1 (.slice pa 288 pc) 288 (plnL9.map (Value.int .i64)) ∧ (∀ k, (Value.slice pa 288 pc).ownBlock = some k → w13.heap.size ≤ k ∧ k < w14.heap.size)) := ⟨oP, fun k e => OP.lt k e⟩
          have sP := own_segZ oP plnL9_bd
          have sQ := own_segZ (own_below OQ b15) plnD9_bd
          have B15 : Below w13.heap.size w13 w15 := b14.trans (b15.mono b14.size)
          have HFU : Hid (∀ b off, ua = some ⟨b, off, none⟩ → w14.heap.size ≤ b) := fun b off e => fU _ e
          have hz14 := b14.size
          have hz15 := b15.size
          have HZ : Hid (w13.heap.size ≤ w14.heap.size ∧ w14.heap.size ≤ w15.heap.size) := ⟨hz14, hz15⟩
          have HSUU : Hid (SegZ w15 ua plnL9) := sU
          clear OP OQ b14 b15 oP fU fV hz14 hz15
          go_wp2_with fail
          refine (HSU.out w15 pa pc ua uc sP sU).mono ?_
          rintro e w16 ⟨rfl, b16⟩
          go_wp2_with fail
          refine (HSV.out w16 (some ⟨qa, 0, none⟩) 32 va vc (sQ.old b16) (sV.old b16)).mono ?_
          rintro e w17 ⟨rfl, b17⟩
          have B17 : Below w13.heap.size w13 w17 := (B15.trans (b16.mono B15.size)).trans (b17.mono (by have := B15.size; have := b16.size; omega))
          have b157 : Below w15.heap.size w15 w17 := b16.trans (b17.mono b16.size)
          clear b16 b17 sP sQ sU sV B15
          go_wp2_with fail
          refine (HSX.out w17 ca cc xa xc (S13.out.1.old B17) (S13.out.2.2.1.old B17)).mono ?_
          rintro e w18 ⟨rfl, b18⟩
          have B18 : Below w13.heap.size w13 w18 := B17.trans (b18.mono B17.size)
          have b158 : Below w15.heap.size w15 w18 := b157.trans (b18.mono b157.size)
          clear B17 b157 b18
          go_wp2_with fail
          refine (HSY.out w18 ea ec ya yc (S13.out.2.1.old B18) (S13.out.2.2.2.old B18)).mono ?_
          rintro e w19 ⟨rfl, b19⟩
          have B19 : Below w13.heap.size w13 w19 := B18.trans (b19.mono B18.size)
          have b159 : Below w15.heap.size w15 w19 := b158.trans (b19.mono b158.size)
          have HP9 : Hid (w19.ownsRow w13.heap.size 3 1 (.slice pa 288 pc) 288 (plnL9.map (Value.int .i64))) := own_below HOP.out.1 b159
          have HU9 : Hid (SegZ w19 ua plnL9) := HSUU.out.old b159
          have HB19 : Hid (Below w.heap.size w w19 ∧ w.heap.size ≤ w13.heap.size) := ⟨HB13.out.trans (B19.mono HB13.out.size), HB13.out.size⟩
          have HPL : Hid (∀ k, (Value.slice pa 288 pc).ownBlock = some k → w13.heap.size ≤ k ∧ k < w14.heap.size) := HOP.out.2
          clear B18 b158 b19 B19 b159 HOP HSUU HB13 S13
          generalize w13.heap.size = N3 at *
          generalize w14.heap.size = N4 at *
          go_wp2_with fail
          go_loopw [149] (fun ti wr => ∃ (k : Nat) (L3 : List Int), k ≤ 288 ∧ ti = .int .i64 (k : Int) ∧ wr.ownsRow N3 3 1 (.slice pa 288 pc) 288 (L3.map (Value.int .i64)) ∧ Hid (L3.length = 288) ∧ Kp (fun k => N3 ≤ k ∧ k < N4) w19 wr) (fun ti _ => 288 - (intOf ti).toNat)
          case atStart => exact ⟨0, plnL9, by omega, rfl, HP9.out, plnL9_len, Kp.refl _ _⟩
          case round =>
            obtain ⟨k, L3, hkn, rfl, OP, HL, KR⟩ := hrel
            clear HP9
            by_cases hlt : k < 288
            · have hlti : (k : Int) < 288 := by omega
              obtain ⟨gp, rfl⟩ := own_sh9 OP (by omega)
              obtain ⟨d0, fz⟩ := own_cell1 OP (i := k) (by rw [HL.out]; exact hlt)
              have f0 := fz k
              have gP := HPL.out gp rfl
              have HO2 : Hid ((wr.setCell ⟨gp, k, none⟩ (.int .i64 0)).ownsRow N3 3 1 (.slice (some ⟨gp, 0, none⟩) 288 pc) 288 ((L3.set k 0).map (Value.int .i64)) ∧ Kp (fun k => N3 ≤ k ∧ k < N4) w19 (wr.setCell ⟨gp, k, none⟩ (.int .i64 0))) := ⟨own_put9 OP k 0, KR.trans (Kp.set (S := fun k => N3 ≤ k ∧ k < N4) gP _) (fun _ _ e => e)⟩
              have HL2 : Hid ((L3.set k 0).length = 288) := by show _ = _; rw [List.length_set]; exact HL.out
              generalize L3.getD k 0 = y at *
              clear OP KR fz gP
              go_wp2_with fail
              go_roundw
              case rel => exact ⟨k + 1, L3.set k 0, by omega, by go_num, HO2.out.1, HL2.out, HO2.out.2⟩
              case measure => simp [intOf]; omega
            · have hge : ¬ (k : Int) < 288 := by omega
              have sU2 := HU9.out.kp KR (fun b o e _ h => by have := HFU.out b o e; omega)
              have B20 : Below w.heap.size w wr := HB19.out.1.trans (KR.below (fun k e => by have := HB19.out.2; omega) HB19.out.1.size)
              clear OP KR HL HB19 HU9
              go_wp2_with fail
              refine (pplain9 wr).mono ?_
              rintro e w21 ⟨pa2, pc2, qa2, rfl, OP2, _, _, b21⟩
              have sP2 := own_segZ OP2 plnL9_bd
              have B21 : Below w.heap.size w w21 := B20.trans (b21.mono B20.size)
              have CU := HSU.out w21 pa2 pc2 ua uc sP2 (sU2.old b21)
              clear OP2 sP2 sU2 b21 B20
              go_wp2_with fail
              refine CU.mono ?_
              rintro e w22 ⟨rfl, b22⟩
              go_wp2_with fail
              refine (plives9 w22).mono ?_
              rintro e w23 ⟨rfl, b23⟩
              go_wp2_with fail
              go_ret
              exact ⟨rfl, (B21.trans (b22.mono B21.size)).trans (b23.mono (by have := B21.size; have := b22.size; omega))⟩
end Go.Proofs.YtiankbopnjhhaaaGreatDoor

namespace Go.Proofs.YtiankbopnjhhaaaGreatDoor
open Go.ChangeShapes Go.WideShapes Go.ChangeAt Go.RowKit
set_option linter.unusedVariables false

/-- A slice of whole numbers that came in: what lies there, and how it was read. -/
theorem open_seg {H : Type} {enc : TypeId × Value → H} {P : Program} {W : World} {T e : TypeId} {k : IntKind} {M : Int} {a : Option Addr} {len cap : Nat} {d : DataW H} {p : List MemPlace}
    (hT : P.underlying T = some (.slice e)) (he : P.underlying e = some (.int k)) (hc : P.cellsOf e = 1) (hM : 0 ≤ M) (hwf : ∀ n, (Lit.int k n).wf = true → 0 ≤ n ∧ n ≤ M)
    (h : DataW.Trod enc P W 0 (fun _ => true) true T (.slice a len cap) d p) :
    ∃ zs : List Int, zs.length = len ∧ SegK k M W a zs ∧ len ≤ cap ∧ (a = none → cap = 0) ∧ ((d = .nil ∧ len = 0) ∨ ∃ elems spare, d = .slice elems spare ∧ elems.length = len) := by
  obtain ⟨fuel, hf⟩ := h
  rcases open_ints hT he hc hf with ⟨hcs, hx⟩ | ⟨x, l, c, zs, hcs, _, hl, hm, hz, hx, hcell, hwz⟩
  · simp [Value.cells] at hcs
    obtain ⟨rfl, rfl, rfl⟩ := hcs
    simp only [Prod.mk.injEq] at hx
    exact ⟨[], rfl, SegK.nil hM _ _, Nat.le_refl _, fun _ => rfl, Or.inl ⟨hx.1, rfl⟩⟩
  · simp [Value.cells] at hcs
    obtain ⟨rfl, rfl, rfl⟩ := hcs
    simp only [Prod.mk.injEq] at hx
    simp only [if_true] at hz
    refine ⟨zs.take len, by simp; omega, ⟨fun i hi => ?_, hM, getD_bd hM ?_⟩, hl, (by intro h; cases h), Or.inr ⟨_, _, hx.1, by simp [ChangeShapes.lits]; omega⟩⟩
    · simp at hi
      have hi2 : i < len := by omega
      have h1 := hcell i (by omega)
      obtain ⟨b, off, spot⟩ := x
      have hs : spot = none := by
        have := hcell 0 (by omega)
        simpa [Addr.add] using World.cell?_spot this
      subst hs
      refine ⟨b, off, rfl, ?_⟩
      have hadd : (⟨b, off, none⟩ : Addr).add i = ⟨b, off + i, none⟩ := by unfold Addr.add; split <;> simp_all
      rw [hadd] at h1
      rw [h1]
      simp [List.getD, hi2]
    · intro z hz1
      exact hwf z (hwz z (List.mem_of_mem_take hz1))
end Go.Proofs.YtiankbopnjhhaaaGreatDoor

namespace Go.Proofs.YtiankbopnjhhaaaGreatDoor
open Go.ChangeShapes Go.WideShapes Go.ChangeAt Go.RowKit Go.Deep
set_option linter.unusedVariables false
set_option maxRecDepth 100000

theorem cells_tok7 : Tryz.prog.cellsOf 98 = 3 := by kernel_rfl
theorem cells_int7 : Tryz.prog.cellsOf 3 = 1 := by kernel_rfl
theorem cells_u87 : Tryz.prog.cellsOf 5 = 1 := by kernel_rfl
/-- One token, off its three cells. -/
theorem one_tok {H : Type} {enc : TypeId × Value → H} {W : World} {n : Nat} {cs : List Value} {x : DataW H × List MemPlace} (h : DataW.trod enc Tryz.prog W 0 (fun _ => true) true n 98 cs = some x) (hl : cs.length = 3) :
    ∃ t : Tok7, cs = [.int .u8 t.lit, .int .i64 t.len, .int .i64 t.dist] ∧ t.Fit := by
  obtain ⟨xs, k, _, _, _, hxl, hf⟩ := DataW.trod_struct Tryz.underlying98 h
  match cs, hl with
  | [v0, v1, v2], _ =>
    match xs, hxl with
    | [y0, y1, y2], _ =>
      have g0 := hf 0 _ rfl
      have g1 := hf 1 _ rfl
      have g2 := hf 2 _ rfl
      simp [cells_u87, cells_int7] at g0 g1 g2
      obtain ⟨V, e0, _, w0⟩ := DataW.trod_int Tryz.underlying5 g0
      obtain ⟨N, e1, _, w1⟩ := DataW.trod_int Tryz.underlying3 g1
      obtain ⟨M, e2, _, w2⟩ := DataW.trod_int Tryz.underlying3 g2
      simp at e0 e1 e2
      subst e0 e1 e2
      exact ⟨⟨V, N, M⟩, rfl, bounds_u8 w0, bounds_i64 w1, bounds_i64 w2⟩
theorem open_toks {H : Type} {enc : TypeId × Value → H} {W : World} {a : Option Addr} {len cap : Nat} {d : DataW H} {p : List MemPlace}
    (h : DataW.Trod enc Tryz.prog W 0 (fun _ => true) true 35 (.slice a len cap) d p) :
    ∃ l : List Tok7, l.length = len ∧ SegT W a l ∧ ((d = .nil ∧ len = 0) ∨ ∃ elems spare, d = .slice elems spare ∧ elems.length = len) := by
  haveI : Inhabited Tok7 := ⟨tk0⟩
  obtain ⟨fuel, hf⟩ := h
  rcases open_slice Tryz.underlying35 hf with ⟨hcs, hx⟩ | ⟨x, l, c, m, n, D, Pl, hcs, _, hl, hm, hmm, hx, hat⟩
  · simp [Value.cells] at hcs
    obtain ⟨rfl, rfl, rfl⟩ := hcs
    simp only [Prod.mk.injEq] at hx
    exact ⟨[], rfl, SegT.nil _ _, Or.inl ⟨hx.1, rfl⟩⟩
  · simp [Value.cells] at hcs
    obtain ⟨rfl, rfl, rfl⟩ := hcs
    simp only [Prod.mk.injEq] at hx
    simp only [if_true] at hmm
    subst hmm
    rw [cells_tok7] at hat
    have key : ∀ i, i < m → ∃ q : Tok7, W.cell? (x.add (i * 3)) = some (.int .u8 q.lit) ∧ W.cell? (x.add (i * 3 + 1)) = some (.int .i64 q.len) ∧ W.cell? (x.add (i * 3 + 2)) = some (.int .i64 q.dist) ∧ q.Fit := by
      intro i hi
      obtain ⟨cs', h1, h2⟩ := hat i hi
      obtain ⟨_, hlen, hcell⟩ := World.cells?_some h1
      obtain ⟨t, rfl, hfit⟩ := one_tok h2 hlen
      have e0 := hcell 0 (by omega)
      have e1 := hcell 1 (by omega)
      have e2 := hcell 2 (by omega)
      rw [add_add] at e0 e1 e2
      exact ⟨t, by simpa using e0, by simpa using e1, by simpa using e2, hfit⟩
    obtain ⟨q, hq⟩ := choose_lt key
    refine ⟨(List.range len).map q, by simp, ⟨fun i hi => ?_, fun t ht => ?_⟩, Or.inr ⟨_, _, hx.1, by simp⟩⟩
    · have hi2 : i < len := by simpa using hi
      obtain ⟨h1, h2, h3, _⟩ := hq i (by omega)
      obtain ⟨b, off, spot⟩ := x
      have hs : spot = none := by
        obtain ⟨h5, _⟩ := hq 0 (by omega)
        simpa [Addr.add] using World.cell?_spot h5
      subst hs
      have hadd : ∀ j, (⟨b, off, none⟩ : Addr).add j = ⟨b, off + j, none⟩ := by intro j; unfold Addr.add; split <;> simp_all
      rw [hadd] at h1 h2 h3
      have hg : ((List.range len).map q).getD i tk0 = q i := by simp [List.getD, hi2]
      rw [hg]
      exact ⟨b, off, rfl, h1, by rw [Nat.add_assoc]; exact h2, by rw [Nat.add_assoc]; exact h3⟩
    · obtain ⟨i, hi, rfl⟩ := List.mem_map.1 ht
      exact (hq i (by have := List.mem_range.1 hi; omega)).2.2.2
end Go.Proofs.YtiankbopnjhhaaaGreatDoor

namespace Go.Proofs.YtiankbopnjhhaaaGreatDoor
open Go.ChangeShapes Go.WideShapes Go.ChangeAt Go.RowKit
set_option linter.unusedVariables false

theorem gSns : Tryz.prog.globalNamed "sapper/head.senses" = some 0 := by kernel_rfl
theorem gSnsType : (Tryz.prog.globals[0]?).map (·.type) = some 214 := by kernel_rfl
theorem gOrd : Tryz.prog.globalNamed "sapper/head.order" = some 1 := by kernel_rfl
theorem gOrdType : (Tryz.prog.globals[1]?).map (·.type) = some 215 := by kernel_rfl
theorem cellsSns : Tryz.prog.cellsOf 214 = 57 := by kernel_rfl
theorem cellsSense : Tryz.prog.cellsOf 213 = 3 := by kernel_rfl
theorem cellsOrd : Tryz.prog.cellsOf 215 = 19 := by kernel_rfl
theorem cellsInt8 : Tryz.prog.cellsOf 3 = 1 := by kernel_rfl

/-- A table of rows of three numbers as a row of the statements lists it. -/
def rowsData {H : Type} (l : List (Int × Int × Int)) : DataW H := .agg (l.map fun r => .agg [.lit (.int .i64 r.1), .lit (.int .i64 r.2.1), .lit (.int .i64 r.2.2)])
def flat3 (l : List (Int × Int × Int)) : List Value := l.flatMap fun r => [.int .i64 r.1, .int .i64 r.2.1, .int .i64 r.2.2]
theorem flat3_get : ∀ (l : List (Int × Int × Int)) (k j : Nat) (x : Int × Int × Int), l[k]? = some x → j < 3 → (flat3 l)[k * 3 + j]? = ([.int .i64 x.1, .int .i64 x.2.1, .int .i64 x.2.2] : List Value)[j]?
  | [], k, j, x, h, _ => by simp at h
  | t :: r, 0, j, x, h, hj => by
    simp at h
    subst h
    have e : flat3 (t :: r) = [.int .i64 t.1, .int .i64 t.2.1, .int .i64 t.2.2] ++ flat3 r := rfl
    rw [e, Nat.zero_mul, Nat.zero_add, List.getElem?_append_left (by simpa using hj)]
  | t :: r, k + 1, j, x, h, hj => by
    have := flat3_get r k j x (by simpa using h) hj
    have e : flat3 (t :: r) = [.int .i64 t.1, .int .i64 t.2.1, .int .i64 t.2.2] ++ flat3 r := rfl
    rw [e, List.getElem?_append_right (by simp; omega), show (k + 1) * 3 + j - ([.int .i64 t.1, .int .i64 t.2.1, .int .i64 t.2.2] : List Value).length = k * 3 + j by simp; omega]
    exact this
theorem flat3_len : ∀ l : List (Int × Int × Int), (flat3 l).length = l.length * 3
  | [] => rfl
  | t :: r => by
    have e : flat3 (t :: r) = [.int .i64 t.1, .int .i64 t.2.1, .int .i64 t.2.2] ++ flat3 r := rfl
    rw [e, List.length_append, flat3_len r, List.length_cons]
    simp
    omega
/-- Three numbers that read as a row of the table. -/
theorem cells_of_three {H : Type} {enc : TypeId × Value → H} {P : Program} {w : World} {base : Nat} {sp : Nat → Bool} {held : Bool} {fuel : Nat} {t e : TypeId} {fs : Array Field} {cs : List Value} {a b c : Int} {p : List MemPlace}
    (ht : P.underlying t = some (.struct fs)) (hf : fs.toList.map (fun f => (f.type, f.offset)) = [(e, 0), (e, 1), (e, 2)]) (he : P.underlying e = some (.int .i64)) (hce : P.cellsOf e = 1) (hct : P.cellsOf t = 3)
    (h : DataW.trod enc P w base sp held fuel t cs = some (.agg [.lit (.int .i64 a), .lit (.int .i64 b), .lit (.int .i64 c)], p)) : cs = [.int .i64 a, .int .i64 b, .int .i64 c] := by
  cases fuel with
  | zero => simp [DataW.trod] at h
  | succ fuel =>
    simp only [DataW.trod, ht, hct] at h
    split at h
    · rename_i hl
      obtain ⟨xs, hm, hx⟩ := Option.map_eq_some_iff.1 h
      have hxs : xs.map (·.1) = [.lit (.int .i64 a), .lit (.int .i64 b), .lit (.int .i64 c)] := by
        have := congrArg Prod.fst hx
        simpa using this
      have key : ∀ (i : Nat) (z : Int), i < 3 → ([a, b, c] : List Int)[i]? = some z → cs[i]? = some (.int .i64 z) := by
        intro i z hi hz
        have hfi : ∃ f, fs.toList[i]? = some f ∧ f.type = e ∧ f.offset = i := by
          have h1 := congrArg (·[i]?) hf
          simp only [List.getElem?_map] at h1
          rcases i with _ | _ | _ | i
          · obtain ⟨f, e1, e2⟩ := Option.map_eq_some_iff.1 h1
            simp only [Prod.mk.injEq] at e2
            exact ⟨f, e1, e2.1, e2.2⟩
          · obtain ⟨f, e1, e2⟩ := Option.map_eq_some_iff.1 h1
            simp only [Prod.mk.injEq] at e2
            exact ⟨f, e1, e2.1, e2.2⟩
          · obtain ⟨f, e1, e2⟩ := Option.map_eq_some_iff.1 h1
            simp only [Prod.mk.injEq] at e2
            exact ⟨f, e1, e2.1, e2.2⟩
          · omega
        obtain ⟨f, hf1, hf2, hf3⟩ := hfi
        obtain ⟨y, hy, hfy⟩ := Lib.mapM_at hm i f hf1
        rw [hf2, hf3, hce] at hfy
        obtain ⟨z', hc, hyz, _⟩ := DataW.trod_int he hfy
        have h1 : cs[i]? = some (.int .i64 z') := by
          have := congrArg (·[0]?) hc
          simpa [List.getElem?_take, List.getElem?_drop] using this
        have h2 : (xs.map (·.1))[i]? = some (DataW.lit (.int .i64 z') : DataW H) := by simp [hy, hyz]
        rw [hxs] at h2
        rw [h1]
        rcases i with _ | _ | _ | i
        · simp at h2 hz; rw [← h2, hz]
        · simp at h2 hz; rw [← h2, hz]
        · simp at h2 hz; rw [← h2, hz]
        · omega
      apply List.ext_getElem?
      intro i
      rcases i with _ | _ | _ | i
      · rw [key 0 a (by omega) rfl]; rfl
      · rw [key 1 b (by omega) rfl]; rfl
      · rw [key 2 c (by omega) rfl]; rfl
      · rw [List.getElem?_eq_none (by omega), List.getElem?_eq_none (by simp)]
    · cases h
theorem cells_of_rows {H : Type} {enc : TypeId × Value → H} {P : Program} {w : World} {base : Nat} {sp : Nat → Bool} {held : Bool} {fuel : Nat} {t u e : TypeId} {n : Nat} {fs : Array Field} {cs : List Value} {l : List (Int × Int × Int)} {p : List MemPlace}
    (ht : P.underlying t = some (.array n u)) (hu : P.underlying u = some (.struct fs)) (hf : fs.toList.map (fun f => (f.type, f.offset)) = [(e, 0), (e, 1), (e, 2)]) (he : P.underlying e = some (.int .i64)) (hce : P.cellsOf e = 1) (hcu : P.cellsOf u = 3) (hct : P.cellsOf t = n * 3)
    (h : DataW.trod enc P w base sp held fuel t cs = some (rowsData l, p)) : cs = flat3 l := by
  cases fuel with
  | zero => simp [DataW.trod] at h
  | succ fuel =>
    simp only [DataW.trod, ht, hct, hcu] at h
    split at h
    · rename_i hl
      obtain ⟨xs, hm, hx⟩ := Option.map_eq_some_iff.1 h
      have hxs : xs.map (·.1) = l.map fun r => (.agg [.lit (.int .i64 r.1), .lit (.int .i64 r.2.1), .lit (.int .i64 r.2.2)] : DataW H) := by
        have := congrArg Prod.fst hx
        simpa [rowsData] using this
      have hxl : xs.length = n := by simpa using Lib.mapM_length hm
      have hzl : l.length = n := by
        have := congrArg List.length hxs
        simp at this
        omega
      apply List.ext_getElem?
      intro q
      by_cases hq : q < n * 3
      · obtain ⟨i, j, hj, rfl⟩ : ∃ i j, j < 3 ∧ q = i * 3 + j := ⟨q / 3, q % 3, by omega, by omega⟩
        have hi : i < n := by omega
        obtain ⟨y, hy, hfy⟩ := Lib.mapM_at hm i i (by simp [hi])
        obtain ⟨r, hr⟩ : ∃ r, l[i]? = some r := ⟨l[i]'(by omega), by simp [show i < l.length by omega]⟩
        have hy1 : y.1 = .agg [.lit (.int .i64 r.1), .lit (.int .i64 r.2.1), .lit (.int .i64 r.2.2)] := by
          have h2 : (xs.map (·.1))[i]? = some y.1 := by simp [hy]
          rw [hxs] at h2
          simp [hr] at h2
          exact h2.symm
        obtain ⟨y1, y2⟩ := y
        simp only at hy1
        subst hy1
        have hc := cells_of_three hu hf he hce hcu hfy
        rw [flat3_get l i j r hr hj, ← hc, List.getElem?_take, if_pos hj, List.getElem?_drop]
      · rw [List.getElem?_eq_none (by omega), List.getElem?_eq_none (by rw [flat3_len]; omega)]
    · cases h
def snsR : List (Int × Int × Int) := [(0, 1, 0), (1, 1, 0), (2, 1, 0), (3, 1, 0), (4, 1, 0), (5, 1, 0), (6, 1, 0), (7, 1, 0), (8, 1, 0), (9, 1, 0), (10, 1, 0), (11, 1, 0), (12, 1, 0), (13, 1, 0), (14, 1, 0), (15, 1, 0), (-1, 3, 2), (0, 3, 3), (0, 11, 7)]
theorem flat3_sns : flat3 snsR = snsL.map (Value.int .i64) := rfl
theorem sense_struct : ∃ fs, Tryz.prog.underlying 213 = some (.struct fs) ∧ fs.toList.map (fun f => (f.type, f.offset)) = [(3, 0), (3, 1), (3, 2)] := ⟨_, Tryz.underlying213, rfl⟩
theorem tabS_of {W : World} {rest : List (String × DataW Unit)} (h : laidMet Tryz.prog (("sapper/head.senses", Rows.laid_sapper_head_senses) :: rest) W) : TabS W := by
  obtain ⟨ps, ⟨g', t', cs, fuel, p, q, hg', ht', hvar, hd, _, _⟩, _⟩ := h
  obtain rfl := Option.some.inj (gSns.symm.trans hg')
  obtain rfl := Option.some.inj (gSnsType.symm.trans ht')
  obtain ⟨fs, hs, hf⟩ := sense_struct
  have hd' : DataW.trod _ Tryz.prog W _ _ _ fuel 214 cs.toList = some (rowsData snsR, p) := hd
  have hc := cells_of_rows (n := 19) Tryz.underlying214 hs hf Tryz.underlying3 cellsInt8 cellsSense cellsSns hd'
  rw [flat3_sns] at hc
  have hcs : cs = (snsL.map (Value.int .i64)).toArray := by rw [← hc]
  rw [hcs] at hvar
  refine ⟨fun i hi => ⟨0, 0, rfl, ?_⟩, getD_bdz (by decide)⟩
  have := World.var?_cell gSns hvar i
  rw [Nat.zero_add]
  simpa [List.getD, hi] using this
theorem tabO_of {W : World} {rest : List (String × DataW Unit)} (h : laidMet Tryz.prog (("sapper/head.order", Rows.laid_sapper_head_order) :: rest) W) : TabO W := by
  have ht : Lib.TabIs Tryz.prog W "sapper/head.order" .i64 ordL :=
    Lib.tabIs_of_head (rest := rest) gOrd gOrdType Tryz.underlying215 Tryz.underlying3 cellsInt8 cellsOrd h
  refine ⟨fun i hi => ⟨1, 0, rfl, ?_⟩, getD_bdz (by decide)⟩
  rw [Nat.zero_add]
  exact ht.cell gOrd i hi
theorem tabB_of {W : World} (h : laidMetH Tryz.prog [("sapper/head.senses", Rows.laid_sapper_head_senses), ("sapper/head.order", Rows.laid_sapper_head_order)] W) : TabS W ∧ TabO W := by
  have h' : laidMet Tryz.prog [("sapper/head.senses", Rows.laid_sapper_head_senses), ("sapper/head.order", Rows.laid_sapper_head_order)] W := h
  have h2 : laidMet Tryz.prog [("sapper/head.order", Rows.laid_sapper_head_order)] W := laidMet.filter (fun x => x.1 == "sapper/head.order") h'
  exact ⟨tabS_of h', tabO_of h2⟩
end Go.Proofs.YtiankbopnjhhaaaGreatDoor
