
import Derived.Test.YtcgaembnibnglaaCu16
import Derived.Laws.StructEq
namespace Go.Proofs.Ytcgaembnibnglaa
open Go.RowKit Go.Shelf
set_option linter.unusedVariables false

/-! The law's plain; the document's SameSteps, Same. -/
theorem info_sr17 : (Try.prog.info? 95).map (fun i => (i.zero, i.size, i.bytes)) = some (some (.agg #[.int .i64 0, .int .i64 0, .int .i64 0]), 3, 24) := by kernel_rfl
theorem appr17 (V : World) {base : Nat} {v : Value} {n : Nat} {xs : List Value} (y : St16) (hown : V.ownsRow base 95 3 v n xs) (hn : n + 1 ≤ 5864062014805) (hbase : base ≤ V.heap.size) :
    ∃ g rc w', (Builtin.append_ #[23, 23] 23 #[v, .slice (some ⟨V.heap.size, 0, none⟩) 1 1]).run Try.prog (V.alloc (.cells #[.int .i64 y.1, .int .i64 y.2.1, .int .i64 y.2.2] 95)) = .ok (.slice (some ⟨g, 0, none⟩) (n + 1) rc) w' ∧
      w'.ownsRow base 95 3 (.slice (some ⟨g, 0, none⟩) (n + 1) rc) (n + 1) (xs ++ [.int .i64 y.1, .int .i64 y.2.1, .int .i64 y.2.2]) ∧ Kp (fun k => v.ownBlock = some k) V w' ∧ (v.ownBlock = some g ∨ V.heap.size ≤ g) := by
  obtain ⟨i0, hi, hz0, hz1, hz2⟩ := info_parts info_sr17
  obtain ⟨g, rc, w', hr, h1, h2, h3, h4⟩ := run_append_lies (P := Try.prog) (V.alloc (.cells #[.int .i64 y.1, .int .i64 y.2.1, .int .i64 y.2.2] 95)) 23 23 base 95 i0 _ 3 24 Try.underlying23 hi hz0 hz1 hz2 rfl (by omega) v n xs (hown.alloc _) ⟨V.heap.size, 0, none⟩ 1 1 [.int .i64 y.1, .int .i64 y.2.1, .int .i64 y.2.2] rfl
    (World.news_of_block (heap_alloc_new V (.cells #[.int .i64 y.1, .int .i64 y.2.1, .int .i64 y.2.2] 95 (0, 0)))) (by intro u hu; simp at hu; rcases hu with rfl | rfl | rfl <;> rfl) (by omega) (by unfold maxLen; omega) (by omega) (by simp; omega) (V.heap.size + 1) (by simp)
  refine ⟨g, rc, w', hr, h1, (Kp.alloc V _).trans (Kp.grown (S := fun k => v.ownBlock = some k) h2 (fun i e => e)) (fun _ _ e => e), ?_⟩
  rcases h3 with h | h
  · exact .inl h
  · exact .inr (by omega)
def PlQ17 (w : World) (S : List St16) (v2 v3 : Value) (e : Ending) (w' : World) : Prop := ∃ v1, e = .returned (.agg #[v1, v2, v3]) ∧ w'.ownsRow w.heap.size 95 3 v1 S.length (flat16 S) ∧ Below w.heap.size w w'
/-- Between two rounds of plain. -/
structure Pl17 (w : World) (b3 bR : Nat) (v2 v3 v : Value) (S : List St16) (i : Nat) (W : World) : Prop where
  q3 : W.heap[b3]? = some (.cells #[v, v2, v3] 26 (0, 0))
  qR : W.heap[bR]? = some (.cells #[.slice none 0 0, .slice none 0 0, .slice none 0 0] 26 (0, 0))
  own : W.ownsRow w.heap.size 95 3 v i (flat16 (S.take i))
  nv : ∀ g, v.ownBlock = some g → g ≠ b3 ∧ g ≠ bR
  bl : Below w.heap.size w W
set_option maxRecDepth 100000 in
set_option maxHeartbeats 8000000 in
theorem pplain17 {sa : Option Addr} {n sc : Nat} {da : Option Addr} {m dc : Nat} {xa : Option Addr} {k xc : Nat} {S : List St16} (w : World) (hs : SegS w sa S) (hn : Hid (S.length = n)) (hln : n ≤ 5864062014804) :
    Calls Try.prog 15 #[ev16 sa n sc da m dc xa k xc] w (PlQ17 w S (.slice da m dc) (.slice xa k xc)) := by
  have hb := two_boxes16 w #[.slice sa n sc, .slice da m dc, .slice xa k xc] 29 #[.slice none 0 0, .slice none 0 0, .slice none 0 0] 26
  obtain ⟨w2, hw2⟩ : ∃ w2, w2 = (w.alloc (.cells #[.slice sa n sc, .slice da m dc, .slice xa k xc] 29)).alloc (.cells #[.slice none 0 0, .slice none 0 0, .slice none 0 0] 26) := ⟨_, rfl⟩
  simp only [← hw2] at hb
  obtain ⟨bl, z2, qE, qR⟩ := hb
  obtain ⟨w3, hw3⟩ : ∃ w3, w3 = w2.alloc (.cells #[.slice none 0 0, .slice da m dc, .slice xa k xc] 26) := ⟨_, rfl⟩
  have c3 : Cb16 w2 #[.slice none 0 0, .slice da m dc, .slice xa k xc] 26 w3 := by rw [hw3]; exact cb16 _ _ _
  obtain ⟨bE, hbE⟩ : ∃ bE, bE = w.heap.size := ⟨_, rfl⟩
  obtain ⟨bR, hbR⟩ : ∃ bR, bR = w.heap.size + 1 := ⟨_, rfl⟩
  obtain ⟨b3, hb3⟩ : ∃ b3, b3 = w2.heap.size := ⟨_, rfl⟩
  rw [← hbE] at qE
  rw [← hbR] at qR
  have e0 := three_cell0 qE
  have e1 := three_cell1 qE
  have e2 := three_cell2 qE
  have HW2 : Hid ((w.alloc (.cells #[.slice sa n sc, .slice da m dc, .slice xa k xc] 29)).alloc (.cells #[.slice none 0 0, .slice none 0 0, .slice none 0 0] 26) = w2) := hw2.symm
  have HW3 : Hid (w2.alloc (.cells #[.slice none 0 0, .slice da m dc, .slice xa k xc] 26) = w3) := hw3.symm
  have HBE : Hid (w.heap.size = bE) := hbE.symm
  have HBR : Hid (w.heap.size + 1 = bR) := hbR.symm
  have HB3 : Hid (w.heap.size + 2 = b3) := by show _ = _; omega
  have b03 : Below w.heap.size w w3 := bl.trans (c3.bl.mono bl.size)
  have hI0 : Pl17 w b3 bR (.slice da m dc) (.slice xa k xc) (.slice none 0 0) S 0 w3 := ⟨by rw [hb3]; exact c3.cl, (c3.bl.block bR (by omega)).trans qR, ⟨by simp [flat16], .inl ⟨rfl, rfl⟩⟩, fun g e => by simp [Value.ownBlock] at e, b03⟩
  have HLT : Hid (w.heap.size ≤ b3 ∧ w.heap.size ≤ bR ∧ b3 ≠ bR ∧ bE ≠ b3) := ⟨by omega, by omega, by omega, by omega⟩
  have g0 : w3.cell? ⟨bE, 0, none⟩ = some (.slice sa n sc) := three_cell0 ((c3.bl.block bE (by omega)).trans qE)
  have HS0 : Hid (SegS w sa S) := hs
  clear hw2 hw3 hbE hbR hb3 bl z2 qE qR c3 b03 hs
  unfold ev16
  go_enter Try.func15, Try.ntmps15
  go_wp2_with fail
  rw [HW2.out, HW3.out]
  rw [HB3.out, HBR.out, HBE.out]
  clear e0 e1 e2
  go_loopw [14] (fun t14 wr => ∃ (i : Nat) (v : Value), i ≤ n ∧ t14 = .int .i64 (i : Int) ∧ Pl17 w b3 bR (.slice da m dc) (.slice xa k xc) v S i wr) (fun t14 _ => n - (intOf t14).toNat)
  case atStart => exact ⟨0, _, Nat.zero_le _, rfl, hI0⟩
  case round =>
    obtain ⟨i, v, hi, rfl, hP⟩ := hrel
    have hlt := HLT.out
    by_cases hin : i < n
    · have hii : (i : Int) < (n : Int) := by omega
      have hi0 : (0 : Int) ≤ (i : Int) := by omega
      have hil : i < S.length := by rw [hn.out]; exact hin
      obtain ⟨b, off, rfl, hT⟩ := (HS0.out.old hP.bl).at_ i hil
      have c0 := hT.c0
      have c1 := hT.c1
      have c2 := hT.c2
      have hget : S.getD i z16 = S[i] := by simp [List.getD, hil]
      have HTK : Hid (flat16 (S.take (i + 1)) = flat16 (S.take i) ++ [.int .i64 (S.getD i z16).1, .int .i64 (S.getD i z16).2.1, .int .i64 (S.getD i z16).2.2]) := by
        show _ = _
        rw [List.take_succ_eq_append_getElem hil, flat16_app, hget]; rfl
      clear hget
      generalize S.getD i z16 = s at *
      obtain ⟨A, C, K⟩ := s
      simp only at c0 c1 c2 HTK
      obtain ⟨wB, hwB⟩ : ∃ wB, wB = wr.alloc (.cells #[.int .i64 A, .int .i64 C, .int .i64 K] 75) := ⟨_, rfl⟩
      have cB : Cb16 wr #[.int .i64 A, .int .i64 C, .int .i64 K] 75 wB := by rw [hwB]; exact cb16 _ _ _
      have BB : Below w.heap.size w wB := hP.bl.trans (cB.bl.mono hP.bl.size)
      obtain ⟨p, cc, hv⟩ := own_sl17 hP.own
      have kB : Kp (fun _ => False) wr wB := Kp.of_below cB.bl
      obtain ⟨g, rc, w', hr, ow, k1, at1⟩ := appr17 wB (A, C, K) (own_kp16 hP.own kB (fun _ _ x => x)) (by omega) BB.size
      simp only at hr ow
      have q3B := kB.heap hP.q3 (fun x => x)
      have q3' := k1.heap q3B (fun e => (hP.nv _ e).1 rfl)
      have qR' := k1.heap (kB.heap hP.qR (fun x => x)) (fun e => (hP.nv _ e).2 rfl)
      have l3 : b3 < wB.heap.size := (Array.getElem?_eq_some_iff.1 q3B).1
      have lR : bR < wB.heap.size := (Array.getElem?_eq_some_iff.1 (kB.heap hP.qR (fun x => x))).1
      have hgn : g ≠ b3 ∧ g ≠ bR := by
        rcases at1 with y | y
        · exact hP.nv g y
        · exact ⟨by omega, by omega⟩
      have ks : Kp (fun j => j = b3) w' (w'.setCell ⟨b3, 0, none⟩ (.slice (some ⟨g, 0, none⟩) (i + 1) rc)) := Kp.set (S := fun j => j = b3) rfl _
      have B1 : Below w.heap.size w w' := BB.trans (k1.below (fun k x => (hP.own.lt k x).1) BB.size)
      have HN : Hid (Pl17 w b3 bR (.slice da m dc) (.slice xa k xc) (.slice (some ⟨g, 0, none⟩) (i + 1) rc) S (i + 1) (w'.setCell ⟨b3, 0, none⟩ (.slice (some ⟨g, 0, none⟩) (i + 1) rc))) := by
        refine ⟨three_set0 q3' _, ks.heap qR' (fun e => hlt.2.2.1 e.symm), ?_, ?_, B1.trans (ks.below (fun j x => by have x : j = b3 := x; omega) B1.size)⟩
        · rw [HTK.out]
          exact own_kp16 ow ks (fun x e y => by
            have e : some g = some x := e
            injection e with e
            exact hgn.1 (e.trans y))
        · intro x e
          have e : some g = some x := e
          injection e with e
          subst e
          exact hgn
      have d0 := three_cell0 q3B
      have d1 := three_cell0 q3'
      have f1 := three_free q3' 0
      rw [cB.sz, hwB] at hr
      rw [hwB] at d0
      subst hv
      clear ow k1 at1 hT hwB cB BB HTK hP kB q3B q3' qR' ks B1 hgn
      go_wp2_with (first | (at_builtin; refine wpList_app17 rfl (.tmp 19) (.tmp 27) 23 rfl rfl rfl hr ?_))
      go_roundw
      case rel => exact ⟨i + 1, _, by omega, by simp, HN.out⟩
      case measure => simp [intOf]; omega
    · have hk2 : i = n := by omega
      subst hk2
      have hneg : ¬ (i : Int) < (i : Int) := by omega
      obtain ⟨p, cc, hv⟩ := own_sl17 hP.own
      subst hv
      have d0 := three_cell0 hP.q3
      have d1 := three_cell1 hP.q3
      have d2 := three_cell2 hP.q3
      have r0 := three_cell0 hP.qR
      have r1 := three_cell1 hP.qR
      have r2 := three_cell2 hP.qR
      have f0 := three_free hP.qR 0
      have f1 := three_free hP.qR 1
      have f2 := three_free hP.qR 2
      have HP : Hid (Pl17 w b3 bR (.slice da m dc) (.slice xa k xc) (.slice p i cc) S i wr) := hP
      clear hP
      go_wp2_with fail
      obtain ⟨F, hF⟩ : ∃ F, F = ((wr.setCell ⟨bR, 0, none⟩ (.slice p i cc)).setCell ⟨bR, 1, none⟩ (.slice da m dc)).setCell ⟨bR, 2, none⟩ (.slice xa k xc) := ⟨_, rfl⟩
      have hP := HP.out
      have kF : Kp (fun j => j = bR) wr F := by
        rw [hF]
        exact ((Kp.set (S := fun j => j = bR) rfl _).trans (Kp.set (S := fun j => j = bR) rfl _) (fun _ _ x => x)).trans (Kp.set (S := fun j => j = bR) rfl _) (fun _ _ x => x)
      have qF : F.heap[bR]? = some (.cells #[.slice p i cc, .slice da m dc, .slice xa k xc] 26 (0, 0)) := by rw [hF]; exact three_set2 (three_set1 (three_set0 hP.qR _) _) _
      rw [← hF]
      refine bodyPost_ret (v := .agg #[.slice p i cc, .slice da m dc, .slice xa k xc]) (results_cell_row (fn := Try.f15) (p := 2) (ty := 26) rfl _ _ bR _ _ _ _ rfl qF Try.underlying26 rfl (by kernel_rfl)) rfl ?_
      have h2 : S.take i = S := by rw [← hn.out, List.take_length]
      have h3 := hP.own
      rw [h2] at h3
      refine ⟨_, rfl, ?_, hP.bl.trans (kF.below (fun j x => by have x : j = bR := x; omega) hP.bl.size)⟩
      rw [hn.out]
      exact own_kp16 h3 kF (fun x e y => (hP.nv x e).2 y)
end Go.Proofs.Ytcgaembnibnglaa
