import Derived.Test.YtaipfcfmhdigfaaPag
import Derived.Deep.AppendLies
import Derived.Deep.RegionLaw
namespace Go.Proofs.Ytaipfcfmhdigfaa
open Go.RowKit
set_option linter.unusedVariables false

theorem info_int7 : (Try.prog.info? 3).map (fun i => (i.zero, i.size, i.bytes)) = some (some (.int .i64 0), 1, 8) := by kernel_rfl
/-- One more place is seen. -/
theorem Chn.push {w w3 w4 : World} {B b m : Nat} {oa : Option Addr} {oc : Nat} {D : List Int} {a : Option Addr} {n cap : Nat} {win ch : Int} {lz : Bool} {s : Nat} (h : Chn w B b m oa oc D a n cap win ch lz s) {o : Obj} {gg cap2 : Nat}
    (b3 : Below w.heap.size w w3) (own4 : w4.ownsRow B 3 1 (.slice (some ⟨gg, 0, none⟩) (s + 1) cap2) (s + 1) ((prvs7 D s).map (Value.int .i64) ++ [.int .i64 (prv7 D s)])) (hg : (w3.alloc o).grownBy w4 (Value.slice oa s oc).ownBlock) (hat : (Value.slice oa s oc).ownBlock = some gg ∨ gg = w3.heap.size + 1) (hlt : gg < w4.heap.size) :
    let w5 := w4.setCell ⟨b, 5, none⟩ (.slice (some ⟨gg, 0, none⟩) (s + 1) cap2)
    Six w5 b (.slice a n cap) (.int .i64 win) (.int .i64 ch) (.bool lz) (.map (some m)) (.slice (some ⟨gg, 0, none⟩) (s + 1) cap2) 94 ∧ MapK w5 m s (lst7 D s) ∧ Below B w w5 ∧ w5.ownsRow B 3 1 (.slice (some ⟨gg, 0, none⟩) (s + 1) cap2) (s + 1) ((prvs7 D (s + 1)).map (Value.int .i64)) ∧ gg ≠ b ∧ gg ≠ m ∧
    ∀ k, k < w.heap.size → k ≠ b → (Value.slice oa s oc).ownBlock ≠ some k → w5.heap[k]? = w.heap[k]? := by
  intro w5
  have hbl := h.six.lt
  have hml := h.mp.lt
  have hbs := h.bs
  have hmne : (Value.slice oa s oc).ownBlock ≠ some m := by
    intro e
    rcases h.own.2 with ⟨e2, _⟩ | ⟨g, cp, cur, e2, _, e3, _⟩
    · rw [e2] at e; simp [Value.ownBlock] at e
    · rw [e2] at e
      simp [Value.ownBlock] at e
      subst e
      obtain ⟨D', ⟨es, cl, e4, _⟩, _⟩ := h.mp
      rw [e3] at e4
      cases e4
  have hrow : ∀ k, (Value.slice oa s oc).ownBlock = some k → B ≤ k ∧ k < w.heap.size := fun k e => h.own.lt k e
  have hs3 := b3.size
  have hgb : gg ≠ b := by
    rcases hat with e | e
    · intro e2; subst e2; exact h.ne e
    · omega
  have hgm : gg ≠ m := by
    rcases hat with e | e
    · intro e2; subst e2; exact hmne e
    · omega
  have hblk : ∀ k, k < w.heap.size → (Value.slice oa s oc).ownBlock ≠ some k → w4.heap[k]? = w.heap[k]? := fun k hk hne => by
    rw [hg.block k (by simp; omega) (Ne.symm hne), Below.heap_alloc _ _ _ (by omega)]
    exact b3.block k hk
  have hset : ∀ k, k ≠ b → w5.heap[k]? = w4.heap[k]? := fun k hk => Below.heap_setCell _ _ _ _ hk
  have s4 : Six w4 b (.slice a n cap) (.int .i64 win) (.int .i64 ch) (.bool lz) (.map (some m)) (.slice oa s oc) 94 := ⟨(hblk b hbl h.ne).trans h.six.hp⟩
  have hmb : m ≠ b := by
    intro e
    subst e
    obtain ⟨D', ⟨es, cl, e4, _⟩, _⟩ := h.mp
    rw [h.six.hp] at e4
    cases e4
  have own5 : w5.ownsRow B 3 1 (.slice (some ⟨gg, 0, none⟩) (s + 1) cap2) (s + 1) ((prvs7 D (s + 1)).map (Value.int .i64)) := by
    rw [prvs7_succ, List.map_append]
    refine own_kp own4 (Kp.set (S := fun j => j = b) rfl _) (fun j e1 e2 => ?_)
    cases e1
    exact hgb e2
  refine ⟨s4.set5 _, h.mp.block ((hset m hmb).trans (hblk m hml hmne)), ?_, own5, hgb, hgm, fun k h1 h2 h3 => (hset k h2).trans (hblk k h1 h3)⟩
  have hb3 : Below B w w3 := ⟨b3.os, b3.tape, b3.output, b3.size, fun k hk => b3.block k (by omega)⟩
  have hba : Below B w (w3.alloc o) := hb3.alloc (by omega) _
  have hb4 : Below B w w4 := hba.grown hg (by have := hba.size; omega) (fun j hj => (hrow j hj).1)
  exact hb4.setCell (p := ⟨b, 5, none⟩) h.bb _
/-- What a chain may write: its own block, its map, its row. -/
def CS (b m : Nat) (v : Value) : Nat → Prop := fun k => k = b ∨ k = m ∨ v.ownBlock = some k
theorem Fresh.refl7 (w : World) (v : Value) : Fresh w v v := fun k e => .inl e
theorem Fresh.trans7 {w wr : World} {v v1 v2 : Value} (h : Fresh w v v1) (k : Fresh wr v1 v2) (hs : w.heap.size ≤ wr.heap.size) : Fresh w v v2 := by
  intro j e
  rcases k j e with e | e
  · exact h j e
  · exact .inr (by omega)
theorem cs_back {w : World} {b m j : Nat} {v v1 : Value} (h : Fresh w v v1) (hj : j < w.heap.size) (e : CS b m v1 j) : CS b m v j := by
  rcases e with e | e | e
  · exact .inl e
  · exact .inr (.inl e)
  · rcases h j e with e | e
    · exact .inr (.inr e)
    · omega
theorem Chn.cs {w : World} {B b m : Nat} {oa : Option Addr} {oc : Nat} {D : List Int} {a : Option Addr} {n cap : Nat} {win ch : Int} {lz : Bool} {s : Nat} (h : Chn w B b m oa oc D a n cap win ch lz s) : ∀ k, CS b m (.slice oa s oc) k → B ≤ k ∧ k < w.heap.size := by
  rintro k (rfl | rfl | e)
  · exact ⟨h.bb, h.six.lt⟩
  · exact ⟨h.bm, h.mp.lt⟩
  · exact h.own.lt k e
set_option maxRecDepth 100000 in
set_option maxHeartbeats 4000000 in
theorem psee7 (B b m : Nat) (oa : Option Addr) (oc : Nat) (D : List Int) (a : Option Addr) (n cap : Nat) (win ch : Int) (lz : Bool) (s p : Nat) (hn : Hid (D.length = n)) (w : World) (h : Chn w B b m oa oc D a n cap win ch lz s) (hp : p + 2 < n) (hl : n ≤ 1073741824) :
    Calls Try.prog 44 #[.pointer (some ⟨b, 0, none⟩), .int .i64 (p : Int)] w fun e w' => e = .returned (.tuple #[]) ∧ (∃ oa' oc', Chn w' B b m oa' oc' D a n cap win ch lz (max s p) ∧ Fresh w (.slice oa s oc) (.slice oa' (max s p) oc')) ∧ Kp (CS b m (.slice oa s oc)) w w' := by
  obtain ⟨i0, hi, hz0, hz1, hz2⟩ := info_parts info_int7
  obtain ⟨c0, c1, c2, c3, c4, c5⟩ := h.six.cells
  have HH : Hid (Chn w B b m oa oc D a n cap win ch lz s) := h
  clear h
  go_enter Try.func44, Try.ntmps44
  go_wp2_with fail
  go_loopw [4] (fun ti wr => ∃ (i : Nat) (oa' : Option Addr) (oc' : Nat), s ≤ i ∧ i ≤ max s p ∧ ti = .int .i64 (i : Int) ∧ Chn wr B b m oa' oc' D a n cap win ch lz i ∧ Fresh w (.slice oa s oc) (.slice oa' i oc') ∧ Kp (CS b m (.slice oa s oc)) w wr) (fun ti _ => max s p - (intOf ti).toNat)
  case atStart => exact ⟨s, oa, oc, by omega, by omega, rfl, HH.out, Fresh.refl7 _ _, Kp.refl _ _⟩
  case round =>
    clear HH c0 c1 c2 c3 c4 c5
    obtain ⟨i, qa, qc, hsi, hip, rfl, hC, FR, BR⟩ := hrel
    by_cases hlt : i < p
    · have hlti : (i : Int) < (p : Int) := by omega
      have CK := pkey7 D a n cap i hn wr hC.seg (by omega) (by omega)
      have bx := hC.seg.bd i
      have byy := hC.seg.bd (i + 1)
      have bz := hC.seg.bd (i + 2)
      obtain ⟨c0, c1, c2, c3, c4, c5⟩ := hC.six.cells
      have HPV : Hid (prv7 D i = lst7 D i (D.getD i 0) (D.getD (i + 1) 0) (D.getD (i + 2) 0)) := rfl
      have HST : Hid (lst7 D (i + 1) = fun x' y' z' => if x' = D.getD i 0 ∧ y' = D.getD (i + 1) 0 ∧ z' = D.getD (i + 2) 0 then (i : Int) else lst7 D i x' y' z') := rfl
      have hpb := lst7_bd D (D.getD i 0) (D.getD (i + 1) 0) (D.getD (i + 2) 0) i
      generalize D.getD i 0 = x at *
      generalize D.getD (i + 1) 0 = y at *
      generalize D.getD (i + 2) 0 = z at *
      have HC : Hid (Chn wr B b m qa qc D a n cap win ch lz i) := hC
      have hbw := hC.six.lt
      clear hC
      go_wp2_with fail
      refine CK.mono ?_
      rintro e w1 ⟨rfl, b1⟩
      have hC1 := (show Chn wr B b m qa qc D a n cap win ch lz i from HC.out).kp b1
      have bA : Below w1.heap.size w1 (w1.alloc (.cells #[.int .u8 x, .int .u8 y, .int .u8 z] 97)) := below_box _ _
      have hCX := hC1.kp bA
      have hKX := heap_alloc_new w1 (.cells #[.int .u8 x, .int .u8 y, .int .u8 z] 97)
      have hszX : w1.heap.size < (w1.alloc (.cells #[.int .u8 x, .int .u8 y, .int .u8 z] 97)).heap.size := by simp
      have hbo : b < w1.heap.size := hC1.six.lt
      have hro : ∀ k, (Value.slice qa i qc).ownBlock = some k → k < w1.heap.size := fun k e => (hC1.own.lt k e).2
      have BX : Below wr.heap.size wr (w1.alloc (.cells #[.int .u8 x, .int .u8 y, .int .u8 z] 97)) := by
        exact b1.trans (bA.mono b1.size)
      obtain ⟨wX, hwX⟩ : ∃ wX, wX = w1.alloc (.cells #[.int .u8 x, .int .u8 y, .int .u8 z] 97) := ⟨_, rfl⟩
      obtain ⟨ob, hob⟩ : ∃ ob, ob = w1.heap.size := ⟨_, rfl⟩
      have HWX : Hid (wX = w1.alloc (.cells #[.int .u8 x, .int .u8 y, .int .u8 z] 97)) := hwX
      have HOB : Hid (ob = w1.heap.size) := hob
      rw [← hwX] at hCX hKX BX
      rw [← hwX, ← hob] at hszX
      rw [← hob] at hKX hbo hro
      have hneb : b ≠ ob := by omega
      have hneo : (Value.slice qa i qc).ownBlock ≠ some ob := fun e => by have := hro ob e; omega
      have HNO : Hid ((Value.slice qa i qc).ownBlock ≠ some ob) := hneo
      have HNB : Hid ((Value.slice qa i qc).ownBlock ≠ some b) := hCX.ne
      have hbX : b < wX.heap.size := by omega
      have k0 : wX.cell? ⟨ob, 0, none⟩ = some (.int .u8 x) := three_cell0 hKX
      have k1 : wX.cell? ⟨ob, 1, none⟩ = some (.int .u8 y) := three_cell1 hKX
      have k2 : wX.cell? ⟨ob, 2, none⟩ = some (.int .u8 z) := three_cell2 hKX
      obtain ⟨d0, d1, d2, d3, d4, d5⟩ := hCX.six.cells
      have hfr := hCX.six.free 5
      have HCX : Hid (Chn wX B b m qa qc D a n cap win ch lz i) := hCX
      have HKX : Hid (wX.heap[ob]? = some (.cells #[.int .u8 x, .int .u8 y, .int .u8 z] 97 (0, 0))) := hKX
      have CL := plast7 b m i (lst7 D i) x y z bx byy bz wX.drew d4 (hCX.drew).mp
      have HOW : Hid (∀ W, Below wX.heap.size wX W → W.ownsRow B 3 1 (.slice qa i qc) i ((prvs7 D i).map (Value.int .i64))) := fun W hW => own_below hCX.own hW
      have hBX := hCX.bs
      clear hwX hob hC1 hCX hKX CK HC c0 c1 c2 c3 c4 c5 d0 d1 d2 d3 d4 hneo bA
      generalize lst7 D i x y z = pv at *
      go_wp2_with fail
      rw [← HWX.out, ← HOB.out]
      go_region_law
        (first
          | (go_simp
             go_at_call 45
             refine CL.mono ?_
             rintro e w3 ⟨rfl, b3⟩
             have b3 : Below wX.heap.size wX w3 := ⟨b3.os, b3.tape, b3.output, b3.size, b3.block⟩
             have own3 := HOW.out w3 b3
             have q5 := (b3.cell (p := ⟨b, 5, none⟩) hbX).trans d5
             have qf := (b3.frozen (p := ⟨b, 5, none⟩) hbX).trans hfr
             have h3s := b3.size
             have q5a : ∀ o, (w3.alloc o).cell? ⟨b, 5, none⟩ = some (.slice qa i qc) := fun o => (((Below.refl w3.heap.size w3).alloc (Nat.le_refl _) o).cell (p := ⟨b, 5, none⟩) (show b < w3.heap.size by omega)).trans q5
             go_wp2_with fail)
          | (refine step_append_lies _ (by rfl) _ _ _ (by rfl) B 3 i0 _ 1 8 Try.underlying89 hi hz0 hz1 hz2 rfl (by omega) (.slice qa i qc) i ((prvs7 D i).map (Value.int .i64)) (by rfl) (own3.alloc _)
               ⟨w3.heap.size, 0, none⟩ 1 1 [.int .i64 pv] (by rfl) (by rfl) (World.news_of_block (cs := #[.int .i64 pv]) (t := 3) (fr := (0, 0)) (heap_alloc_new w3 _)) (by simp [Value.oneCell'])
               (by omega) (by unfold maxLen; omega) (by omega) (by simp; omega) (w3.heap.size + 1) (by simp) ?_
             intro gg cap2 w4 own4 hgrow hat hlt4
             have t5 := (hgrow.cell_far ⟨b, 5, none⟩ (by simp; omega) (Ne.symm HNB.out)).trans ((((Below.refl w3.heap.size w3).alloc (Nat.le_refl _) _).cell (p := ⟨b, 5, none⟩) (show b < w3.heap.size by omega)).trans q5)
             have tf := (hgrow.frozen_far ⟨b, 5, none⟩ (by simp; omega) (Ne.symm HNB.out)).trans ((((Below.refl w3.heap.size w3).alloc (Nat.le_refl _) _).frozen (p := ⟨b, 5, none⟩) (show b < w3.heap.size by omega)).trans qf)))
      all_goals
        have hpu := (show Chn wX B b m qa qc D a n cap win ch lz i from HCX.out).push b3 (by rw [HPV.out]; exact own4) hgrow hat hlt4
        have hk5 : (w4.setCell ⟨b, 5, none⟩ (.slice (some ⟨gg, 0, none⟩) (i + 1) cap2)).heap[ob]? = some (.cells #[.int .u8 x, .int .u8 y, .int .u8 z] 97 (0, 0)) := (hpu.2.2.2.2.2.2 ob hszX (Ne.symm hneb) HNO.out).trans HKX.out
        have F5 : Fresh wX (.slice qa i qc) (.slice (some ⟨gg, 0, none⟩) (i + 1) cap2) := fun k e => by
          have e2 : gg = k := by simpa [Value.ownBlock] using e
          rcases hat with h | h
          · left; rw [← e2]; exact h
          · right; omega
        clear t5 tf q5 qf q5a own3 b3 h3s own4 hgrow hat hlt4 CL HOW
        generalize w4.setCell ⟨b, 5, none⟩ (.slice (some ⟨gg, 0, none⟩) (i + 1) cap2) = w5 at *
        obtain ⟨s5, m5, b5, o5, hgb, hgm, hbk⟩ := hpu
        obtain ⟨f0, f1, f2, f3, f4, f5⟩ := s5.cells
        have j0 := three_cell0 hk5
        have j1 := three_cell1 hk5
        have j2 := three_cell2 hk5
        obtain ⟨w6, hr6, m6, g6⟩ := (m5.block (w' := w5.drew) rfl).store (by unfold maxLen; omega) bx byy bz i (by omega)
        have HN6 : Hid (Chn w6 B b m (some ⟨gg, 0, none⟩) cap2 D a n cap win ch lz (i + 1)) := by
          have hC := (show Chn wX B b m qa qc D a n cap win ch lz i from HCX.out)
          have hb6 : ∀ k, k < w5.heap.size → k ≠ m → w6.heap[k]? = w5.heap[k]? := fun k h1 h2 => g6.block k h1 (fun e => h2 (by cases e; rfl))
          have hmb : m ≠ b := by
            intro e
            obtain ⟨D', ⟨es, cl, e4, _⟩, _⟩ := hC.mp
            rw [e, hC.six.hp] at e4
            cases e4
          refine ⟨⟨(hb6 b s5.lt (Ne.symm hmb)).trans s5.hp⟩, ?_, by rw [HST.out]; exact m6, ?_, ?_, hC.bm, hC.bb, hC.old⟩
          · refine own_kp (w := w5.drew) o5 (Kp.grown (S := fun j => j = m) g6 (fun j e => by cases e; rfl)) (fun j e1 e2 => ?_)
            cases e1
            exact hgm e2
          · have hb : Below B wX w6 := b5.trans ⟨g6.os, g6.tape, g6.output, g6.size, fun k hk => hb6 k (Nat.lt_of_lt_of_le hk (Nat.le_trans hBX b5.size)) (by have := hC.bm; omega)⟩
            exact hC.seg.below hb hC.old
          · intro e
            cases e
            exact hgb rfl
        have B6 : Kp (CS b m (.slice oa s oc)) w w6 := by
          have h1 : Kp (CS b m (.slice oa s oc)) w wX := BR.trans (Kp.of_below (S := CS b m (.slice oa s oc)) BX) (fun _ _ e => e)
          have h2 : Kp (CS b m (.slice qa i qc)) wX w5 := ⟨b5.os, b5.tape, b5.output, b5.size, fun k hk hno => hbk k hk (fun e => hno (.inl e)) (fun e => hno (.inr (.inr e)))⟩
          have h4 : Kp (CS b m (.slice qa i qc)) w5.drew w6 := Kp.grown (S := CS b m (.slice qa i qc)) g6 (fun k e => by cases e; exact Or.inr (Or.inl rfl))
          have h3 : Kp (CS b m (.slice qa i qc)) w5 w6 := ⟨h4.os, h4.tape, h4.output, h4.size, h4.block⟩
          have F2 : Fresh w (.slice oa s oc) (.slice qa i qc) := FR
          exact (h1.trans h2 (fun k hk e => cs_back F2 hk e)).trans h3 (fun k hk e => cs_back F2 hk e)
        have F6 : Fresh w (.slice oa s oc) (.slice (some ⟨gg, 0, none⟩) (i + 1) cap2) := FR.trans7 F5 (Nat.le_trans BR.size BX.size)
        clear hk5 s5 m5 o5 hbk m6 g6
        go_wp2
        go_region
        all_goals go_wp2
        all_goals go_roundw
        case rel => exact ⟨i + 1, _, cap2, by omega, by omega, by go_num, HN6.out, F6, B6⟩
        case measure => simp [intOf]; omega
    · have hge : ¬ (i : Int) < (p : Int) := by omega
      have HI : Hid (i = max s p) := by show _ = _; omega
      go_wp2_with fail
      go_end0
      exact ⟨rfl, ⟨qa, qc, by rw [← HI.out]; exact ⟨hC, FR⟩⟩, BR⟩
end Go.Proofs.Ytaipfcfmhdigfaa
