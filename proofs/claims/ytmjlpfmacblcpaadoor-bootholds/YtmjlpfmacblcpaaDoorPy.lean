import Derived.Test.YtmjlpfmacblcpaaDoorPw
import Derived.Test.YtmjlpfmacblcpaaDoorPv
import Derived.Test.YtmjlpfmacblcpaaDoorPx
import Derived.Test.YtmjlpfmacblcpaaDoorPs
import Derived.Deep.CutRange
import Derived.Deep.CutBlock
namespace Go.Proofs.YtmjlpfmacblcpaaDoor
open Go.RowKit Go.Shelf
set_option linter.unusedVariables false
set_option linter.unusedSimpArgs false
theorem and1_25 (n : Int) : bits .and .i64 n 1 = 0 ∨ bits .and .i64 n 1 = 1 := by
  have h : bits .and .i64 n 1 = IntKind.i64.wrap (((BitVec.ofInt 64 n &&& BitVec.ofInt 64 1).toNat : Nat) : Int) := rfl
  have h1 : (BitVec.ofInt 64 n &&& BitVec.ofInt 64 1).toNat = (BitVec.ofInt 64 n).toNat % 2 := by
    rw [BitVec.toNat_and]
    exact Nat.and_one_is_mod _
  rw [h, h1]
  rcases Nat.mod_two_eq_zero_or_one (BitVec.ofInt 64 n).toNat with e | e <;> rw [e]
  · exact .inl (by decide)
  · exact .inr (by decide)
/-- The flash, and the record that was last written, in its box. -/
structure Ho25 (w V : World) (f bl : Nat) (F : Nat → Prop) (S : Fs21) (last : Rc25) : Prop where
  fl : Fl21 V f F S
  fN : ∀ k, F k → w.heap.size ≤ k
  box : V.heap[bl]? = some (.cells last.cs 63 (0, 0))
  nb : ¬ F bl
  bw : w.heap.size ≤ bl
  below : Below w.heap.size w V
theorem Ho25.old {w V W : World} {f bl : Nat} {F : Nat → Prop} {S : Fs21} {last : Rc25} (h : Ho25 w V f bl F S last) (hb : Below V.heap.size V W) : Ho25 w W f bl F S last :=
  ⟨h.fl.old hb, h.fN, (hb.block _ (Array.getElem?_eq_some_iff.1 h.box).1).trans h.box, h.nb, h.bw, h.below.trans (hb.mono h.below.size)⟩
theorem Ho25.fn {w V W : World} {f bl : Nat} {F : Nat → Prop} {S S2 : Fs21} {last : Rc25} (h : Ho25 w V f bl F S last) (hn : Fn21 V W f F S2) : ∃ F2, Ho25 w W f bl F2 S2 last ∧ Kp F V W ∧ (∀ k, k < V.heap.size → ¬ F k → ¬ F2 k) := by
  obtain ⟨F2, h1, h2, h3⟩ := hn
  have hl := (Array.getElem?_eq_some_iff.1 h.box).1
  have hs := h.below.size
  exact ⟨F2, ⟨h1, fun k e => by rcases h2 k e with q | q; (exact h.fN k q); omega, (h3.block bl hl h.nb).trans h.box, fun e => by rcases h2 bl e with q | q; (exact h.nb q); omega, h.bw, h.below.trans (h3.below h.fN hs)⟩, h3, fun k hk hn e => by rcases h2 k e with q | q; (exact hn q); omega⟩
/-- The box is written over. -/
theorem Ho25.set {w V : World} {f bl : Nat} {F : Nat → Prop} {S : Fs21} {last : Rc25} (h : Ho25 w V f bl F S last) (r : Rc25) : Ho25 w (V.setRow bl r.cs) f bl F S r := by
  have hk := kp_row25 V bl r.cs
  exact ⟨h.fl.kp (fun k e => hk.block k (Fl21.lts25 h.fl k e) (fun q => h.nb (by have q' : k = bl := q; rw [← q']; exact e))) hk.size, h.fN, set_row25 h.box, h.nb, h.bw, below_row25 h.below h.bw _⟩
/-- A block of one's own is written over. -/
theorem Ho25.own {w V : World} {f bl g : Nat} {F : Nat → Prop} {S : Fs21} {last : Rc25} (h : Ho25 w V f bl F S last) (hg : ¬ F g) (hb : g ≠ bl) (hw : w.heap.size ≤ g) (cs : Array Value) : Ho25 w (V.setRow g cs) f bl F S last := by
  have hk := kp_row25 V g cs
  exact ⟨h.fl.kp (fun k e => hk.block k (Fl21.lts25 h.fl k e) (fun q => hg (by have q' : k = g := q; rw [← q']; exact e))) hk.size, h.fN, (old_row25 cs (fun e => hb e.symm)).trans h.box, h.nb, h.bw, below_row25 h.below hw _⟩
theorem rdE_page25 {S : Fs21} (hon : S.on = true) (hpg : S.pg = 64) (hps : S.ps = 1) (k : Nat) (hk : k ≤ 1) : rdE21 S 2 ((64 * k : Nat) : Int) 64 = 0 := by
  unfold rdE21 sz21 pn21
  rw [if_neg (by rw [hon]; decide), hpg, hps]
  rcases (show k = 0 ∨ k = 1 by omega) with rfl | rfl <;> decide
set_option maxRecDepth 100000 in
set_option maxHeartbeats 64000000 in
theorem bootHolds_walk (w : World) (ht : Tab w) (a1 : Option Addr) (len cap1 : Nat) (O : Nat → Rc25) (hO : Rw25 10 w a1 len (fun i => (O i).cs.toList)) (fO : ∀ i, i < len → (O i).wd) (hlen : len ≤ 1759218604400) (n : Int) (hn0 : -9223372036854775808 ≤ n) (hn1 : n ≤ 9223372036854775807)
    (ta : Option Addr) (L : List Int) (tc : Nat) (hs : Seg w ta L) (hc : L.length ≤ tc) (hz : ta = none → tc = 0) (hl : L.length ≤ 140737488351232) :
    Calls Tryd.prog 5 #[.slice a1 len cap1, .int .i64 n, .slice ta L.length tc] w fun e w' => e = .returned (.bool true) ∧ Below w.heap.size w w' := by
  have HT : Hid (∀ V, Below w.heap.size w V → Tab V) := fun V hV => ht.old hV
  have HO : Hid (∀ V, Below w.heap.size w V → Rw25 10 V a1 len (fun i => (O i).cs.toList)) := fun V hV => hO.old hV
  have HLN : Hid (len ≤ 1759218604400 ∧ ∀ i, i < len → (O i).wd) := ⟨hlen, fO⟩
  have HFM : Hid (∀ (x : Rc25) W, Calls Tryd.prog 24 #[.agg x.cs] W fun e w' => e = .returned (.agg x.cs) ∧ Below W.heap.size W w') := fun x W => pfc25 x W
  have HCK : Hid (∀ (r : Rc25) W, Calls Tryd.prog 25 #[.agg r.cs] W fun e w' => e = .returned (.int .i64 (ck25 r)) ∧ Below W.heap.size W w') := fun r W => rcheck25 r W
  have HLV : Hid (∀ W, Below w.heap.size w W → Calls Tryd.prog 22 #[] W fun e w' => e = .returned (.bool true) ∧ Below W.heap.size W w') := fun W hW => plives25 W (HT.out W hW)
  have hbr : Hid (∀ (x : Rc25) W, (binOp .neq 63 (.agg x.cs) (.agg x.cs)).run Tryd.prog W = .ok (.bool false) W) := fun x W => by rw [bnr25, decide_eq_true rfl]; rfl
  have hber : Hid (∀ (x : Rc25) W, (binOp .eql 63 (.agg x.cs) (.agg x.cs)).run Tryd.prog W = .ok (.bool true) W) := fun x W => by rw [ber25, decide_eq_true rfl]
  have hbn : Hid (∀ (x y : Rc25) W, (binOp .neq 63 (.agg x.cs) (.agg y.cs)).run Tryd.prog W = .ok (.bool (!decide (x = y))) W) := fun x y W => bnr25 x y W
  obtain ⟨tl, htl⟩ : ∃ t, t = L.length := ⟨_, rfl⟩
  rw [← htl]
  have HTN : Hid (Seg w ta L ∧ tl ≤ tc ∧ (ta = none → tc = 0) ∧ tl ≤ 140737488351232 ∧ L.length = tl) := ⟨hs, by omega, hz, by omega, htl.symm⟩
  have HNW := pnew21 (w := w) 64 1 0 (by unfold In21; omega) (by unfold In21; omega) none none [] [] 0 0 0 0 (SegK.nil (by decide) _ _) (SegK.nil (by decide) _ _) rfl rfl (Nat.le_refl _) (Nat.le_refl _)
  unfold NwQ21 at HNW
  rw [show nwE21 64 1 0 ([] : List Int).length ([] : List Int).length = 0 by decide] at HNW
  clear ht hO fO hlen hs hc hz hl htl
  go_enter Tryd.func5, Tryd.ntmps5
  go_wp2_with fail
  refine HNW.mono ?_
  rintro e w1 ⟨b1, h1⟩
  rcases h1 with ⟨h, -⟩ | ⟨-, f, F, rfl, hF, hFN⟩
  · cases h
  have H1 : Hid (Below w.heap.size w w1 ∧ Fl21 w1 f F (nw21 64 1 0 [] []) ∧ (∀ k, F k → w.heap.size ≤ k)) := ⟨b1, hF, hFN⟩
  obtain ⟨bl, hbl⟩ : ∃ b, b = w1.heap.size := ⟨_, rfl⟩
  obtain ⟨w2, hw2⟩ : ∃ x, x = w1.alloc (.cells #[.int .i64 0, .int .i64 0, .int .i64 0, .int .i64 0, .int .u32 0, .int .i64 0, .int .i64 0, .int .i64 0, .int .u32 0, .int .i64 0] 63) := ⟨_, rfl⟩
  have HW2 : Hid (w1.alloc (.cells #[.int .i64 0, .int .i64 0, .int .i64 0, .int .i64 0, .int .u32 0, .int .i64 0, .int .i64 0, .int .i64 0, .int .u32 0, .int .i64 0] 63) = w2 ∧ w1.heap.size = bl) := ⟨hw2.symm, hbl.symm⟩
  have b2 : Below w1.heap.size w1 w2 := by rw [hw2]; exact (Below.refl _ _).alloc (Nat.le_refl _) _
  have H2 : Hid (Ho25 w w2 f bl F (nw21 64 1 0 [] []) zr25) := ⟨hF.old b2, hFN, by rw [hw2, hbl]; exact heap_alloc_new _ _, fun e => by have := Fl21.lts25 hF _ e; omega, by rw [hbl]; exact b1.size, b1.trans (b2.mono b1.size)⟩
  clear HNW b1 hF hFN hbl hw2 b2
  go_upto_region 5 with fail
  rw [HW2.out.1, HW2.out.2]
  go_wp2_with fail
  go_loopw [10, 41] (fun t10 t41 wr => ∃ (i : Nat) (wrote : Bool) (last : Rc25) (c tp : Nat) (S : Fs21) (F1 : Nat → Prop), i ≤ len ∧ t10 = .bool wrote ∧ t41 = .int .i64 (i : Int) ∧ c ≤ i ∧ Hid (Ho25 w wr f bl F1 S last ∧ Hi25 S last wrote c tp)) (fun _ t41 _ => len - (intOf t41).toNat)
  case atStart => exact ⟨0, false, zr25, 0, 0, _, F, by omega, rfl, rfl, Nat.le_refl _, H2.out, hi_new25⟩
  case round =>
    obtain ⟨i, wrote, last, c, tp, S, F1, hin, rfl, rfl, hci, hH⟩ := hrel
    by_cases hi : i < len
    · as_aux_lemma =>
      have hii : (i : Int) < (len : Int) := by omega
      have hiw : IntKind.i64.wrap ((i : Int) + 1) = ((i + 1 : Nat) : Int) := by rw [IntWalk.i64_in _ (by have := HLN.out.1; omega)]; omega
      obtain ⟨g, off, hsa, hgl, hrg⟩ := HO.out wr hH.out.1.below i hi
      obtain ⟨r, hr⟩ : ∃ r, r = O i := ⟨_, rfl⟩
      have hrwd := HLN.out.2 i hi
      simp only at hrg
      rw [← hr] at hrg hrwd
      have HRG : Hid (wr.rangeAt g (off + i * 10) r.cs.toList) := hrg
      have HRW : Hid (r.wd ∧ c ≤ 2000000000000 ∧ c ≤ i) := ⟨hrwd, by have := HLN.out.1; omega, hci⟩
      have HSA : Hid (a1 = some ⟨g, off, none⟩) := hsa
      subst hsa
      obtain ⟨gc, hgc⟩ : ∃ x, x = wr.heap.size := ⟨_, rfl⟩
      obtain ⟨w5, hw5⟩ : ∃ x, x = (wr.alloc (.cells #[.int .i64 0, .int .i64 0, .int .i64 0, .int .i64 0, .int .u32 0, .int .i64 0, .int .i64 0, .int .i64 0, .int .u32 0, .int .i64 0] 52)).setRow wr.heap.size r.cs := ⟨_, rfl⟩
      have HW5 : Hid ((wr.alloc (.cells #[.int .i64 0, .int .i64 0, .int .i64 0, .int .i64 0, .int .u32 0, .int .i64 0, .int .i64 0, .int .i64 0, .int .u32 0, .int .i64 0] 52)).setRow wr.heap.size r.cs = w5 ∧ wr.heap.size = gc) := ⟨hw5.symm, hgc.symm⟩
      have b5 : Below wr.heap.size wr w5 := by rw [hw5]; exact below_row25 ((Below.refl _ _).alloc (Nat.le_refl _) _) (Nat.le_refl _) _
      have hsz := hH.out.1.below.size
      have H5 : Hid (Ho25 w w5 f bl F1 S last ∧ Hi25 S last wrote c tp ∧ w5.heap[gc]? = some (.cells r.cs 52 (0, 0)) ∧ ¬ F1 gc ∧ gc ≠ bl ∧ w.heap.size ≤ gc) := ⟨hH.out.1.old b5, hH.out.2, by rw [hw5, hgc]; exact set_row25 (heap_alloc_new _ _), fun e => by have := Fl21.lts25 hH.out.1.fl _ e; omega, fun e => by have := (Array.getElem?_eq_some_iff.1 hH.out.1.box).1; omega, by omega⟩
      clear hrg hgl hr hrwd hgc hw5 b5 hsz hH hci
      go_upto_region 9 with (first | refine wpList_ldR25 rfl 52 (.tmp 43) rfl g (off + i * 10) rfl r _ HRG.out Tryd.underlying52 rfl info_rc25d ?_ | refine wpList_store_row rfl 52 (.tmp 12) (.tmp 44) rfl wr.heap.size r.cs rfl rfl _ _ (heap_alloc_new wr _) info_rc25d rfl (row_rc25 r) ?_)
      rw [HW5.out.1, HW5.out.2]
      go_wp2_with (refine wpList_load_row rfl 52 (.tmp 12) rfl gc rfl _ r.cs _ _ H5.out.2.2.1 Tryd.underlying52 rfl info_rc25d ?_)
      refine (HFM.out r w5).mono ?_
      rintro e w6 ⟨rfl, b6⟩
      have H6 : Hid (Ho25 w w6 f bl F1 S last ∧ w6.heap[gc]? = some (.cells r.cs 52 (0, 0))) := ⟨H5.out.1.old b6, (b6.block _ (Array.getElem?_eq_some_iff.1 H5.out.2.2.1).1).trans H5.out.2.2.1⟩
      have HWT := pwrite25 H6.out.1.fl H5.out.2.1.ok (HT.out w6 H6.out.1.below) H5.out.2.1.pg H5.out.2.1.ps r HRW.out.1 (by have := H5.out.2.1.lg; have := HRW.out.2.1; omega)
      obtain ⟨r', hr'⟩ : ∃ x : Rc25, x = ⟨(c : Int) + 1, r.g, r.n, r.t⟩ := ⟨_, rfl⟩
      have HR' : Hid (r' = ⟨(c : Int) + 1, r.g, r.n, r.t⟩) := hr'
      by_cases hm : r'.may
      rotate_left
      · have hwr := wr_no25 (r := r) H5.out.2.1 (by rw [← hr']; exact hm)
        rw [hwr] at HWT
        have hck : ck25 ⟨1, r.g, r.n, r.t⟩ = 250 := if_neg (fun h => hm (by
          rw [hr']
          exact ⟨⟨by show (1 : Int) ≤ (c : Int) + 1; omega, by show (c : Int) + 1 ≤ 1152921504606846976; have := HRW.out.2.1; omega⟩, h.2.1, h.2.2.1, h.2.2.2⟩))
        have HC1 : Hid (∀ W, Calls Tryd.prog 25 #[.agg (⟨1, r.g, r.n, r.t⟩ : Rc25).cs] W fun e w' => e = .returned (.int .i64 250) ∧ Below W.heap.size W w') := fun W => by
          have := HCK.out ⟨1, r.g, r.n, r.t⟩ W
          rw [hck] at this
          exact this
        clear hwr hck hm hr' b6
        go_wp2_with fail
        refine HWT.mono ?_
        rintro e w7 ⟨rfl, hfn⟩
        obtain ⟨F2, hf2, hk2, hn2⟩ := H6.out.1.fn hfn
        obtain ⟨w8, hw8⟩ : ∃ x, x = (w7.alloc (.cells #[.int .i64 0, .int .i64 0, .int .i64 0, .int .i64 0, .int .u32 0, .int .i64 0, .int .i64 0, .int .i64 0, .int .u32 0, .int .i64 0] 63)).setRow w7.heap.size zr25.cs := ⟨_, rfl⟩
        have HW8 : Hid ((w7.alloc (.cells #[.int .i64 0, .int .i64 0, .int .i64 0, .int .i64 0, .int .u32 0, .int .i64 0, .int .i64 0, .int .i64 0, .int .u32 0, .int .i64 0] 63)).setRow w7.heap.size zr25.cs = w8) := hw8.symm
        have b8 : Below w7.heap.size w7 w8 := by rw [hw8]; exact below_row25 ((Below.refl _ _).alloc (Nat.le_refl _) _) (Nat.le_refl _) _
        have hg6 := (Array.getElem?_eq_some_iff.1 H6.out.2).1
        have hg7 : w7.heap[gc]? = some (.cells r.cs 52 (0, 0)) := (hk2.block gc hg6 H5.out.2.2.2.1).trans H6.out.2
        have hg8 : w8.heap[gc]? = some (.cells r.cs 52 (0, 0)) := (b8.block gc (Array.getElem?_eq_some_iff.1 hg7).1).trans hg7
        obtain ⟨w9, hw9⟩ : ∃ x, x = w8.setRow gc (⟨1, r.g, r.n, r.t⟩ : Rc25).cs := ⟨_, rfl⟩
        have HW9 : Hid (w8.setRow gc (⟨1, r.g, r.n, r.t⟩ : Rc25).cs = w9) := hw9.symm
        have H9 : Hid (Ho25 w w9 f bl F2 S last ∧ w9.heap[gc]? = some (.cells (⟨1, r.g, r.n, r.t⟩ : Rc25).cs 52 (0, 0)) ∧ w8.heap[gc]? = some (.cells r.cs 52 (0, 0))) := ⟨by rw [hw9]; exact (hf2.old b8).own (hn2 gc hg6 H5.out.2.2.2.1) H5.out.2.2.2.2.1 H5.out.2.2.2.2.2 _, by rw [hw9]; exact set_row25 hg8, hg8⟩
        clear HWT hfn hf2 hk2 hn2 hw8 b8 hg6 hg7 hg8 hw9
        go_upto_region 10 with (refine wpList_store_row rfl 63 (.tmp 13) (.tmp 50) rfl w7.heap.size zr25.cs rfl rfl _ _ (heap_alloc_new w7 _) info_rc25 rfl (row_rc25 zr25) ?_)
        rw [HW8.out]
        go_upto_region 12 with (refine wpList_cell25 rfl 3 (.tmp 54) (.const (.int .i64 1)) rfl gc 0 .i64 1 rfl rfl (cs := r.cs.toList) H9.out.2.2 info_int25 (by show 0 < 10; omega) (⟨1, r.g, r.n, r.t⟩ : Rc25).cs rfl ?_)
        rw [HW9.out]
        go_wp2_with (refine wpList_load_row rfl 52 (.tmp 12) rfl gc rfl _ (⟨1, r.g, r.n, r.t⟩ : Rc25).cs _ _ H9.out.2.1 Tryd.underlying52 rfl info_rc25d ?_)
        refine (HC1.out w9).mono ?_
        rintro e w10 ⟨rfl, b10⟩
        have H10 : Hid (Ho25 w w10 f bl F2 S last) := H9.out.1.old b10
        clear b10
        go_wp2_with fail
        go_roundw
        case rel => exact ⟨i + 1, wrote, last, c, tp, S, F2, by omega, rfl, rfl, by have := HRW.out.2.2; omega, H10.out, H5.out.2.1⟩
        case measure => simp [intOf]; omega
      obtain ⟨S2, hwr, hi2⟩ := wr_ok25 (r := r) H5.out.2.1 HRW.out.1 HRW.out.2.1 (by rw [← hr']; exact hm)
      rw [← hr'] at hwr hi2
      rw [hwr] at HWT
      have HI2 : Hid (Hi25 S2 r' true (c + 1) (1 - tp) ∧ r'.may) := ⟨hi2, hm⟩
      obtain ⟨q1, hq1⟩ : ∃ q, q = (c : Int) + 1 := ⟨_, rfl⟩
      have hcw : IntKind.i64.wrap ((c : Int) + 1) = q1 := by rw [hq1]; exact IntWalk.i64_in _ ⟨by omega, by have := HRW.out.2.1; omega⟩
      have hcw' : wrap64 ((c : Int) + 1) = q1 := by rw [hq1]; exact IntWalk.wrap64_in _ ⟨by omega, by have := HRW.out.2.1; omega⟩
      have hset : (r.cs.toList.set 0 (.int .i64 q1)).toArray = r'.cs := by rw [hr', hq1]; rfl
      have HSET : Hid ((r.cs.toList.set 0 (.int .i64 q1)).toArray = r'.cs) := hset
      clear hwr hi2 hm hr' b6 hq1 hset
      go_wp2_with fail
      refine HWT.mono ?_
      rintro e w7 ⟨rfl, hfn⟩
      obtain ⟨F2, hf2, hk2, hn2⟩ := H6.out.1.fn hfn
      obtain ⟨w8, hw8⟩ : ∃ x, x = (w7.alloc (.cells #[.int .i64 0, .int .i64 0, .int .i64 0, .int .i64 0, .int .u32 0, .int .i64 0, .int .i64 0, .int .i64 0, .int .u32 0, .int .i64 0] 63)).setRow w7.heap.size r'.cs := ⟨_, rfl⟩
      obtain ⟨b13, hb13⟩ : ∃ x, x = w7.heap.size := ⟨_, rfl⟩
      have HW8 : Hid ((w7.alloc (.cells #[.int .i64 0, .int .i64 0, .int .i64 0, .int .i64 0, .int .u32 0, .int .i64 0, .int .i64 0, .int .i64 0, .int .u32 0, .int .i64 0] 63)).setRow w7.heap.size r'.cs = w8 ∧ w7.heap.size = b13) := ⟨hw8.symm, hb13.symm⟩
      have b8 : Below w7.heap.size w7 w8 := by rw [hw8]; exact below_row25 ((Below.refl _ _).alloc (Nat.le_refl _) _) (Nat.le_refl _) _
      have hg6 := (Array.getElem?_eq_some_iff.1 H6.out.2).1
      have hg7 : w7.heap[gc]? = some (.cells r.cs 52 (0, 0)) := (hk2.block gc hg6 H5.out.2.2.2.1).trans H6.out.2
      have hg7l := (Array.getElem?_eq_some_iff.1 hg7).1
      have hg8 : w8.heap[gc]? = some (.cells r.cs 52 (0, 0)) := (b8.block gc hg7l).trans hg7
      have h13 : w8.heap[b13]? = some (.cells r'.cs 63 (0, 0)) := by rw [hw8, hb13]; exact set_row25 (heap_alloc_new _ _)
      have hbx8 := (hf2.old b8).box
      obtain ⟨w9, hw9⟩ : ∃ x, x = w8.setRow gc r'.cs := ⟨_, rfl⟩
      have HW9 : Hid (w8.setRow gc r'.cs = w9) := hw9.symm
      have H9 : Hid (Ho25 w w9 f bl F2 S2 last ∧ w9.heap[gc]? = some (.cells r'.cs 52 (0, 0)) ∧ w8.heap[gc]? = some (.cells r.cs 52 (0, 0)) ∧ w9.heap[b13]? = some (.cells r'.cs 63 (0, 0)) ∧ b13 ≠ bl) := ⟨by rw [hw9]; exact (hf2.old b8).own (hn2 gc hg6 H5.out.2.2.2.1) H5.out.2.2.2.2.1 H5.out.2.2.2.2.2 _, by rw [hw9]; exact set_row25 hg8, hg8, by rw [hw9, old_row25 _ (by omega)]; exact h13, fun e => by have := (Array.getElem?_eq_some_iff.1 hf2.box).1; omega⟩
      have c0 : w8.cell? ⟨bl, 0, none⟩ = some (.int .i64 (c : Int)) := by rw [← H5.out.2.1.q]; exact cell25 hbx8 rfl
      clear HWT hfn hf2 hk2 hn2 hw8 hb13 b8 hg6 hg7 hg7l hg8 h13 hbx8 hw9
      go_upto_region 10 with (refine wpList_store_row rfl 63 (.tmp 13) (.tmp 50) rfl w7.heap.size r'.cs rfl rfl _ _ (heap_alloc_new w7 _) info_rc25 rfl (row_rc25 r') ?_)
      rw [HW8.out.1, HW8.out.2]
      go_upto_region 15 with (refine wpList_cell25 rfl 3 (.tmp 61) (.tmp 60) rfl gc 0 .i64 q1 rfl rfl (cs := r.cs.toList) H9.out.2.2.1 info_int25 (by show 0 < 10; omega) r'.cs HSET.out ?_)
      rw [HW9.out]
      clear c0 hcw hcw'
      obtain ⟨u9, hu⟩ : ∃ v, v = w9.drew := ⟨_, rfl⟩
      have HU : Hid (w9.drew = u9) := hu.symm
      have b : Below w9.heap.size w9 u9 := by rw [hu]; exact (Below.refl _ _).drew
      have H10 : Hid (Ho25 w u9 f bl F2 S2 last ∧ u9.heap[b13]? = some (.cells r'.cs 63 (0, 0)) ∧ u9.heap[gc]? = some (.cells r'.cs 52 (0, 0))) := ⟨H9.out.1.old b, (b.block _ (Array.getElem?_eq_some_iff.1 H9.out.2.2.2.1).1).trans H9.out.2.2.2.1, (b.block _ (Array.getElem?_eq_some_iff.1 H9.out.2.1).1).trans H9.out.2.1⟩
      clear hu b
      refine plain_region16 (fun V => V.heap[b13]? = some (.cells r'.cs 63 (0, 0)) ∧ V.heap[gc]? = some (.cells r'.cs 52 (0, 0))) 4 (by kernel_rfl) (by rw [HU.out]; exact ⟨H10.out.2.1, H10.out.2.2⟩) (fun hHeld => ?_)
      rw [HU.out] at hHeld ⊢
      clear HU
      refine wpAnyK_take (i := 0) (v := .agg r'.cs) rfl (by kernel_rfl) (by kernel_rfl) (by kernel_rfl) (by kernel_rfl) (fun _ _ _ h => h) (yields_row25 (by rfl) 63 (.tmp 13) rfl b13 rfl _ _ _ _ (fun w h => h.1) Tryd.underlying63 rfl info_rc25) hHeld ?_
      (try simp only [List.getElem_toArray, List.getElem_cons_zero, List.getElem_cons_succ, Act.put, List.setIfInBounds_toArray, List.set_cons_zero, List.set_cons_succ])
      refine wpAnyK_take (i := 1) (v := .agg r'.cs) rfl (by kernel_rfl) (by kernel_rfl) (by kernel_rfl) (by kernel_rfl) (fun _ _ _ h => h) (yields_row25 (by rfl) 52 (.tmp 12) rfl gc rfl _ _ _ _ (fun w h => h.2) Tryd.underlying52 rfl info_rc25d) hHeld ?_
      (try simp only [List.getElem_toArray, List.getElem_cons_zero, List.getElem_cons_succ, Act.put, List.setIfInBounds_toArray, List.set_cons_zero, List.set_cons_succ])
      refine wpAnyK_one (i := 2) (by kernel_rfl) rfl (fun K hK => ?_)
      (try simp only [List.getElem_toArray, List.getElem_cons_zero, List.getElem_cons_succ, Act.put, List.setIfInBounds_toArray, List.set_cons_zero, List.set_cons_succ])
      go_simp
      refine (HFM.out r' u9).mono ?_
      rintro e u10 ⟨rfl, b⟩
      have H11 : Hid (Ho25 w u10 f bl F2 S2 last ∧ u10.heap[b13]? = some (.cells r'.cs 63 (0, 0)) ∧ u10.heap[gc]? = some (.cells r'.cs 52 (0, 0))) := ⟨H10.out.1.old b, (b.block _ (Array.getElem?_eq_some_iff.1 H10.out.2.1).1).trans H10.out.2.1, (b.block _ (Array.getElem?_eq_some_iff.1 H10.out.2.2).1).trans H10.out.2.2⟩
      clear b
      refine hK.out _ _ (fun _ => ⟨H11.out.2.1, H11.out.2.2⟩) (fun hHeld0 => ?_)
      have hHeld := hHeld0 (by decide)
      clear hHeld0 hK K
      (try simp only [List.getElem_toArray, List.getElem_cons_zero, List.getElem_cons_succ, Act.put, List.setIfInBounds_toArray, List.set_cons_zero, List.set_cons_succ])
      refine wpAnyK_one (i := 3) (by kernel_rfl) rfl (fun K hK => ?_)
      (try simp only [List.getElem_toArray, List.getElem_cons_zero, List.getElem_cons_succ, Act.put, List.setIfInBounds_toArray, List.set_cons_zero, List.set_cons_succ])
      rw [if_pos (by rfl)]
      refine wp_bin25 .neq 63 (.tmp 62) (.tmp 64) _ rfl rfl rfl egr25 (hbr.out r' u10) ?_
      refine hK.out _ _ (fun _ => ⟨H11.out.2.1, H11.out.2.2⟩) (fun hHeld0 => ?_)
      have hHeld := hHeld0 (by decide)
      clear hHeld0 hK K
      simp only [Act.put, List.setIfInBounds_toArray, List.set_cons_zero, List.set_cons_succ]
      refine wpAnyK_done (by kernel_rfl) ?_ _
      obtain ⟨w11, hw11⟩ : ∃ v, v = u10.setRow bl r'.cs := ⟨_, rfl⟩
      have HW11 : Hid (u10.setRow bl r'.cs = w11) := hw11.symm
      have H12 : Hid (Ho25 w w11 f bl F2 S2 r' ∧ w11.heap[b13]? = some (.cells r'.cs 63 (0, 0))) := ⟨by rw [hw11]; exact H11.out.1.set r', by rw [hw11, old_row25 _ H9.out.2.2.2.2]; exact H11.out.2.1⟩
      clear hw11
      go_upto_region 18 with (first | refine wpList_load_row rfl 63 (.tmp 13) rfl b13 rfl _ r'.cs _ _ H11.out.2.1 Tryd.underlying63 rfl info_rc25 ?_ | refine wpList_store_row rfl 63 (.tmp 9) (.tmp 66) rfl bl r'.cs rfl rfl _ _ H11.out.1.box info_rc25 rfl (row_rc25 r') ?_)
      rw [HW11.out]
      have HRD := pread25 H12.out.1.fl HI2.out.1.ok (HT.out w11 H12.out.1.below) HI2.out.1.pg HI2.out.1.ps
      obtain ⟨hrd, -⟩ := HI2.out.1.rd
      rcases hrd with ⟨-, hrd⟩ | ⟨h, -⟩
      rotate_left
      · cases h
      rw [hrd] at HRD
      clear hrd
      go_wp2_with fail
      refine HRD.mono ?_
      rintro e w12 ⟨rfl, b12⟩
      have H13 : Hid (Ho25 w w12 f bl F2 S2 r' ∧ w12.heap[b13]? = some (.cells r'.cs 63 (0, 0))) := ⟨H12.out.1.old b12, (b12.block _ (Array.getElem?_eq_some_iff.1 H12.out.2).1).trans H12.out.2⟩
      obtain ⟨w13, hw13⟩ : ∃ x, x = (w12.alloc (.cells #[.int .i64 0, .int .i64 0, .int .i64 0, .int .i64 0, .int .u32 0, .int .i64 0, .int .i64 0, .int .i64 0, .int .u32 0, .int .i64 0] 63)).setRow w12.heap.size r'.cs := ⟨_, rfl⟩
      obtain ⟨b15, hb15⟩ : ∃ x, x = w12.heap.size := ⟨_, rfl⟩
      have HW13 : Hid ((w12.alloc (.cells #[.int .i64 0, .int .i64 0, .int .i64 0, .int .i64 0, .int .u32 0, .int .i64 0, .int .i64 0, .int .i64 0, .int .u32 0, .int .i64 0] 63)).setRow w12.heap.size r'.cs = w13 ∧ w12.heap.size = b15) := ⟨hw13.symm, hb15.symm⟩
      have b13' : Below w12.heap.size w12 w13 := by rw [hw13]; exact below_row25 ((Below.refl _ _).alloc (Nat.le_refl _) _) (Nat.le_refl _) _
      have H14 : Hid (Ho25 w w13 f bl F2 S2 r' ∧ w13.heap[b13]? = some (.cells r'.cs 63 (0, 0)) ∧ w13.heap[b15]? = some (.cells r'.cs 63 (0, 0))) := ⟨H13.out.1.old b13', (b13'.block _ (Array.getElem?_eq_some_iff.1 H13.out.2).1).trans H13.out.2, by rw [hw13, hb15]; exact set_row25 (heap_alloc_new _ _)⟩
      clear HRD b12 hw13 hb15 b13'
      go_upto_region 19 with (refine wpList_store_row rfl 63 (.tmp 15) (.tmp 70) rfl w12.heap.size r'.cs rfl rfl _ _ (heap_alloc_new w12 _) info_rc25 rfl (row_rc25 r') ?_)
      rw [HW13.out.1, HW13.out.2]
      go_wp2_with (first | (refine wpList_ung25 rfl ?_; refine wpList_load_row rfl 63 (.tmp 15) rfl b15 rfl _ r'.cs _ _ H14.out.2.2 Tryd.underlying63 rfl info_rc25 ?_) | (refine wpList_ung25 rfl ?_; refine wpList_load_row rfl 63 (.tmp 13) rfl b13 rfl _ r'.cs _ _ H14.out.2.1 Tryd.underlying63 rfl info_rc25 ?_) | (refine wpList_ung25 rfl ?_; refine wpList_bin25 rfl .neq 63 (.tmp 76) (.tmp 77) 63 rfl rfl rfl egr25 (hbr.out r' w13) ?_))
      go_roundw
      case rel => exact ⟨i + 1, true, r', c + 1, 1 - tp, S2, F2, by omega, rfl, rfl, by have := HRW.out.2.2; omega, H14.out.1, HI2.out.1⟩
      case measure => simp [intOf]; omega
    · as_aux_lemma =>
      obtain rfl : i = len := by omega
      have hii : ¬ ((i : Int) < (i : Int)) := by omega
      have H20 : Hid (Ho25 w wr f bl F1 S last ∧ Hi25 S last wrote c tp ∧ c ≤ 2000000000000) := ⟨hH.out.1, hH.out.2, by have := HLN.out.1; omega⟩
      clear hH hci hin hi
      go_upto_if 83 with fail
      go_cut [2] from 81 to 85 (fun s2 wc => wc = wr ∧ ∃ (X : List Int) (xl xc : Nat), s2 = .slice ta xl xc ∧ Seg w ta X ∧ X.length = xl ∧ xl ≤ 64 ∧ xl ≤ xc ∧ (ta = none → xc = 0))
      case first =>
        by_cases h64 : 64 < tl
        · have h64i : (64 : Int) < (tl : Int) := by omega
          have X1 := slice_hi22 ta tl tc 64 HTN.out.2.1 (by have := HTN.out.2.1; omega) HTN.out.2.2.1
          rw [show ((64 : Nat) : Int) = 64 from rfl] at X1
          have HXX : Hid (Seg w ta (L.take 64) ∧ (L.take 64).length = 64) := ⟨SegK.take HTN.out.1 64, by rw [List.length_take, HTN.out.2.2.2.2]; omega⟩
          have HTL : Hid (64 < tl) := h64
          clear h64
          go_wp2_with fail
          go_meet
          case rel => exact ⟨rfl, L.take 64, 64, tc, rfl, HXX.out.1, HXX.out.2, Nat.le_refl _, by have := HTN.out.2.1; have := HTL.out; omega, HTN.out.2.2.1⟩
        · have h64i : ¬ (64 : Int) < (tl : Int) := by omega
          have HTL : Hid (tl ≤ 64) := by show tl ≤ 64; omega
          clear h64
          go_wp2_with fail
          go_meet
          case rel => exact ⟨rfl, L, tl, tc, rfl, HTN.out.1, HTN.out.2.2.2.2, HTL.out, HTN.out.2.1, HTN.out.2.2.1⟩
      case rest =>
        obtain ⟨hwc, X, xl, xc, rfl, hsX, hxl, hx64, hxc, hxz⟩ := hcut
        subst hwc
        obtain ⟨bb, hbb⟩ : ∃ b, bits .and .i64 n 1 = b := ⟨_, rfl⟩
        have hb01 := and1_25 n
        rw [hbb] at hb01
        obtain ⟨m, hm⟩ : ∃ m, m = 1 + bb := ⟨_, rfl⟩
        have hbw : IntKind.i64.wrap bb = bb := IntWalk.i64_in _ (by omega)
        have hmw : IntKind.i64.wrap (1 + bb) = m := by rw [hm]; exact IntWalk.i64_in _ (by omega)
        have HM : Hid (m = 1 ∨ m = 2) := by show m = 1 ∨ m = 2; omega
        have HX : Hid (xl ≤ 64 ∧ X.length = xl) := ⟨hx64, hxl⟩
        have HCU := pcut21 H20.out.1.fl H20.out.2.1.ok m ta X xl xc (hsX.old H20.out.1.below) hxl hxz
        obtain ⟨hce, S3, hwr, hct⟩ := cut_write25 H20.out.2.1 H20.out.2.2 m HM.out X (by rw [hxl]; exact hx64)
        rw [hxl] at hce
        rw [hce] at HCU
        have HCT : Hid (Ct25 S S3 last wrote tp ∧ wr25 (cuS21 S m X) ex25 = (zr25, 213, S3)) := ⟨hct, hwr⟩
        clear hsX hxl hx64 hxc hxz hb01 hm hce hwr hct
        go_wp2_with fail
        refine HCU.mono ?_
        rintro e v1 ⟨rfl, hfn⟩
        obtain ⟨F2, hf2, -, -⟩ := H20.out.1.fn hfn
        obtain ⟨S', hS'⟩ : ∃ s, s = cuS21 S m X := ⟨_, rfl⟩
        rw [← hS'] at hf2
        have HS' : Hid (Ok21 S' ∧ S'.pg = 64 ∧ S'.ps = 1 ∧ S'.lg.length ≤ 5500000000000 ∧ wr25 S' ex25 = (zr25, 213, S3)) := by
          have ho := H20.out.2.1
          have hl := ho.lg
          have hc2 := H20.out.2.2
          refine ⟨by rw [hS']; exact ok21_cu' ho.ok m (by unfold In21; have := HM.out; omega) X, ?_, ?_, ?_, by rw [hS']; exact HCT.out.2⟩
          · rw [hS']; unfold cuS21; split; (exact ho.pg); split; (exact ho.pg); exact ho.pg
          · rw [hS']; unfold cuS21; split; (exact ho.ps); split; (exact ho.ps); exact ho.ps
          · rw [hS']
            have : (cuS21 S m X).lg = S.lg := by unfold cuS21; split; rfl; split; rfl; rfl
            rw [this]; omega
        have H21 : Hid (Ho25 w v1 f bl F2 S' last) := hf2
        have HFI := pfr25
        clear HCU hfn hf2 hS' hbb hbw hmw
        go_wp2_with fail
        refine (HFI v1).mono ?_
        rintro e v2 ⟨rfl, b2⟩
        have H22 : Hid (Ho25 w v2 f bl F2 S' last) := H21.out.old b2
        obtain ⟨v3, hv3⟩ : ∃ x, x = (v2.alloc (.cells #[.int .i64 0, .int .i64 0, .int .i64 0, .int .i64 0, .int .u32 0, .int .i64 0, .int .i64 0, .int .i64 0, .int .u32 0, .int .i64 0] 52)).setRow v2.heap.size ex25.cs := ⟨_, rfl⟩
        obtain ⟨b18, hb18⟩ : ∃ x, x = v2.heap.size := ⟨_, rfl⟩
        have HV3 : Hid ((v2.alloc (.cells #[.int .i64 0, .int .i64 0, .int .i64 0, .int .i64 0, .int .u32 0, .int .i64 0, .int .i64 0, .int .i64 0, .int .u32 0, .int .i64 0] 52)).setRow v2.heap.size ex25.cs = v3 ∧ v2.heap.size = b18) := ⟨hv3.symm, hb18.symm⟩
        have b3 : Below v2.heap.size v2 v3 := by rw [hv3]; exact below_row25 ((Below.refl _ _).alloc (Nat.le_refl _) _) (Nat.le_refl _) _
        have H23 : Hid (Ho25 w v3 f bl F2 S' last ∧ v3.heap[b18]? = some (.cells ex25.cs 52 (0, 0))) := ⟨H22.out.old b3, by rw [hv3, hb18]; exact set_row25 (heap_alloc_new _ _)⟩
        clear HFI b2 hv3 hb18 b3
        go_upto_region 27 with (refine wpList_store_row rfl 52 (.tmp 18) (.tmp 93) rfl v2.heap.size ex25.cs rfl rfl _ _ (heap_alloc_new v2 _) info_rc25d rfl (row_rc25 ex25) ?_)
        rw [HV3.out.1, HV3.out.2]
        go_wp2_with (refine wpList_load_row rfl 52 (.tmp 18) rfl b18 rfl _ ex25.cs _ _ H23.out.2 Tryd.underlying52 rfl info_rc25d ?_)
        refine (HFM.out ex25 v3).mono ?_
        rintro e v4 ⟨rfl, b4⟩
        have H24 : Hid (Ho25 w v4 f bl F2 S' last) := H23.out.1.old b4
        have HWT := pwrite25 H24.out.fl HS'.out.1 (HT.out v4 H24.out.below) HS'.out.2.1 HS'.out.2.2.1 ex25 ⟨⟨by decide, by decide⟩, by decide, by decide⟩ HS'.out.2.2.2.1
        rw [HS'.out.2.2.2.2] at HWT
        clear b4
        go_wp2_with fail
        refine HWT.mono ?_
        rintro e v5 ⟨rfl, hfn⟩
        obtain ⟨F3, hf3, -, -⟩ := H24.out.fn hfn
        have H25 : Hid (Ho25 w v5 f bl F3 S3 last) := hf3
        have HON := pon21 hf3.fl HCT.out.1.ok
        rw [HCT.out.1.on] at HON
        clear HWT hfn hf3
        go_wp2_with fail
        refine HON.mono ?_
        rintro e vv ⟨rfl, hw⟩
        subst vv
        have HPW := ppow21 H25.out.fl HCT.out.1.ok
        clear HON
        go_wp2_with fail
        refine HPW.mono ?_
        rintro e v6 ⟨rfl, hfn⟩
        obtain ⟨F4, hf4, -, -⟩ := H25.out.fn hfn
        obtain ⟨S4, hS4⟩ : ∃ s : Fs21, s = { S3 with on := true } := ⟨_, rfl⟩
        have HS4 : Hid (S4 = { S3 with on := true }) := hS4
        rw [← hS4] at hf4
        have H26 : Hid (Ho25 w v6 f bl F4 S4 last) := hf4
        have HK4 : Hid (Ok21 S4 ∧ S4.on = true ∧ S4.pg = 64 ∧ S4.ps = 1) := ⟨by rw [hS4]; have ho := HCT.out.1.ok; exact ⟨ho.pg, ho.ps, ho.ac, ho.lm, ho.lf, ho.tn, ho.sh⟩, by rw [hS4], by rw [hS4]; exact HCT.out.1.pg, by rw [hS4]; exact HCT.out.1.ps⟩
        clear HPW hfn hf4 hS4
        go_wp2_with fail
        go_loopw [19] (fun t19 wq => ∃ k : Nat, k ≤ 2 ∧ t19 = .int .i64 (k : Int) ∧ Hid (Ho25 w wq f bl F4 S4 last ∧ ∀ j, j < k → ¬ ((dc25 S4 j).2 = 0 ∧ (dc25 S4 j).1 ≠ last ∧ last.q ≤ (dc25 S4 j).1.q))) (fun t19 _ => 2 - (intOf t19).toNat)
        case atStart => exact ⟨0, by omega, rfl, H26.out, fun j hj => by omega⟩
        case round =>
          obtain ⟨k, hk2, rfl, hP⟩ := hrel
          by_cases hk : k < 2
          · as_aux_lemma =>
            have hki : (k : Int) < 2 := by omega
            have hkw : IntKind.i64.wrap ((k : Int) + 1) = ((k + 1 : Nat) : Int) := by rw [IntWalk.i64_in _ (by omega)]; omega
            obtain ⟨p, hp⟩ : ∃ p, p = 64 * k := ⟨_, rfl⟩
            have hpw : IntKind.i64.wrap (64 * (k : Int)) = (p : Int) := by rw [IntWalk.i64_in _ (by omega)]; omega
            have HRD := pread21 hP.out.1.fl HK4.out.1 2 (p : Int) 64 (by unfold In21; omega) (by unfold In21; omega) (by unfold In21; omega)
            unfold RdQ21 at HRD
            rw [show rdE21 S4 2 (p : Int) 64 = 0 by rw [hp]; exact rdE_page25 HK4.out.2.1 HK4.out.2.2.1 HK4.out.2.2.2 k (by omega), show (p : Int).toNat = p from Int.toNat_natCast p, show rb21 S4 2 p (64 : Int).toNat = pb25 S4 k by rw [hp]; exact rb_page25 HK4.out.2.2.1 k] at HRD
            have HPP : Hid (Ho25 w wr f bl F4 S4 last ∧ (∀ j, j < k → ¬ ((dc25 S4 j).2 = 0 ∧ (dc25 S4 j).1 ≠ last ∧ last.q ≤ (dc25 S4 j).1.q)) ∧ k < 2) := ⟨hP.out.1, hP.out.2, hk⟩
            clear hp hP hk hk2
            go_wp2_with fail
            refine HRD.mono ?_
            rintro e v7 ⟨b7, h7⟩
            rcases h7 with ⟨h, -⟩ | ⟨-, g7, rfl, -, hRw⟩
            · exact absurd rfl h
            have sg := rw_seg21 hRw (pb25_bd HPP.out.1.fl.by k)
            have H27 : Hid (Ho25 w v7 f bl F4 S4 last) := HPP.out.1.old b7
            have HDC := pdecode25 (some ⟨g7, 0, none⟩) (pb25 S4 k) 64 64 v7 (HT.out v7 H27.out.below) sg (pb25_len S4 k).symm (by omega) (by omega)
            obtain ⟨d, de, hde⟩ : ∃ a b, de25 (pb25 S4 k) = (a, b) := ⟨_, _, rfl⟩
            rw [hde] at HDC
            have HDE : Hid (dc25 S4 k = (d, de)) := hde
            clear HRD b7 hRw sg hde
            go_wp2_with fail
            refine HDC.mono ?_
            rintro e v8 ⟨rfl, b8⟩
            have H28 : Hid (Ho25 w v8 f bl F4 S4 last) := H27.out.old b8
            obtain ⟨v9, hv9⟩ : ∃ x, x = (v8.alloc (.cells #[.int .i64 0, .int .i64 0, .int .i64 0, .int .i64 0, .int .u32 0, .int .i64 0, .int .i64 0, .int .i64 0, .int .u32 0, .int .i64 0] 63)).setRow v8.heap.size d.cs := ⟨_, rfl⟩
            obtain ⟨b22, hb22⟩ : ∃ x, x = v8.heap.size := ⟨_, rfl⟩
            have HV9 : Hid ((v8.alloc (.cells #[.int .i64 0, .int .i64 0, .int .i64 0, .int .i64 0, .int .u32 0, .int .i64 0, .int .i64 0, .int .i64 0, .int .u32 0, .int .i64 0] 63)).setRow v8.heap.size d.cs = v9 ∧ v8.heap.size = b22) := ⟨hv9.symm, hb22.symm⟩
            have b9 : Below v8.heap.size v8 v9 := by rw [hv9]; exact below_row25 ((Below.refl _ _).alloc (Nat.le_refl _) _) (Nat.le_refl _) _
            have H29 : Hid (Ho25 w v9 f bl F4 S4 last ∧ v9.heap[b22]? = some (.cells d.cs 63 (0, 0))) := ⟨H28.out.old b9, by rw [hv9, hb22]; exact set_row25 (heap_alloc_new _ _)⟩
            clear HDC b8 hv9 hb22 b9
            go_upto_region 36 with (refine wpList_store_row rfl 63 (.tmp 22) (.tmp 123) rfl v8.heap.size d.cs rfl rfl _ _ (heap_alloc_new v8 _) info_rc25 rfl (row_rc25 d) ?_)
            rw [HV9.out.1, HV9.out.2]
            have HGO : Hid (¬ (de = 0 ∧ d ≠ last ∧ last.q ≤ d.q) → ∀ j, j < k + 1 → ¬ ((dc25 S4 j).2 = 0 ∧ (dc25 S4 j).1 ≠ last ∧ last.q ≤ (dc25 S4 j).1.q)) := fun h j hj => by
              by_cases e : j = k
              · subst e
                rw [HDE.out]
                exact h
              · exact HPP.out.2.1 j (by omega)
            by_cases hd0 : de = 0
            rotate_left
            · have HG2 := HGO.out (fun h => hd0 h.1)
              have HG3 : Hid (∀ j, j < k + 1 → ¬ ((dc25 S4 j).2 = 0 ∧ (dc25 S4 j).1 ≠ last ∧ last.q ≤ (dc25 S4 j).1.q)) := HG2
              clear HG2
              go_wp2_with fail
              go_roundw
              case rel => exact ⟨k + 1, by have := HPP.out.2.2; omega, by go_num, H29.out.1, HG3.out⟩
              case measure => simp [intOf]; have := HPP.out.2.2; omega
            subst hd0
            have hbnn := hbn.out d last v9
            by_cases hdl : d = last
            · have HG3 : Hid (∀ j, j < k + 1 → ¬ ((dc25 S4 j).2 = 0 ∧ (dc25 S4 j).1 ≠ last ∧ last.q ≤ (dc25 S4 j).1.q)) := HGO.out (fun h => h.2.1 hdl)
              rw [decide_eq_true hdl] at hbnn
              have HB9 : Hid ((binOp .neq 63 (.agg d.cs) (.agg last.cs)).run Tryd.prog v9 = .ok (.bool false) v9) := hbnn
              clear hdl hbnn
              go_wp2_with (first | (refine wpList_ung25 rfl ?_; refine wpList_load_row rfl 63 (.tmp 22) rfl b22 rfl _ d.cs _ _ H29.out.2 Tryd.underlying63 rfl info_rc25 ?_) | (refine wpList_ung25 rfl ?_; refine wpList_load_row rfl 63 (.tmp 9) rfl bl rfl _ last.cs _ _ H29.out.1.box Tryd.underlying63 rfl info_rc25 ?_) | (refine wpList_ung25 rfl ?_; refine wpList_bin25 rfl .neq 63 (.tmp 131) (.tmp 132) 63 rfl rfl rfl egr25 HB9.out ?_))
              go_roundw
              case rel => exact ⟨k + 1, by have := HPP.out.2.2; omega, by go_num, H29.out.1, HG3.out⟩
              case measure => simp [intOf]; have := HPP.out.2.2; omega
            rw [decide_eq_false hdl] at hbnn
            have HB9 : Hid ((binOp .neq 63 (.agg d.cs) (.agg last.cs)).run Tryd.prog v9 = .ok (.bool true) v9) := hbnn
            have HDL : Hid (d ≠ last) := hdl
            have c0 : v9.cell? ⟨b22, 0, none⟩ = some (.int .i64 d.q) := cell25 H29.out.2 rfl
            have c1 : v9.cell? ⟨bl, 0, none⟩ = some (.int .i64 last.q) := cell25 H29.out.1.box rfl
            clear hdl hbnn
            by_cases hq : last.q ≤ d.q
            · go_wp2_with (first | (refine wpList_ung25 rfl ?_; refine wpList_load_row rfl 63 (.tmp 22) rfl b22 rfl _ d.cs _ _ H29.out.2 Tryd.underlying63 rfl info_rc25 ?_) | (refine wpList_ung25 rfl ?_; refine wpList_load_row rfl 63 (.tmp 9) rfl bl rfl _ last.cs _ _ H29.out.1.box Tryd.underlying63 rfl info_rc25 ?_) | (refine wpList_ung25 rfl ?_; refine wpList_bin25 rfl .neq 63 (.tmp 131) (.tmp 132) 63 rfl rfl rfl egr25 HB9.out ?_))
              go_ret
              exact ⟨rfl, H29.out.1.below⟩
            · have HG3 : Hid (∀ j, j < k + 1 → ¬ ((dc25 S4 j).2 = 0 ∧ (dc25 S4 j).1 ≠ last ∧ last.q ≤ (dc25 S4 j).1.q)) := HGO.out (fun h => hq h.2.2)
              go_wp2_with (first | (refine wpList_ung25 rfl ?_; refine wpList_load_row rfl 63 (.tmp 22) rfl b22 rfl _ d.cs _ _ H29.out.2 Tryd.underlying63 rfl info_rc25 ?_) | (refine wpList_ung25 rfl ?_; refine wpList_load_row rfl 63 (.tmp 9) rfl bl rfl _ last.cs _ _ H29.out.1.box Tryd.underlying63 rfl info_rc25 ?_) | (refine wpList_ung25 rfl ?_; refine wpList_bin25 rfl .neq 63 (.tmp 131) (.tmp 132) 63 rfl rfl rfl egr25 HB9.out ?_))
              go_roundw
              case rel => exact ⟨k + 1, by have := HPP.out.2.2; omega, by go_num, H29.out.1, HG3.out⟩
              case measure => simp [intOf]; have := HPP.out.2.2; omega
          · as_aux_lemma =>
            obtain rfl : k = 2 := by omega
            have hki : ¬ ((2 : Nat) : Int) < 2 := by omega
            have H30 : Hid (Ho25 w wr f bl F4 S4 last) := hP.out.1
            have hrc := rd_cut25 H20.out.2.1 HCT.out.1 (by rw [← HS4.out]; exact hP.out.2 0 (by omega)) (by rw [← HS4.out]; exact hP.out.2 1 (by omega))
            rw [← HS4.out] at hrc
            have HRD := pread25 H30.out.fl HK4.out.1 (HT.out wr H30.out.below) HK4.out.2.2.1 HK4.out.2.2.2
            obtain ⟨R4, k4, E4, hR4⟩ : ∃ a b e, rd25 S4 = (a, b, e) := ⟨_, _, _, rfl⟩
            rw [hR4] at HRD hrc
            have HRC : Hid ((wrote = false ∧ E4 = 251) ∨ (wrote = true ∧ E4 = 0 ∧ R4 = last)) := hrc
            clear hP hk hk2 hrc hR4
            go_wp2_with fail
            refine HRD.mono ?_
            rintro e v7 ⟨rfl, b7⟩
            have H31 : Hid (Ho25 w v7 f bl F4 S4 last) := H30.out.old b7
            obtain ⟨v9, hv9⟩ : ∃ x, x = (v7.alloc (.cells #[.int .i64 0, .int .i64 0, .int .i64 0, .int .i64 0, .int .u32 0, .int .i64 0, .int .i64 0, .int .i64 0, .int .u32 0, .int .i64 0] 63)).setRow v7.heap.size R4.cs := ⟨_, rfl⟩
            obtain ⟨b24, hb24⟩ : ∃ x, x = v7.heap.size := ⟨_, rfl⟩
            have HV9 : Hid ((v7.alloc (.cells #[.int .i64 0, .int .i64 0, .int .i64 0, .int .i64 0, .int .u32 0, .int .i64 0, .int .i64 0, .int .i64 0, .int .u32 0, .int .i64 0] 63)).setRow v7.heap.size R4.cs = v9 ∧ v7.heap.size = b24) := ⟨hv9.symm, hb24.symm⟩
            have b9 : Below v7.heap.size v7 v9 := by rw [hv9]; exact below_row25 ((Below.refl _ _).alloc (Nat.le_refl _) _) (Nat.le_refl _) _
            have H32 : Hid (Ho25 w v9 f bl F4 S4 last ∧ v9.heap[b24]? = some (.cells R4.cs 63 (0, 0))) := ⟨H31.out.old b9, by rw [hv9, hb24]; exact set_row25 (heap_alloc_new _ _)⟩
            clear HRD b7 hv9 hb24 b9
            go_upto_region 39 with (refine wpList_store_row rfl 63 (.tmp 24) (.tmp 148) rfl v7.heap.size R4.cs rfl rfl _ _ (heap_alloc_new v7 _) info_rc25 rfl (row_rc25 R4) ?_)
            rw [HV9.out.1, HV9.out.2]
            rcases HRC.out with ⟨e1, e2⟩ | ⟨e1, e2, e3⟩
            · subst e1 e2
              go_wp2_with fail
              refine (HLV.out v9 H32.out.1.below).mono ?_
              rintro e v10 ⟨rfl, b10⟩
              have H33 : Hid (Below w.heap.size w v10) := H32.out.1.below.trans (b10.mono H32.out.1.below.size)
              clear b10
              go_wp2_with fail
              go_ret
              exact ⟨rfl, H33.out⟩
            · subst e1 e2 e3
              go_wp2_with (first | (refine wpList_ung25 rfl ?_; refine wpList_load_row rfl 63 (.tmp 24) rfl b24 rfl _ R4.cs _ _ H32.out.2 Tryd.underlying63 rfl info_rc25 ?_) | (refine wpList_ung25 rfl ?_; refine wpList_load_row rfl 63 (.tmp 9) rfl bl rfl _ R4.cs _ _ H32.out.1.box Tryd.underlying63 rfl info_rc25 ?_) | (refine wpList_ung25 rfl ?_; refine wpList_bin25 rfl .eql 63 (.tmp 161) (.tmp 162) 63 rfl rfl rfl egr25 (hber.out R4 v9) ?_))
              refine (HLV.out v9 H32.out.1.below).mono ?_
              rintro e v10 ⟨rfl, b10⟩
              have H33 : Hid (Below w.heap.size w v10) := H32.out.1.below.trans (b10.mono H32.out.1.below.size)
              clear b10
              go_wp2_with fail
              go_ret
              exact ⟨rfl, H33.out⟩
end Go.Proofs.YtmjlpfmacblcpaaDoor
