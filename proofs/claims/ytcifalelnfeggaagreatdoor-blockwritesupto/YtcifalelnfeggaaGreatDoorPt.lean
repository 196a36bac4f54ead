import Derived.Test.YtcifalelnfeggaaGreatDoorPs
import Derived.Test.YtcifalelnfeggaaGreatDoorPq
import Derived.Test.YtcifalelnfeggaaGreatDoorPg
import Derived.Test.YtcifalelnfeggaaGreatDoorPb
import Derived.Test.YtcifalelnfeggaaGreatDoorProg
import Derived.Test.YtcifalelnfeggaaGreatDoorPa
import Derived.Test.YtcifalelnfeggaaGreatDoorPl
import Derived.WalkKit
import Derived.WalkSpells
import Derived.WalkLawsBesides
import Derived.Deep.QuietTactic
import Derived.BigQuiet
import Derived.Test.YtcifalelnfeggaaGreatDoorPm
import Derived.Test.YtcifalelnfeggaaGreatDoorPk
namespace Go.Proofs.YtcifalelnfeggaaGreatDoor
open Go.RowKit
set_option linter.unusedVariables false

/-! The landed block: Write, kind 1. -/
set_option maxRecDepth 100000 in
set_option maxHeartbeats 8000000 in
theorem pwr9_1f (bw B : Nat) (v : Value) (L : List Bool) (data : List Int) (xa : Option Addr) (nx xc : Nat) (hdl : Hid (data.length = nx)) (l : List Tok7) (a : Option Addr) (n cap : Nat) (hn : Hid (l.length = n)) (w : World) (hw : WrL w bw B v L) (hL : L.length ≤ 900000000000) (hs : SegT w a l) (hm : mer9 l = 0) (hx : siz7 l = nx) (hsz : (tal9 l).getD 0 0 ≤ mst9 1) (hsd : Seg w xa data) (hnil : xa = none → xc = 0) (fx : ∀ g o, xa = some ⟨g, o, none⟩ → 0 < data.length → ¬ WS bw v g ∧ g < w.heap.size) (fa : ∀ g o, a = some ⟨g, o, none⟩ → 0 < n → ¬ WS bw v g) (T : TabS w) (O : TabO w) (hbw : 2 ≤ bw) (hB : 2 ≤ B) :
    Calls Tryz.prog 34 #[.pointer (some ⟨bw, 0, none⟩), .int .i64 1, .bool false, .slice xa nx xc, .slice a n cap] w fun e w' => e = .returned (.int .i64 0) ∧ WrI w w' bw B v (L ++ blk9 1 (L.length % 8) false data l) := by
  have CL := len_any bw B v L w hw (by omega)
  have hSZ : (tal9 l).getD 0 0 = (nx : Int) := by rw [tal9_size hm hs.fit, hx]
  have HPL : Hid (∀ W, Below w.heap.size w W → ∀ x : Int, x = ((L.length % 8 : Nat) : Int) → Calls Tryz.prog 51 #[.int .i64 1, .int .i64 x, .slice a n cap] W fun e w' => ∃ b, W.heap.size ≤ b ∧ e = .returned (.tuple #[.agg (fk9 1), .pointer (some ⟨b, 0, none⟩), .int .i64 0]) ∧ Ta9 w' b (tal9 l) ∧ Below W.heap.size W w') := fun W hW x hx => by
    subst hx
    exact pplan9_ok l a n cap hn 1 (by omega) _ (by omega) W (hs.old hW) (by have := (mer9_zero hm).1; rw [hn.out] at this; exact this) (mer9_zero hm).2 hsz
  have HS : Hid (SegT w a l) := hs
  have HM : Hid (mer9 l = 0) := hm
  have HSD : Hid (Seg w xa data) := hsd
  have HSZ : Hid ((tal9 l).getD 0 0 = (nx : Int)) := hSZ
  have HNX : Hid (nx ≤ 65535 ∨ 1 ≠ 0) := by
    have h : (nx : Int) ≤ mst9 1 := by rw [← hSZ]; exact hsz
    unfold mst9 at h
    first | (left; rw [if_pos rfl] at h; omega) | (right; omega)
  have HFX : Hid (∀ g o, xa = some ⟨g, o, none⟩ → 0 < data.length → ¬ WS bw v g ∧ g < w.heap.size) := fx
  have HFA : Hid (∀ g o, a = some ⟨g, o, none⟩ → 0 < n → ¬ WS bw v g) := fa
  have HTO : Hid (TabS w ∧ TabO w) := ⟨T, O⟩
  have HBB : Hid (2 ≤ bw ∧ 2 ≤ B) := ⟨hbw, hB⟩
  have HOL : Hid (bw < w.heap.size ∧ ∀ k, v.ownBlock = some k → B ≤ k ∧ k < w.heap.size) := ⟨hw.b_lt, fun k e => ⟨(hw.own_lt k e).1, (hw.own_lt k e).2.1⟩⟩
  have HW : Hid (WrL w bw B v L) := hw
  clear hw hs hm hx hsz hsd fx fa T O hbw hB hSZ
  go_enter Tryz.func34, Tryz.ntmps34
  go_wp2_with fail
  refine CL.mono ?_
  rintro e w1 ⟨rfl, b1⟩
  clear CL
  go_wp2_with fail
  refine (HPL.out w1 b1 _ (by first | omega | (rw [Int.tmod_eq_emod_of_nonneg (by omega)]; omega))).mono ?_
  rintro e w2 ⟨tb, htb, rfl, TA, b2⟩
  have B2 : Below w.heap.size w w2 := b1.trans (b2.mono b1.size)
  obtain ⟨fi, fs, fo, f0⟩ := fk9_facts 1 (by omega)
  have f2 : (fk9 1)[2]? = some (fnv9 78) := by kernel_rfl
  have q3 := setRow_heap _ w2.heap.size _ (fk9 1) _ _ (heap_alloc_new w2 (.cells #[.int .i64 0, .nilFunc, .nilFunc, .nilFunc] 111))
  have b3 : Below w2.heap.size w2 ((w2.alloc (.cells #[.int .i64 0, .nilFunc, .nilFunc, .nilFunc] 111)).setRow w2.heap.size (fk9 1)) := ((Below.refl w2.heap.size w2).alloc (Nat.le_refl _) _).grown (grown_setRow _ _ _) (by simp) (fun j e => by cases e; exact Nat.le_refl _)
  have HT3 : Hid (Ta9 ((w2.alloc (.cells #[.int .i64 0, .nilFunc, .nilFunc, .nilFunc] 111)).setRow w2.heap.size (fk9 1)) tb (tal9 l)) := TA.keep (b3.block tb TA.lt)
  have c0 := HT3.out.cell (i := 0) (by omega)
  rw [HSZ.out] at c0
  have HB3 : Hid (Below w.heap.size w ((w2.alloc (.cells #[.int .i64 0, .nilFunc, .nilFunc, .nilFunc] 111)).setRow w2.heap.size (fk9 1))) := B2.trans (b3.mono B2.size)
  have HQ3 : Hid (((w2.alloc (.cells #[.int .i64 0, .nilFunc, .nilFunc, .nilFunc] 111)).setRow w2.heap.size (fk9 1)).heap[w2.heap.size]? = some (.cells (fk9 1) 111 (0, 0))) := q3
  have hw2 : w.heap.size ≤ w2.heap.size := B2.size
  have htw : w.heap.size ≤ tb := Nat.le_trans b1.size htb
  clear b1 b2 b3 q3 TA B2 htb HPL f0
  go_wp2_with (refine wpList_store_row rfl 111 (.tmp 11) (.tmp 24) rfl w2.heap.size (fk9 1) rfl rfl _ _ (heap_alloc_new w2 _) fi fs fo ?_)
  generalize (w2.alloc (.cells #[.int .i64 0, .nilFunc, .nilFunc, .nilFunc] 111)).setRow w2.heap.size (fk9 1) = w3 at *
  have HI0 : WrI w3 w3 bw B v L := WrI.start (HW.out.below8 HB3.out)
  have CPU := put8 HI0 2 3 (by decide) (by omega) (by omega)
  refine CPU.mono ?_
  rintro e w4 ⟨rfl, v4, W4, K4, F4⟩
  have hww : w2.heap.size < w3.heap.size := (Array.getElem?_eq_some_iff.1 HQ3.out).1
  have hfr : ∀ k, w.heap.size ≤ k → ¬ WS bw v k := fun k hk => by
    have h := HOL.out
    rintro (e | e)
    · omega
    · have := (h.2 k e).2; omega
  have q4 := K4.heap HQ3.out (hfr _ hw2)
  have d2 : w4.cell? ⟨w2.heap.size, 2, none⟩ = some (.func (.func 78) #[] #[]) := (cell_of_row w4 _ 2 _ _ _ q4).trans f2
  have hown : ∀ g, g < w.heap.size → ¬ WS bw v g → ¬ WS bw v4 g := fun g hg h => by
    rintro (q | q)
    · exact h (.inl q)
    · rcases F4 g q with q | q
      · exact h (.inr q)
      · have := HB3.out.size; omega
  have ST4 : SegT w4 a l := (HS.out.old HB3.out).kp K4 (fun g o e h => HFA.out g o e (by have := hn.out; omega))
  have fa4 : ∀ g o, a = some ⟨g, o, none⟩ → 0 < n → ¬ WS bw v4 g := fun g o e h => hown g (HS.out.lt g o e (by have := hn.out; omega)) (HFA.out g o e h)
  have hl4 : (L ++ bN 2 3).length = L.length + 3 := by rw [List.length_append, bN_len]
  have CT := fun dv tv => pwpl9 bw B v4 (L ++ bN 2 3) l a n cap hn dv tv w4 W4 (by omega) ST4 (by have := (mer9_zero HM.out).1; rw [hn.out] at this; exact this) (mer9_zero HM.out).2 fa4
  have HFIN : Hid (∀ W, WrI w4 W bw B v4 ((L ++ bN 2 3) ++ bdy9 plnL9 plnD9 l) → WrI w W bw B v (L ++ blk9 1 (L.length % 8) false data l)) := fun W h => by
    obtain ⟨v5, r5, k5, f5⟩ := h
    have := WrI.up HB3.out (WrI.next K4 F4 r5 k5 f5)
    rw [List.append_assoc] at this
    unfold blk9
    rw [if_neg (by omega), if_pos rfl]
    exact this
  clear HI0 CPU c0 q4 ST4 fa4 hown hfr K4 F4 W4 HT3 HQ3 HB3 hl4
  go_wp2_with fail
  refine (CT _ _).mono ?_
  rintro e w6 ⟨rfl, HI6⟩
  have HF := HFIN.out w6 HI6
  clear CT HFIN HI6
  go_wp2_with fail
  go_ret
  exact ⟨rfl, HF⟩
set_option maxRecDepth 100000 in
set_option maxHeartbeats 8000000 in
theorem pwr9_1t (bw B : Nat) (v : Value) (L : List Bool) (data : List Int) (xa : Option Addr) (nx xc : Nat) (hdl : Hid (data.length = nx)) (l : List Tok7) (a : Option Addr) (n cap : Nat) (hn : Hid (l.length = n)) (w : World) (hw : WrL w bw B v L) (hL : L.length ≤ 900000000000) (hs : SegT w a l) (hm : mer9 l = 0) (hx : siz7 l = nx) (hsz : (tal9 l).getD 0 0 ≤ mst9 1) (hsd : Seg w xa data) (hnil : xa = none → xc = 0) (fx : ∀ g o, xa = some ⟨g, o, none⟩ → 0 < data.length → ¬ WS bw v g ∧ g < w.heap.size) (fa : ∀ g o, a = some ⟨g, o, none⟩ → 0 < n → ¬ WS bw v g) (T : TabS w) (O : TabO w) (hbw : 2 ≤ bw) (hB : 2 ≤ B) :
    Calls Tryz.prog 34 #[.pointer (some ⟨bw, 0, none⟩), .int .i64 1, .bool true, .slice xa nx xc, .slice a n cap] w fun e w' => e = .returned (.int .i64 0) ∧ WrI w w' bw B v (L ++ blk9 1 (L.length % 8) true data l) := by
  have CL := len_any bw B v L w hw (by omega)
  have hSZ : (tal9 l).getD 0 0 = (nx : Int) := by rw [tal9_size hm hs.fit, hx]
  have HPL : Hid (∀ W, Below w.heap.size w W → ∀ x : Int, x = ((L.length % 8 : Nat) : Int) → Calls Tryz.prog 51 #[.int .i64 1, .int .i64 x, .slice a n cap] W fun e w' => ∃ b, W.heap.size ≤ b ∧ e = .returned (.tuple #[.agg (fk9 1), .pointer (some ⟨b, 0, none⟩), .int .i64 0]) ∧ Ta9 w' b (tal9 l) ∧ Below W.heap.size W w') := fun W hW x hx => by
    subst hx
    exact pplan9_ok l a n cap hn 1 (by omega) _ (by omega) W (hs.old hW) (by have := (mer9_zero hm).1; rw [hn.out] at this; exact this) (mer9_zero hm).2 hsz
  have HS : Hid (SegT w a l) := hs
  have HM : Hid (mer9 l = 0) := hm
  have HSD : Hid (Seg w xa data) := hsd
  have HSZ : Hid ((tal9 l).getD 0 0 = (nx : Int)) := hSZ
  have HNX : Hid (nx ≤ 65535 ∨ 1 ≠ 0) := by
    have h : (nx : Int) ≤ mst9 1 := by rw [← hSZ]; exact hsz
    unfold mst9 at h
    first | (left; rw [if_pos rfl] at h; omega) | (right; omega)
  have HFX : Hid (∀ g o, xa = some ⟨g, o, none⟩ → 0 < data.length → ¬ WS bw v g ∧ g < w.heap.size) := fx
  have HFA : Hid (∀ g o, a = some ⟨g, o, none⟩ → 0 < n → ¬ WS bw v g) := fa
  have HTO : Hid (TabS w ∧ TabO w) := ⟨T, O⟩
  have HBB : Hid (2 ≤ bw ∧ 2 ≤ B) := ⟨hbw, hB⟩
  have HOL : Hid (bw < w.heap.size ∧ ∀ k, v.ownBlock = some k → B ≤ k ∧ k < w.heap.size) := ⟨hw.b_lt, fun k e => ⟨(hw.own_lt k e).1, (hw.own_lt k e).2.1⟩⟩
  have HW : Hid (WrL w bw B v L) := hw
  clear hw hs hm hx hsz hsd fx fa T O hbw hB hSZ
  go_enter Tryz.func34, Tryz.ntmps34
  go_wp2_with fail
  refine CL.mono ?_
  rintro e w1 ⟨rfl, b1⟩
  clear CL
  go_wp2_with fail
  refine (HPL.out w1 b1 _ (by first | omega | (rw [Int.tmod_eq_emod_of_nonneg (by omega)]; omega))).mono ?_
  rintro e w2 ⟨tb, htb, rfl, TA, b2⟩
  have B2 : Below w.heap.size w w2 := b1.trans (b2.mono b1.size)
  obtain ⟨fi, fs, fo, f0⟩ := fk9_facts 1 (by omega)
  have f2 : (fk9 1)[2]? = some (fnv9 78) := by kernel_rfl
  have q3 := setRow_heap _ w2.heap.size _ (fk9 1) _ _ (heap_alloc_new w2 (.cells #[.int .i64 0, .nilFunc, .nilFunc, .nilFunc] 111))
  have b3 : Below w2.heap.size w2 ((w2.alloc (.cells #[.int .i64 0, .nilFunc, .nilFunc, .nilFunc] 111)).setRow w2.heap.size (fk9 1)) := ((Below.refl w2.heap.size w2).alloc (Nat.le_refl _) _).grown (grown_setRow _ _ _) (by simp) (fun j e => by cases e; exact Nat.le_refl _)
  have HT3 : Hid (Ta9 ((w2.alloc (.cells #[.int .i64 0, .nilFunc, .nilFunc, .nilFunc] 111)).setRow w2.heap.size (fk9 1)) tb (tal9 l)) := TA.keep (b3.block tb TA.lt)
  have c0 := HT3.out.cell (i := 0) (by omega)
  rw [HSZ.out] at c0
  have i3 : bits .or .u64 2 1 = 3 := by decide
  have HB3 : Hid (Below w.heap.size w ((w2.alloc (.cells #[.int .i64 0, .nilFunc, .nilFunc, .nilFunc] 111)).setRow w2.heap.size (fk9 1))) := B2.trans (b3.mono B2.size)
  have HQ3 : Hid (((w2.alloc (.cells #[.int .i64 0, .nilFunc, .nilFunc, .nilFunc] 111)).setRow w2.heap.size (fk9 1)).heap[w2.heap.size]? = some (.cells (fk9 1) 111 (0, 0))) := q3
  have hw2 : w.heap.size ≤ w2.heap.size := B2.size
  have htw : w.heap.size ≤ tb := Nat.le_trans b1.size htb
  clear b1 b2 b3 q3 TA B2 htb HPL f0
  go_wp2_with (refine wpList_store_row rfl 111 (.tmp 11) (.tmp 24) rfl w2.heap.size (fk9 1) rfl rfl _ _ (heap_alloc_new w2 _) fi fs fo ?_)
  generalize (w2.alloc (.cells #[.int .i64 0, .nilFunc, .nilFunc, .nilFunc] 111)).setRow w2.heap.size (fk9 1) = w3 at *
  have HI0 : WrI w3 w3 bw B v L := WrI.start (HW.out.below8 HB3.out)
  have CPU := put8 HI0 3 3 (by decide) (by omega) (by omega)
  refine CPU.mono ?_
  rintro e w4 ⟨rfl, v4, W4, K4, F4⟩
  have hww : w2.heap.size < w3.heap.size := (Array.getElem?_eq_some_iff.1 HQ3.out).1
  have hfr : ∀ k, w.heap.size ≤ k → ¬ WS bw v k := fun k hk => by
    have h := HOL.out
    rintro (e | e)
    · omega
    · have := (h.2 k e).2; omega
  have q4 := K4.heap HQ3.out (hfr _ hw2)
  have d2 : w4.cell? ⟨w2.heap.size, 2, none⟩ = some (.func (.func 78) #[] #[]) := (cell_of_row w4 _ 2 _ _ _ q4).trans f2
  have hown : ∀ g, g < w.heap.size → ¬ WS bw v g → ¬ WS bw v4 g := fun g hg h => by
    rintro (q | q)
    · exact h (.inl q)
    · rcases F4 g q with q | q
      · exact h (.inr q)
      · have := HB3.out.size; omega
  have ST4 : SegT w4 a l := (HS.out.old HB3.out).kp K4 (fun g o e h => HFA.out g o e (by have := hn.out; omega))
  have fa4 : ∀ g o, a = some ⟨g, o, none⟩ → 0 < n → ¬ WS bw v4 g := fun g o e h => hown g (HS.out.lt g o e (by have := hn.out; omega)) (HFA.out g o e h)
  have hl4 : (L ++ bN 3 3).length = L.length + 3 := by rw [List.length_append, bN_len]
  have CT := fun dv tv => pwpl9 bw B v4 (L ++ bN 3 3) l a n cap hn dv tv w4 W4 (by omega) ST4 (by have := (mer9_zero HM.out).1; rw [hn.out] at this; exact this) (mer9_zero HM.out).2 fa4
  have HFIN : Hid (∀ W, WrI w4 W bw B v4 ((L ++ bN 3 3) ++ bdy9 plnL9 plnD9 l) → WrI w W bw B v (L ++ blk9 1 (L.length % 8) true data l)) := fun W h => by
    obtain ⟨v5, r5, k5, f5⟩ := h
    have := WrI.up HB3.out (WrI.next K4 F4 r5 k5 f5)
    rw [List.append_assoc] at this
    unfold blk9
    rw [if_neg (by omega), if_pos rfl]
    exact this
  clear HI0 CPU c0 i3 q4 ST4 fa4 hown hfr K4 F4 W4 HT3 HQ3 HB3 hl4
  go_wp2_with fail
  refine (CT _ _).mono ?_
  rintro e w6 ⟨rfl, HI6⟩
  have HF := HFIN.out w6 HI6
  clear CT HFIN HI6
  go_wp2_with fail
  go_ret
  exact ⟨rfl, HF⟩
end Go.Proofs.YtcifalelnfeggaaGreatDoor

namespace Go.Proofs.YtcifalelnfeggaaGreatDoor
open Go.RowKit
set_option linter.unusedVariables false

/-! The landed block: Write, kind 2. -/
set_option maxRecDepth 100000 in
set_option maxHeartbeats 8000000 in
theorem pwr9_2f (bw B : Nat) (v : Value) (L : List Bool) (data : List Int) (xa : Option Addr) (nx xc : Nat) (hdl : Hid (data.length = nx)) (l : List Tok7) (a : Option Addr) (n cap : Nat) (hn : Hid (l.length = n)) (w : World) (hw : WrL w bw B v L) (hL : L.length ≤ 900000000000) (hs : SegT w a l) (hm : mer9 l = 0) (hx : siz7 l = nx) (hsz : (tal9 l).getD 0 0 ≤ mst9 2) (hsd : Seg w xa data) (hnil : xa = none → xc = 0) (fx : ∀ g o, xa = some ⟨g, o, none⟩ → 0 < data.length → ¬ WS bw v g ∧ g < w.heap.size) (fa : ∀ g o, a = some ⟨g, o, none⟩ → 0 < n → ¬ WS bw v g) (T : TabS w) (O : TabO w) (hbw : 2 ≤ bw) (hB : 2 ≤ B) :
    Calls Tryz.prog 34 #[.pointer (some ⟨bw, 0, none⟩), .int .i64 2, .bool false, .slice xa nx xc, .slice a n cap] w fun e w' => e = .returned (.int .i64 0) ∧ WrI w w' bw B v (L ++ blk9 2 (L.length % 8) false data l) := by
  have CL := len_any bw B v L w hw (by omega)
  have hSZ : (tal9 l).getD 0 0 = (nx : Int) := by rw [tal9_size hm hs.fit, hx]
  have HPL : Hid (∀ W, Below w.heap.size w W → ∀ x : Int, x = ((L.length % 8 : Nat) : Int) → Calls Tryz.prog 51 #[.int .i64 2, .int .i64 x, .slice a n cap] W fun e w' => ∃ b, W.heap.size ≤ b ∧ e = .returned (.tuple #[.agg (fk9 2), .pointer (some ⟨b, 0, none⟩), .int .i64 0]) ∧ Ta9 w' b (tal9 l) ∧ Below W.heap.size W w') := fun W hW x hx => by
    subst hx
    exact pplan9_ok l a n cap hn 2 (by omega) _ (by omega) W (hs.old hW) (by have := (mer9_zero hm).1; rw [hn.out] at this; exact this) (mer9_zero hm).2 hsz
  have HS : Hid (SegT w a l) := hs
  have HM : Hid (mer9 l = 0) := hm
  have HSD : Hid (Seg w xa data) := hsd
  have HSZ : Hid ((tal9 l).getD 0 0 = (nx : Int)) := hSZ
  have HNX : Hid (nx ≤ 65535 ∨ 2 ≠ 0) := by
    have h : (nx : Int) ≤ mst9 2 := by rw [← hSZ]; exact hsz
    unfold mst9 at h
    first | (left; rw [if_pos rfl] at h; omega) | (right; omega)
  have HFX : Hid (∀ g o, xa = some ⟨g, o, none⟩ → 0 < data.length → ¬ WS bw v g ∧ g < w.heap.size) := fx
  have HFA : Hid (∀ g o, a = some ⟨g, o, none⟩ → 0 < n → ¬ WS bw v g) := fa
  have HTO : Hid (TabS w ∧ TabO w) := ⟨T, O⟩
  have HBB : Hid (2 ≤ bw ∧ 2 ≤ B) := ⟨hbw, hB⟩
  have HOL : Hid (bw < w.heap.size ∧ ∀ k, v.ownBlock = some k → B ≤ k ∧ k < w.heap.size) := ⟨hw.b_lt, fun k e => ⟨(hw.own_lt k e).1, (hw.own_lt k e).2.1⟩⟩
  have HW : Hid (WrL w bw B v L) := hw
  clear hw hs hm hx hsz hsd fx fa T O hbw hB hSZ
  go_enter Tryz.func34, Tryz.ntmps34
  go_wp2_with fail
  refine CL.mono ?_
  rintro e w1 ⟨rfl, b1⟩
  clear CL
  go_wp2_with fail
  refine (HPL.out w1 b1 _ (by first | omega | (rw [Int.tmod_eq_emod_of_nonneg (by omega)]; omega))).mono ?_
  rintro e w2 ⟨tb, htb, rfl, TA, b2⟩
  have B2 : Below w.heap.size w w2 := b1.trans (b2.mono b1.size)
  obtain ⟨fi, fs, fo, f0⟩ := fk9_facts 2 (by omega)
  have f2 : (fk9 2)[2]? = some (fnv9 81) := by kernel_rfl
  have q3 := setRow_heap _ w2.heap.size _ (fk9 2) _ _ (heap_alloc_new w2 (.cells #[.int .i64 0, .nilFunc, .nilFunc, .nilFunc] 111))
  have b3 : Below w2.heap.size w2 ((w2.alloc (.cells #[.int .i64 0, .nilFunc, .nilFunc, .nilFunc] 111)).setRow w2.heap.size (fk9 2)) := ((Below.refl w2.heap.size w2).alloc (Nat.le_refl _) _).grown (grown_setRow _ _ _) (by simp) (fun j e => by cases e; exact Nat.le_refl _)
  have HT3 : Hid (Ta9 ((w2.alloc (.cells #[.int .i64 0, .nilFunc, .nilFunc, .nilFunc] 111)).setRow w2.heap.size (fk9 2)) tb (tal9 l)) := TA.keep (b3.block tb TA.lt)
  have c0 := HT3.out.cell (i := 0) (by omega)
  rw [HSZ.out] at c0
  have HB3 : Hid (Below w.heap.size w ((w2.alloc (.cells #[.int .i64 0, .nilFunc, .nilFunc, .nilFunc] 111)).setRow w2.heap.size (fk9 2))) := B2.trans (b3.mono B2.size)
  have HQ3 : Hid (((w2.alloc (.cells #[.int .i64 0, .nilFunc, .nilFunc, .nilFunc] 111)).setRow w2.heap.size (fk9 2)).heap[w2.heap.size]? = some (.cells (fk9 2) 111 (0, 0))) := q3
  have hw2 : w.heap.size ≤ w2.heap.size := B2.size
  have htw : w.heap.size ≤ tb := Nat.le_trans b1.size htb
  clear b1 b2 b3 q3 TA B2 htb HPL f0
  go_wp2_with (refine wpList_store_row rfl 111 (.tmp 11) (.tmp 24) rfl w2.heap.size (fk9 2) rfl rfl _ _ (heap_alloc_new w2 _) fi fs fo ?_)
  generalize (w2.alloc (.cells #[.int .i64 0, .nilFunc, .nilFunc, .nilFunc] 111)).setRow w2.heap.size (fk9 2) = w3 at *
  have HI0 : WrI w3 w3 bw B v L := WrI.start (HW.out.below8 HB3.out)
  have CPU := put8 HI0 4 3 (by decide) (by omega) (by omega)
  refine CPU.mono ?_
  rintro e w4 ⟨rfl, v4, W4, K4, F4⟩
  have hww : w2.heap.size < w3.heap.size := (Array.getElem?_eq_some_iff.1 HQ3.out).1
  have hfr : ∀ k, w.heap.size ≤ k → ¬ WS bw v k := fun k hk => by
    have h := HOL.out
    rintro (e | e)
    · omega
    · have := (h.2 k e).2; omega
  have q4 := K4.heap HQ3.out (hfr _ hw2)
  have d2 : w4.cell? ⟨w2.heap.size, 2, none⟩ = some (.func (.func 81) #[] #[]) := (cell_of_row w4 _ 2 _ _ _ q4).trans f2
  have hown : ∀ g, g < w.heap.size → ¬ WS bw v g → ¬ WS bw v4 g := fun g hg h => by
    rintro (q | q)
    · exact h (.inl q)
    · rcases F4 g q with q | q
      · exact h (.inr q)
      · have := HB3.out.size; omega
  have ST4 : SegT w4 a l := (HS.out.old HB3.out).kp K4 (fun g o e h => HFA.out g o e (by have := hn.out; omega))
  have fa4 : ∀ g o, a = some ⟨g, o, none⟩ → 0 < n → ¬ WS bw v4 g := fun g o e h => hown g (HS.out.lt g o e (by have := hn.out; omega)) (HFA.out g o e h)
  have hl4 : (L ++ bN 4 3).length = L.length + 3 := by rw [List.length_append, bN_len]
  have T4 : TabS w4 := SegZ.kp (HTO.out.1.old HB3.out) K4 (fun g o e _ => by
    cases e
    rintro (q | q)
    · have := HBB.out.1; omega
    · have := (HOL.out.2 _ q).1; have := HBB.out.2; omega)
  have O4 : TabO w4 := SegZ.kp (HTO.out.2.old HB3.out) K4 (fun g o e _ => by
    cases e
    rintro (q | q)
    · have := HBB.out.1; omega
    · have := (HOL.out.2 _ q).1; have := HBB.out.2; omega)
  have CT := fun dv => pwow9 bw B v4 (L ++ bN 4 3) l a n cap hn dv tb w4 W4 (by omega) ST4 HM.out (HT3.out.keep (K4.block tb HT3.out.lt (hfr tb htw))) T4 O4 HBB.out.1 HBB.out.2 fa4
  have HFIN : Hid (∀ W, WrI w4 W bw B v4 ((L ++ bN 4 3) ++ (hd8 (oL9 (tal9 l)) (oD9 (tal9 l)) ++ bdy9 (oL9 (tal9 l)) (oD9 (tal9 l)) l)) → WrI w W bw B v (L ++ blk9 2 (L.length % 8) false data l)) := fun W h => by
    obtain ⟨v5, r5, k5, f5⟩ := h
    have := WrI.up HB3.out (WrI.next K4 F4 r5 k5 f5)
    rw [List.append_assoc] at this
    unfold blk9
    rw [if_neg (by omega), if_neg (by omega)]
    exact this
  clear HI0 CPU c0 q4 ST4 fa4 hown hfr K4 F4 W4 HT3 HQ3 HB3 hl4
  go_wp2_with fail
  refine (CT _).mono ?_
  rintro e w6 ⟨rfl, HI6⟩
  have HF := HFIN.out w6 HI6
  clear CT HFIN HI6
  go_wp2_with fail
  go_ret
  exact ⟨rfl, HF⟩
set_option maxRecDepth 100000 in
set_option maxHeartbeats 8000000 in
theorem pwr9_2t (bw B : Nat) (v : Value) (L : List Bool) (data : List Int) (xa : Option Addr) (nx xc : Nat) (hdl : Hid (data.length = nx)) (l : List Tok7) (a : Option Addr) (n cap : Nat) (hn : Hid (l.length = n)) (w : World) (hw : WrL w bw B v L) (hL : L.length ≤ 900000000000) (hs : SegT w a l) (hm : mer9 l = 0) (hx : siz7 l = nx) (hsz : (tal9 l).getD 0 0 ≤ mst9 2) (hsd : Seg w xa data) (hnil : xa = none → xc = 0) (fx : ∀ g o, xa = some ⟨g, o, none⟩ → 0 < data.length → ¬ WS bw v g ∧ g < w.heap.size) (fa : ∀ g o, a = some ⟨g, o, none⟩ → 0 < n → ¬ WS bw v g) (T : TabS w) (O : TabO w) (hbw : 2 ≤ bw) (hB : 2 ≤ B) :
    Calls Tryz.prog 34 #[.pointer (some ⟨bw, 0, none⟩), .int .i64 2, .bool true, .slice xa nx xc, .slice a n cap] w fun e w' => e = .returned (.int .i64 0) ∧ WrI w w' bw B v (L ++ blk9 2 (L.length % 8) true data l) := by
  have CL := len_any bw B v L w hw (by omega)
  have hSZ : (tal9 l).getD 0 0 = (nx : Int) := by rw [tal9_size hm hs.fit, hx]
  have HPL : Hid (∀ W, Below w.heap.size w W → ∀ x : Int, x = ((L.length % 8 : Nat) : Int) → Calls Tryz.prog 51 #[.int .i64 2, .int .i64 x, .slice a n cap] W fun e w' => ∃ b, W.heap.size ≤ b ∧ e = .returned (.tuple #[.agg (fk9 2), .pointer (some ⟨b, 0, none⟩), .int .i64 0]) ∧ Ta9 w' b (tal9 l) ∧ Below W.heap.size W w') := fun W hW x hx => by
    subst hx
    exact pplan9_ok l a n cap hn 2 (by omega) _ (by omega) W (hs.old hW) (by have := (mer9_zero hm).1; rw [hn.out] at this; exact this) (mer9_zero hm).2 hsz
  have HS : Hid (SegT w a l) := hs
  have HM : Hid (mer9 l = 0) := hm
  have HSD : Hid (Seg w xa data) := hsd
  have HSZ : Hid ((tal9 l).getD 0 0 = (nx : Int)) := hSZ
  have HNX : Hid (nx ≤ 65535 ∨ 2 ≠ 0) := by
    have h : (nx : Int) ≤ mst9 2 := by rw [← hSZ]; exact hsz
    unfold mst9 at h
    first | (left; rw [if_pos rfl] at h; omega) | (right; omega)
  have HFX : Hid (∀ g o, xa = some ⟨g, o, none⟩ → 0 < data.length → ¬ WS bw v g ∧ g < w.heap.size) := fx
  have HFA : Hid (∀ g o, a = some ⟨g, o, none⟩ → 0 < n → ¬ WS bw v g) := fa
  have HTO : Hid (TabS w ∧ TabO w) := ⟨T, O⟩
  have HBB : Hid (2 ≤ bw ∧ 2 ≤ B) := ⟨hbw, hB⟩
  have HOL : Hid (bw < w.heap.size ∧ ∀ k, v.ownBlock = some k → B ≤ k ∧ k < w.heap.size) := ⟨hw.b_lt, fun k e => ⟨(hw.own_lt k e).1, (hw.own_lt k e).2.1⟩⟩
  have HW : Hid (WrL w bw B v L) := hw
  clear hw hs hm hx hsz hsd fx fa T O hbw hB hSZ
  go_enter Tryz.func34, Tryz.ntmps34
  go_wp2_with fail
  refine CL.mono ?_
  rintro e w1 ⟨rfl, b1⟩
  clear CL
  go_wp2_with fail
  refine (HPL.out w1 b1 _ (by first | omega | (rw [Int.tmod_eq_emod_of_nonneg (by omega)]; omega))).mono ?_
  rintro e w2 ⟨tb, htb, rfl, TA, b2⟩
  have B2 : Below w.heap.size w w2 := b1.trans (b2.mono b1.size)
  obtain ⟨fi, fs, fo, f0⟩ := fk9_facts 2 (by omega)
  have f2 : (fk9 2)[2]? = some (fnv9 81) := by kernel_rfl
  have q3 := setRow_heap _ w2.heap.size _ (fk9 2) _ _ (heap_alloc_new w2 (.cells #[.int .i64 0, .nilFunc, .nilFunc, .nilFunc] 111))
  have b3 : Below w2.heap.size w2 ((w2.alloc (.cells #[.int .i64 0, .nilFunc, .nilFunc, .nilFunc] 111)).setRow w2.heap.size (fk9 2)) := ((Below.refl w2.heap.size w2).alloc (Nat.le_refl _) _).grown (grown_setRow _ _ _) (by simp) (fun j e => by cases e; exact Nat.le_refl _)
  have HT3 : Hid (Ta9 ((w2.alloc (.cells #[.int .i64 0, .nilFunc, .nilFunc, .nilFunc] 111)).setRow w2.heap.size (fk9 2)) tb (tal9 l)) := TA.keep (b3.block tb TA.lt)
  have c0 := HT3.out.cell (i := 0) (by omega)
  rw [HSZ.out] at c0
  have i3 : bits .or .u64 4 1 = 5 := by decide
  have HB3 : Hid (Below w.heap.size w ((w2.alloc (.cells #[.int .i64 0, .nilFunc, .nilFunc, .nilFunc] 111)).setRow w2.heap.size (fk9 2))) := B2.trans (b3.mono B2.size)
  have HQ3 : Hid (((w2.alloc (.cells #[.int .i64 0, .nilFunc, .nilFunc, .nilFunc] 111)).setRow w2.heap.size (fk9 2)).heap[w2.heap.size]? = some (.cells (fk9 2) 111 (0, 0))) := q3
  have hw2 : w.heap.size ≤ w2.heap.size := B2.size
  have htw : w.heap.size ≤ tb := Nat.le_trans b1.size htb
  clear b1 b2 b3 q3 TA B2 htb HPL f0
  go_wp2_with (refine wpList_store_row rfl 111 (.tmp 11) (.tmp 24) rfl w2.heap.size (fk9 2) rfl rfl _ _ (heap_alloc_new w2 _) fi fs fo ?_)
  generalize (w2.alloc (.cells #[.int .i64 0, .nilFunc, .nilFunc, .nilFunc] 111)).setRow w2.heap.size (fk9 2) = w3 at *
  have HI0 : WrI w3 w3 bw B v L := WrI.start (HW.out.below8 HB3.out)
  have CPU := put8 HI0 5 3 (by decide) (by omega) (by omega)
  refine CPU.mono ?_
  rintro e w4 ⟨rfl, v4, W4, K4, F4⟩
  have hww : w2.heap.size < w3.heap.size := (Array.getElem?_eq_some_iff.1 HQ3.out).1
  have hfr : ∀ k, w.heap.size ≤ k → ¬ WS bw v k := fun k hk => by
    have h := HOL.out
    rintro (e | e)
    · omega
    · have := (h.2 k e).2; omega
  have q4 := K4.heap HQ3.out (hfr _ hw2)
  have d2 : w4.cell? ⟨w2.heap.size, 2, none⟩ = some (.func (.func 81) #[] #[]) := (cell_of_row w4 _ 2 _ _ _ q4).trans f2
  have hown : ∀ g, g < w.heap.size → ¬ WS bw v g → ¬ WS bw v4 g := fun g hg h => by
    rintro (q | q)
    · exact h (.inl q)
    · rcases F4 g q with q | q
      · exact h (.inr q)
      · have := HB3.out.size; omega
  have ST4 : SegT w4 a l := (HS.out.old HB3.out).kp K4 (fun g o e h => HFA.out g o e (by have := hn.out; omega))
  have fa4 : ∀ g o, a = some ⟨g, o, none⟩ → 0 < n → ¬ WS bw v4 g := fun g o e h => hown g (HS.out.lt g o e (by have := hn.out; omega)) (HFA.out g o e h)
  have hl4 : (L ++ bN 5 3).length = L.length + 3 := by rw [List.length_append, bN_len]
  have T4 : TabS w4 := SegZ.kp (HTO.out.1.old HB3.out) K4 (fun g o e _ => by
    cases e
    rintro (q | q)
    · have := HBB.out.1; omega
    · have := (HOL.out.2 _ q).1; have := HBB.out.2; omega)
  have O4 : TabO w4 := SegZ.kp (HTO.out.2.old HB3.out) K4 (fun g o e _ => by
    cases e
    rintro (q | q)
    · have := HBB.out.1; omega
    · have := (HOL.out.2 _ q).1; have := HBB.out.2; omega)
  have CT := fun dv => pwow9 bw B v4 (L ++ bN 5 3) l a n cap hn dv tb w4 W4 (by omega) ST4 HM.out (HT3.out.keep (K4.block tb HT3.out.lt (hfr tb htw))) T4 O4 HBB.out.1 HBB.out.2 fa4
  have HFIN : Hid (∀ W, WrI w4 W bw B v4 ((L ++ bN 5 3) ++ (hd8 (oL9 (tal9 l)) (oD9 (tal9 l)) ++ bdy9 (oL9 (tal9 l)) (oD9 (tal9 l)) l)) → WrI w W bw B v (L ++ blk9 2 (L.length % 8) true data l)) := fun W h => by
    obtain ⟨v5, r5, k5, f5⟩ := h
    have := WrI.up HB3.out (WrI.next K4 F4 r5 k5 f5)
    rw [List.append_assoc] at this
    unfold blk9
    rw [if_neg (by omega), if_neg (by omega)]
    exact this
  clear HI0 CPU c0 i3 q4 ST4 fa4 hown hfr K4 F4 W4 HT3 HQ3 HB3 hl4
  go_wp2_with fail
  refine (CT _).mono ?_
  rintro e w6 ⟨rfl, HI6⟩
  have HF := HFIN.out w6 HI6
  clear CT HFIN HI6
  go_wp2_with fail
  go_ret
  exact ⟨rfl, HF⟩
end Go.Proofs.YtcifalelnfeggaaGreatDoor

namespace Go.Proofs.YtcifalelnfeggaaGreatDoor
open Go.RowKit
set_option linter.unusedVariables false

/-! The landed block: Write, whatever it is given. -/
theorem pwr9_ok (bw B : Nat) (v : Value) (L : List Bool) (last : Bool) (data : List Int) (xa : Option Addr) (nx xc : Nat) (hdl : Hid (data.length = nx)) (l : List Tok7) (a : Option Addr) (n cap : Nat) (hn : Hid (l.length = n)) (k : Nat) (hk : k < 3) (w : World) (hw : WrL w bw B v L) (hL : L.length ≤ 900000000000) (hs : SegT w a l) (hm : mer9 l = 0) (hx : siz7 l = nx) (hsz : (tal9 l).getD 0 0 ≤ mst9 k) (hsd : Seg w xa data) (hnil : xa = none → xc = 0) (fx : ∀ g o, xa = some ⟨g, o, none⟩ → 0 < data.length → ¬ WS bw v g ∧ g < w.heap.size) (fa : ∀ g o, a = some ⟨g, o, none⟩ → 0 < n → ¬ WS bw v g) (T : TabS w) (O : TabO w) (hbw : 2 ≤ bw) (hB : 2 ≤ B) :
    Calls Tryz.prog 34 #[.pointer (some ⟨bw, 0, none⟩), .int .i64 (k : Int), .bool last, .slice xa nx xc, .slice a n cap] w fun e w' => e = .returned (.int .i64 0) ∧ WrI w w' bw B v (L ++ blk9 k (L.length % 8) last data l) := by
  obtain rfl | rfl | rfl : k = 0 ∨ k = 1 ∨ k = 2 := by omega
  · cases last
    · exact pwr9_0f bw B v L data xa nx xc hdl l a n cap hn w hw hL hs hm hx hsz hsd hnil fx fa T O hbw hB
    · exact pwr9_0t bw B v L data xa nx xc hdl l a n cap hn w hw hL hs hm hx hsz hsd hnil fx fa T O hbw hB
  · cases last
    · exact pwr9_1f bw B v L data xa nx xc hdl l a n cap hn w hw hL hs hm hx hsz hsd hnil fx fa T O hbw hB
    · exact pwr9_1t bw B v L data xa nx xc hdl l a n cap hn w hw hL hs hm hx hsz hsd hnil fx fa T O hbw hB
  · cases last
    · exact pwr9_2f bw B v L data xa nx xc hdl l a n cap hn w hw hL hs hm hx hsz hsd hnil fx fa T O hbw hB
    · exact pwr9_2t bw B v L data xa nx xc hdl l a n cap hn w hw hL hs hm hx hsz hsd hnil fx fa T O hbw hB
set_option maxRecDepth 100000 in
set_option maxHeartbeats 4000000 in
theorem pwr9_no (bw B : Nat) (v : Value) (L : List Bool) (lv xv : Value) (l : List Tok7) (a : Option Addr) (n cap : Nat) (hn : Hid (l.length = n)) (k : Int) (w : World) (hw : WrL w bw B v L) (hL : L.length ≤ 900000000000) (hs : SegT w a l) (he : ple9 k ((L.length % 8 : Nat) : Int) l ≠ 0) :
    Calls Tryz.prog 34 #[.pointer (some ⟨bw, 0, none⟩), .int .i64 k, lv, xv, .slice a n cap] w fun e w' => e = .returned (.int .i64 (ple9 k ((L.length % 8 : Nat) : Int) l)) ∧ WrI w w' bw B v L := by
  have CL := len_any bw B v L w hw (by omega)
  have HPL : Hid (∀ W, Below w.heap.size w W → ∀ x : Int, x = ((L.length % 8 : Nat) : Int) → Calls Tryz.prog 51 #[.int .i64 k, .int .i64 x, .slice a n cap] W (PnQ9 W (ple9 k ((L.length % 8 : Nat) : Int) l))) := fun W hW x hx => by
    subst hx
    exact pplan9_no l a n cap hn k _ W (hs.old hW) he
  obtain ⟨E, hE⟩ : ∃ E, E = ple9 k ((L.length % 8 : Nat) : Int) l := ⟨_, rfl⟩
  rw [← hE] at HPL he ⊢
  have hEb : (E == 0) = false := by rw [beq_eq_false_iff_ne]; exact he
  have HW : Hid (WrL w bw B v L) := hw
  clear hE hs hw
  go_enter Tryz.func34, Tryz.ntmps34
  go_wp2_with fail
  refine CL.mono ?_
  rintro e w0 ⟨rfl, b0⟩
  clear CL
  go_wp2_with fail
  refine (HPL.out w0 b0 _ (by first | omega | (rw [Int.tmod_eq_emod_of_nonneg (by omega)]; omega))).mono ?_
  rintro e w1 ⟨rfl, b1⟩
  have b01 := b0.trans (b1.mono b0.size)
  have B2 : Below w.heap.size w ((w1.alloc (.cells #[.int .i64 0, .nilFunc, .nilFunc, .nilFunc] 111)).setRow w1.heap.size z0f9) := b01.trans ((((Below.refl w1.heap.size w1).alloc (Nat.le_refl _) _).grown (grown_setRow _ _ _) (by simp) (fun j e => by cases e; exact Nat.le_refl _)).mono b01.size)
  have HB2 : Hid (Below w.heap.size w ((w1.alloc (.cells #[.int .i64 0, .nilFunc, .nilFunc, .nilFunc] 111)).setRow w1.heap.size z0f9)) := B2
  clear b0 b1 b01 B2 HPL
  go_wp2_with (refine wpList_store_row rfl 111 (.tmp 11) (.tmp 24) rfl w1.heap.size z0f9 rfl rfl _ _ (heap_alloc_new w1 _) z0f9_facts.1 z0f9_facts.2.1 z0f9_facts.2.2.1 ?_)
  go_ret
  exact ⟨rfl, WrI.up HB2.out (WrI.start (HW.out.below8 HB2.out))⟩
set_option maxRecDepth 100000 in
set_option maxHeartbeats 4000000 in
theorem pwr9_len (bw B : Nat) (v : Value) (L : List Bool) (lv : Value) (xa : Option Addr) (nx xc : Nat) (hnx : nx ≤ 9000000000000000000) (l : List Tok7) (a : Option Addr) (n cap : Nat) (hn : Hid (l.length = n)) (k : Nat) (hk : k < 3) (w : World) (hw : WrL w bw B v L) (hL : L.length ≤ 900000000000) (hs : SegT w a l) (hm : mer9 l = 0) (hx : siz7 l ≠ nx) (hsz : (tal9 l).getD 0 0 ≤ mst9 k) :
    Calls Tryz.prog 34 #[.pointer (some ⟨bw, 0, none⟩), .int .i64 (k : Int), lv, .slice xa nx xc, .slice a n cap] w fun e w' => e = .returned (.int .i64 1) ∧ WrI w w' bw B v L := by
  have CL := len_any bw B v L w hw (by omega)
  have hSZ : (tal9 l).getD 0 0 = (siz7 l : Int) := tal9_size hm hs.fit
  have HPL : Hid (∀ W, Below w.heap.size w W → ∀ x : Int, x = ((L.length % 8 : Nat) : Int) → Calls Tryz.prog 51 #[.int .i64 (k : Int), .int .i64 x, .slice a n cap] W fun e w' => ∃ b, W.heap.size ≤ b ∧ e = .returned (.tuple #[.agg (fk9 k), .pointer (some ⟨b, 0, none⟩), .int .i64 0]) ∧ Ta9 w' b (tal9 l) ∧ Below W.heap.size W w') := fun W hW x hx => by
    subst hx
    exact pplan9_ok l a n cap hn k hk _ (by omega) W (hs.old hW) (by have := (mer9_zero hm).1; rw [hn.out] at this; exact this) (mer9_zero hm).2 hsz
  obtain ⟨S, hS⟩ : ∃ S, S = siz7 l := ⟨_, rfl⟩
  rw [← hS] at hSZ hx
  have hne : ¬ (nx : Int) = (S : Int) := by omega
  have hneb : ((nx : Int) == (S : Int)) = false := by rw [beq_eq_false_iff_ne]; exact hne
  have HSZ : Hid ((tal9 l).getD 0 0 = (S : Int)) := hSZ
  have HW : Hid (WrL w bw B v L) := hw
  clear hw hs hm hx hsz hS hSZ
  go_enter Tryz.func34, Tryz.ntmps34
  go_wp2_with fail
  refine CL.mono ?_
  rintro e w1 ⟨rfl, b1⟩
  clear CL
  go_wp2_with fail
  refine (HPL.out w1 b1 _ (by first | omega | (rw [Int.tmod_eq_emod_of_nonneg (by omega)]; omega))).mono ?_
  rintro e w2 ⟨tb, htb, rfl, TA, b2⟩
  have B2 : Below w.heap.size w w2 := b1.trans (b2.mono b1.size)
  obtain ⟨fi, fs, fo, f0⟩ := fk9_facts k hk
  have b3 : Below w2.heap.size w2 ((w2.alloc (.cells #[.int .i64 0, .nilFunc, .nilFunc, .nilFunc] 111)).setRow w2.heap.size (fk9 k)) := ((Below.refl w2.heap.size w2).alloc (Nat.le_refl _) _).grown (grown_setRow _ _ _) (by simp) (fun j e => by cases e; exact Nat.le_refl _)
  have c0 := (TA.keep (b3.block tb TA.lt)).cell (i := 0) (by omega)
  rw [HSZ.out] at c0
  have HB3 : Hid (Below w.heap.size w ((w2.alloc (.cells #[.int .i64 0, .nilFunc, .nilFunc, .nilFunc] 111)).setRow w2.heap.size (fk9 k))) := B2.trans (b3.mono B2.size)
  clear b1 b2 b3 TA B2 htb HPL f0
  go_wp2_with (refine wpList_store_row rfl 111 (.tmp 11) (.tmp 24) rfl w2.heap.size (fk9 k) rfl rfl _ _ (heap_alloc_new w2 _) fi fs fo ?_)
  go_ret
  exact ⟨rfl, WrI.up HB3.out (WrI.start (HW.out.below8 HB3.out))⟩
set_option maxRecDepth 100000 in
set_option maxHeartbeats 1000000 in
theorem pwr9_nil (k : Int) (lv xv tv : Value) (w : World) :
    Calls Tryz.prog 34 #[.pointer none, .int .i64 k, lv, xv, tv] w fun e w' => e = .returned (.int .i64 2) ∧ w' = w := by
  go_enter Tryz.func34, Tryz.ntmps34
  go_wp2_with fail
  go_ret
  exact ⟨rfl, rfl⟩
/-- What Write answers. -/
def pwe9 (k : Int) (x : Nat) (nx : Nat) (l : List Tok7) : Int := if ple9 k (x : Int) l ≠ 0 then ple9 k (x : Int) l else if siz7 l ≠ nx then 1 else 0
theorem pwr9_any (bw B : Nat) (v : Value) (L : List Bool) (last : Bool) (data : List Int) (xa : Option Addr) (nx xc : Nat) (hdl : Hid (data.length = nx)) (hnx : nx ≤ 9000000000000000000) (l : List Tok7) (a : Option Addr) (n cap : Nat) (hn : Hid (l.length = n)) (k : Int) (w : World) (hw : WrL w bw B v L) (hL : L.length ≤ 900000000000) (hs : SegT w a l) (hsd : Seg w xa data) (hnil : xa = none → xc = 0) (fx : ∀ g o, xa = some ⟨g, o, none⟩ → 0 < data.length → ¬ WS bw v g ∧ g < w.heap.size) (fa : ∀ g o, a = some ⟨g, o, none⟩ → 0 < n → ¬ WS bw v g) (T : TabS w) (O : TabO w) (hbw : 2 ≤ bw) (hB : 2 ≤ B) :
    Calls Tryz.prog 34 #[.pointer (some ⟨bw, 0, none⟩), .int .i64 k, .bool last, .slice xa nx xc, .slice a n cap] w fun e w' => e = .returned (.int .i64 (pwe9 k (L.length % 8) nx l)) ∧ WrI w w' bw B v (L ++ if pwe9 k (L.length % 8) nx l = 0 then blk9 k.toNat (L.length % 8) last data l else []) := by
  by_cases h : ple9 k ((L.length % 8 : Nat) : Int) l = 0
  · obtain ⟨h1, h2, h3, h4⟩ := ple9_zero h
    obtain ⟨kk, rfl⟩ : ∃ kk : Nat, k = (kk : Int) := ⟨k.toNat, by omega⟩
    rw [Int.toNat_natCast] at h4
    by_cases hx : siz7 l = nx
    · have e : pwe9 (kk : Int) (L.length % 8) nx l = 0 := by unfold pwe9; rw [if_neg (fun q => q h), if_neg (fun q => q hx)]
      rw [e, if_pos rfl, Int.toNat_natCast]
      exact pwr9_ok bw B v L last data xa nx xc hdl l a n cap hn kk (by omega) w hw hL hs h3 hx h4 hsd hnil fx fa T O hbw hB
    · have e : pwe9 (kk : Int) (L.length % 8) nx l = 1 := by unfold pwe9; rw [if_neg (fun q => q h), if_pos hx]
      rw [e, if_neg (by omega), List.append_nil]
      exact pwr9_len bw B v L _ xa nx xc hnx l a n cap hn kk (by omega) w hw hL hs h3 hx h4
  · have e : pwe9 k (L.length % 8) nx l = ple9 k ((L.length % 8 : Nat) : Int) l := by unfold pwe9; rw [if_pos h]
    rw [e, if_neg h, List.append_nil]
    exact pwr9_no bw B v L _ _ l a n cap hn k w hw hL hs h
end Go.Proofs.YtcifalelnfeggaaGreatDoor

namespace Go.Proofs.YtcifalelnfeggaaGreatDoor
open Go.RowKit
set_option linter.unusedVariables false

/-! The document's Write, whatever it is given. -/
def RwN9 (w : World) (er : Int) (e : Ending) (w' : World) : Prop := e = .returned (.int .i64 er) ∧ Below w.heap.size w w'
set_option maxRecDepth 100000 in
set_option maxHeartbeats 4000000 in
theorem rwr9_arg (k : Int) (h : k < 0 ∨ 2 < k) (wv lv xv tv : Value) (w : World) : Calls Tryz.prog 35 #[wv, .int .i64 k, lv, xv, tv] w (RwN9 w 1) := by
  by_cases h1 : k < 0
  · go_enter Tryz.func35, Tryz.ntmps35
    go_wp2_with fail
    go_ret
    exact ⟨rfl, Below.refl _ _⟩
  · have h2 : 2 < k := by omega
    go_enter Tryz.func35, Tryz.ntmps35
    go_wp2_with fail
    go_ret
    exact ⟨rfl, Below.refl _ _⟩
set_option maxRecDepth 100000 in
set_option maxHeartbeats 4000000 in
theorem rwr9_mer (k : Nat) (hk : k < 3) (l : List Tok7) (a : Option Addr) (n cap : Nat) (hn : Hid (l.length = n)) (hl : n ≤ 5864062014634) (hm : mer9 l ≠ 0) (wv lv xv : Value) (w : World) (hs : SegT w a l) : Calls Tryz.prog 35 #[wv, .int .i64 (k : Int), lv, xv, .slice a n cap] w (RwN9 w (mer9 l)) := by
  have j1 : ¬ (k : Int) < 0 := by omega
  have j2 : ¬ (2 : Int) < (k : Int) := by omega
  have CM := rmay9 l a n cap hn w hs hl
  obtain ⟨E, hEE⟩ : ∃ E, E = mer9 l := ⟨_, rfl⟩
  rw [← hEE] at CM hm ⊢
  have hEb : (E == 0) = false := by rw [beq_eq_false_iff_ne]; exact hm
  clear hs hEE
  go_enter Tryz.func35, Tryz.ntmps35
  go_wp2_with fail
  refine CM.mono ?_
  rintro e w1 ⟨rfl, b1⟩
  clear CM
  go_wp2_with fail
  go_ret
  exact ⟨rfl, b1⟩
set_option maxRecDepth 100000 in
set_option maxHeartbeats 4000000 in
theorem rwr9_size (k : Nat) (hk : k < 3) (l : List Tok7) (a : Option Addr) (n cap : Nat) (hn : Hid (l.length = n)) (hm : mer9 l = 0) (xa : Option Addr) (nx xc : Nat) (hne : siz7 l ≠ nx ∨ (k = 0 ∧ 65535 < siz7 l)) (wv lv : Value) (w : World) (hs : SegT w a l) : Calls Tryz.prog 35 #[wv, .int .i64 (k : Int), lv, .slice xa nx xc, .slice a n cap] w (RwN9 w (if k = 0 ∧ 65535 < siz7 l then 90 else 1)) := by
  have j1 : ¬ (k : Int) < 0 := by omega
  have j2 : ¬ (2 : Int) < (k : Int) := by omega
  have hn6 : n ≤ 65536 := by have := (mer9_zero hm).1; rw [hn.out] at this; exact this
  have CM := rmay9 l a n cap hn w hs (by omega)
  rw [hm] at CM
  have hszb := siz7_le l
  obtain ⟨S, hS⟩ : ∃ S, S = siz7 l := ⟨_, rfl⟩
  have HSZ : Hid (∀ W, Below w.heap.size w W → Calls Tryz.prog 32 #[.slice a n cap] W fun e w' => e = .returned (.int .i64 (S : Int)) ∧ Below W.heap.size W w') := fun W hW => by
    have := rsize7 l a n cap hn W (hs.old hW) (by omega)
    rw [← hS] at this
    exact this
  rw [← hS, hn.out] at hszb
  rw [← hS] at hne ⊢
  clear hs hS hm
  by_cases hk0 : k = 0
  · subst hk0
    by_cases hb : 65535 < S
    · rw [if_pos ⟨rfl, hb⟩]
      have hbi : (65535 : Int) < (S : Int) := by omega
      go_enter Tryz.func35, Tryz.ntmps35
      go_wp2_with fail
      refine CM.mono ?_
      rintro e w1 ⟨rfl, b1⟩
      clear CM
      go_wp2_with fail
      refine (HSZ.out w1 b1).mono ?_
      rintro e w2 ⟨rfl, b2⟩
      have B2 : Below w.heap.size w w2 := b1.trans (b2.mono b1.size)
      clear HSZ
      go_wp2_with fail
      go_ret
      exact ⟨rfl, B2⟩
    · rw [if_neg (fun q => hb q.2)]
      have hbi : ¬ (65535 : Int) < (S : Int) := by omega
      have hq : S ≠ nx := hne.resolve_right (fun q => hb q.2)
      have hqi : ¬ (nx : Int) = (S : Int) := by omega
      have hqb : ((nx : Int) == (S : Int)) = false := by rw [beq_eq_false_iff_ne]; exact hqi
      go_enter Tryz.func35, Tryz.ntmps35
      go_wp2_with fail
      refine CM.mono ?_
      rintro e w1 ⟨rfl, b1⟩
      clear CM
      go_wp2_with fail
      refine (HSZ.out w1 b1).mono ?_
      rintro e w2 ⟨rfl, b2⟩
      have B2 : Below w.heap.size w w2 := b1.trans (b2.mono b1.size)
      clear b1 b2
      go_wp2_with fail
      refine (HSZ.out w2 B2).mono ?_
      rintro e w3 ⟨rfl, b3⟩
      have B3 : Below w.heap.size w w3 := B2.trans (b3.mono B2.size)
      clear HSZ b3 B2
      go_wp2_with fail
      go_ret
      exact ⟨rfl, B3⟩
  · rw [if_neg (fun q => hk0 q.1)]
    have hq : S ≠ nx := hne.resolve_right (fun q => hk0 q.1)
    have hqi : ¬ (nx : Int) = (S : Int) := by omega
    have hqb : ((nx : Int) == (S : Int)) = false := by rw [beq_eq_false_iff_ne]; exact hqi
    have hki : ¬ (k : Int) = 0 := by omega
    have hkb : ((k : Int) == 0) = false := by rw [beq_eq_false_iff_ne]; exact hki
    go_enter Tryz.func35, Tryz.ntmps35
    go_wp2_with fail
    refine CM.mono ?_
    rintro e w1 ⟨rfl, b1⟩
    clear CM
    go_wp2_with fail
    refine (HSZ.out w1 b1).mono ?_
    rintro e w2 ⟨rfl, b2⟩
    have B2 : Below w.heap.size w w2 := b1.trans (b2.mono b1.size)
    clear HSZ b1 b2
    go_wp2_with fail
    go_ret
    exact ⟨rfl, B2⟩
theorem rwr9_all (bx B : Nat) (u : Value) (L : List Bool) (last : Bool) (data : List Int) (xa : Option Addr) (nx xc : Nat) (hdl : Hid (data.length = nx)) (l : List Tok7) (a : Option Addr) (n cap : Nat) (hn : Hid (l.length = n)) (hln : n ≤ 5864062014634) (k : Int) (w : World) (hw : RwL w bx B u L) (hL : L.length ≤ 100000000000) (hs : SegT w a l) (hsd : Seg w xa data) (fx : ∀ g o, xa = some ⟨g, o, none⟩ → 0 < data.length → ¬ WS bx u g ∧ g < w.heap.size) (fa : ∀ g o, a = some ⟨g, o, none⟩ → 0 < l.length → ¬ WS bx u g) :
    Calls Tryz.prog 35 #[.pointer (some ⟨bx, 0, none⟩), .int .i64 k, .bool last, .slice xa nx xc, .slice a n cap] w fun e w' => e = .returned (.int .i64 (pwe9 k (L.length % 8) nx l)) ∧ RwI w w' bx B u (L ++ if pwe9 k (L.length % 8) nx l = 0 then blk9 k.toNat (L.length % 8) last data l else []) := by
  have fin : ∀ (er : Int), er ≠ 0 → pwe9 k (L.length % 8) nx l = er → ∀ e w', RwN9 w er e w' → e = .returned (.int .i64 (pwe9 k (L.length % 8) nx l)) ∧ RwI w w' bx B u (L ++ if pwe9 k (L.length % 8) nx l = 0 then blk9 k.toNat (L.length % 8) last data l else []) := fun er h0 he e w' ⟨h1, h2⟩ => by
    rw [he, if_neg h0, List.append_nil]
    exact ⟨h1, (RwI.start hw).old h2⟩
  by_cases h1 : k < 0 ∨ 2 < k
  · have e : pwe9 k (L.length % 8) nx l = 1 := by
      have : ple9 k ((L.length % 8 : Nat) : Int) l = 1 := by unfold ple9; rw [if_pos (by omega)]
      unfold pwe9
      rw [this, if_pos (by omega)]
    exact (rwr9_arg k h1 _ _ _ _ w).mono (fin 1 (by omega) e)
  · obtain ⟨kk, rfl⟩ : ∃ kk : Nat, k = (kk : Int) := ⟨k.toNat, by omega⟩
    have hkk : kk < 3 := by omega
    by_cases hm : mer9 l = 0
    · have hp : ple9 (kk : Int) ((L.length % 8 : Nat) : Int) l = if mst9 kk < (tal9 l).getD 0 0 then 90 else 0 := ple9_in' (by omega) hkk hm
      rw [tal9_size hm hs.fit] at hp
      have hszb := siz7_le l
      have hl6 := (mer9_zero hm).1
      by_cases hne : siz7 l ≠ nx ∨ (kk = 0 ∧ 65535 < siz7 l)
      · refine (rwr9_size kk hkk l a n cap hn hm xa nx xc hne _ _ w hs).mono (fin _ ?_ ?_)
        · split <;> omega
        · unfold pwe9
          by_cases hb : kk = 0 ∧ 65535 < siz7 l
          · obtain ⟨rfl, hb2⟩ := hb
            rw [if_pos (by unfold mst9; rw [if_pos rfl]; omega)] at hp
            rw [hp, if_pos (by omega), if_pos ⟨rfl, hb2⟩]
          · have hq : ¬ mst9 kk < (siz7 l : Int) := by
              unfold mst9
              split
              · rename_i h; intro q; exact hb ⟨h, by omega⟩
              · omega
            rw [if_neg hq] at hp
            rw [hp, if_neg (by omega), if_neg hb, if_pos (hne.resolve_right hb)]
      · have hx : siz7 l = nx := Decidable.of_not_not (fun q => hne (.inl q))
        have hb : ¬ (kk = 0 ∧ 65535 < siz7 l) := fun q => hne (.inr q)
        have hq : ¬ mst9 kk < (siz7 l : Int) := by
          unfold mst9
          split
          · rename_i h; intro q; exact hb ⟨h, by omega⟩
          · omega
        rw [if_neg hq] at hp
        have e : pwe9 (kk : Int) (L.length % 8) nx l = 0 := by unfold pwe9; rw [hp, if_neg (by omega), if_neg (fun q => q hx)]
        rw [e, if_pos rfl, Int.toNat_natCast]
        exact rwr9_any bx B u L last data xa nx xc hdl l a n cap hn kk hkk w hw hL hs hm hx (fun h => by have : ¬ 65535 < siz7 l := fun q => hb ⟨h, q⟩; omega) hsd fx fa
    · have e : pwe9 (kk : Int) (L.length % 8) nx l = mer9 l := by
        have : ple9 (kk : Int) ((L.length % 8 : Nat) : Int) l = mer9 l := by unfold ple9; rw [if_neg (by omega), if_pos hm]
        unfold pwe9
        rw [this, if_pos hm]
      exact (rwr9_mer kk hkk l a n cap hn hln hm _ _ _ w hs).mono (fin _ hm e)
end Go.Proofs.YtcifalelnfeggaaGreatDoor

namespace Go.Proofs.YtcifalelnfeggaaGreatDoor
open Go.RowKit
set_option linter.unusedVariables false
set_option linter.unusedSimpArgs false

/-! The law's own helpers over tokens and numbers: face, same, kept. -/
theorem info_tokA : (Tryz.prog.info? 97).map (fun i => (i.zero, i.size, i.bytes)) = some (some (.agg #[.int .u8 0, .int .i64 0, .int .i64 0]), 3, 24) := by kernel_rfl
/-- Two tokens behind a row of the call's own. -/
theorem wpList_appT2 {P : Program} {ops : Array Oper} {rest : List Oper} {o : Oper} {a : Act} {Q : Exit → Act → World → Prop} (hgd : o.guard = none) (s x : Operand) (t : TypeId)
    (ho : o.op = .call { callee := .builtin .append, args := #[s, x], argTypes := #[t, t] })
    (base : Nat) (e : TypeId) (i : TypeInfo) (z : Value) (bytes : Nat) (ht : P.underlying t = some (.slice e)) (hi : P.info? e = some i) (hz : i.zero = some z)
    (hsize : i.size = 3) (hby : i.bytes = bytes) (hzs : z.cells.size = 3) (w0 : World) (y y' : Tok7)
    {ra : Option Addr} {n rc : Nat} {l : List Tok7} (hown : w0.ownsRow base e 3 (.slice ra n rc) n (flatT l)) (hs : a.eval s = .slice ra n rc) (hx : a.eval x = .slice (some ⟨w0.heap.size, 0, none⟩) 2 2)
    (h63 : n + 2 ≤ 140737488355328) (hbytes : (n + 2) * bytes ≤ 140737488355328) (hbase : base ≤ w0.heap.size)
    (h : ∀ (g c : Nat) (w' : World), w'.ownsRow base e 3 (.slice (some ⟨g, 0, none⟩) (n + 2) c) (n + 2) (flatT (l ++ [y, y'])) → Below base w0 w' → wpList P ops Q rest (a.put o.dst (.slice (some ⟨g, 0, none⟩) (n + 2) c)) w') : wpList P ops Q (o :: rest) a (w0.alloc (.cells #[.int .u8 y.lit, .int .i64 y.len, .int .i64 y.dist, .int .u8 y'.lit, .int .i64 y'.len, .int .i64 y'.dist] e)) := by
  have hnew : ∀ j u, ([.int .u8 y.lit, .int .i64 y.len, .int .i64 y.dist, .int .u8 y'.lit, .int .i64 y'.len, .int .i64 y'.dist] : List Value)[j]? = some u → (w0.alloc (.cells #[.int .u8 y.lit, .int .i64 y.len, .int .i64 y.dist, .int .u8 y'.lit, .int .i64 y'.len, .int .i64 y'.dist] e)).cell? ((⟨w0.heap.size, 0, none⟩ : Addr).add j) = some u := by
    intro j u hu
    have hadd : (⟨w0.heap.size, 0, none⟩ : Addr).add j = ⟨w0.heap.size, j, none⟩ := by unfold Addr.add; split <;> simp_all
    rw [hadd]
    have hh := heap_alloc_new w0 (.cells #[.int .u8 y.lit, .int .i64 y.len, .int .i64 y.dist, .int .u8 y'.lit, .int .i64 y'.len, .int .i64 y'.dist] e)
    simp only [World.cell?, hh]
    simpa using hu
  refine wpList_append_own _ hgd s x t ho base e i z 3 bytes ht hi hz hsize hby hzs (by decide) _ n (flatT l) hs (hown.alloc _) ⟨w0.heap.size, 0, none⟩ 2 2 [.int .u8 y.lit, .int .i64 y.len, .int .i64 y.dist, .int .u8 y'.lit, .int .i64 y'.len, .int .i64 y'.dist] hx rfl hnew (by intro u hu; simp only [List.mem_cons, List.not_mem_nil, or_false] at hu; rcases hu with rfl | rfl | rfl | rfl | rfl | rfl <;> rfl) (by unfold maxLen; omega) hbytes (by simp; omega) ?_
  intro v' w' h1 h2 _
  obtain ⟨g, c, hv, _⟩ := own_shapeT h1 (by omega)
  subst hv
  refine h g c w' (by rw [flatT_app]; exact h1) ?_
  have b1 : Below base w0 (w0.alloc (.cells #[.int .u8 y.lit, .int .i64 y.len, .int .i64 y.dist, .int .u8 y'.lit, .int .i64 y'.len, .int .i64 y'.dist] e)) := (Below.refl _ _).alloc hbase _
  exact b1.trans ((Below.refl _ _).grown h2 (Nat.le_trans hbase b1.size) (fun k hk => (hown.lt k hk).1))
def faceL (l : List Tok7) : List Tok7 := l ++ [⟨0, 77, 0⟩, ⟨0, 78, 0⟩]
theorem faceL_fit {l : List Tok7} (h : ∀ t ∈ l, t.Fit) : ∀ t ∈ faceL l, t.Fit := by
  intro t ht
  unfold faceL at ht
  rcases List.mem_append.1 ht with ht | ht
  · exact h t ht
  · simp at ht
    rcases ht with rfl | rfl <;> (unfold Tok7.Fit; decide)
def FaceQ (w : World) (l : List Tok7) (n : Nat) (e : Ending) (w' : World) : Prop := ∃ g c, e = .returned (.tuple #[.slice (some ⟨g, 0, none⟩) (n + 2) c, .slice (some ⟨g, 0, none⟩) n c]) ∧ w'.ownsRow w.heap.size 97 3 (.slice (some ⟨g, 0, none⟩) (n + 2) c) (n + 2) (flatT (faceL l)) ∧ Below w.heap.size w w'
set_option maxRecDepth 100000 in
set_option maxHeartbeats 2000000 in
theorem face9 (l : List Tok7) (a : Option Addr) (n cap : Nat) (hn : Hid (l.length = n)) (w : World) (hs : SegT w a l) (hl : n ≤ 5864062014634) : Calls Tryz.prog 18 #[.slice a n cap] w (FaceQ w l n) := by
  obtain ⟨i0, hi, hz0, hz1, hz2⟩ := info_parts info_tokA
  go_enter Tryz.func18, Tryz.ntmps18
  go_wp2_with fail
  go_loopw [4, 9] (fun tl ti wr => ∃ (i oc : Nat) (oa : Option Addr), i ≤ n ∧ ti = .int .i64 (i : Int) ∧ tl = .slice oa i oc ∧ wr.ownsRow w.heap.size 97 3 (.slice oa i oc) i (flatT (l.take i)) ∧ Below w.heap.size w wr) (fun _ ti _ => n - (intOf ti).toNat)
  case atStart => exact ⟨0, 0, none, by omega, rfl, rfl, by rw [List.take_zero]; exact World.ownsRow_nil _ _ _ _, Below.refl _ _⟩
  case round =>
    obtain ⟨i, oc, oa, hi0, rfl, rfl, OO, BR⟩ := hrel
    have hsr := BR.size
    by_cases hin : i < n
    · have hii : (i : Int) < (n : Int) := by omega
      have hil : i < l.length := by rw [hn.out]; exact hin
      obtain ⟨b, off, rfl, hT⟩ := (hs.old BR).at_ i hil
      have HT : Hid (l.take (i + 1) = l.take i ++ [l.getD i tk0]) := takeT7 hil
      generalize l.getD i tk0 = t at *
      obtain ⟨wA, hwA⟩ : ∃ wA, wA = wr.alloc (.cells #[.int .u8 t.lit, .int .i64 t.len, .int .i64 t.dist] 98) := ⟨_, rfl⟩
      have bA : Below wr.heap.size wr wA := by rw [hwA]; exact below_box _ _
      have HWA : Hid (wA = wr.alloc (.cells #[.int .u8 t.lit, .int .i64 t.len, .int .i64 t.dist] 98)) := hwA
      have HSZ : Hid (wr.heap.size + 1 = wA.heap.size) := by show _ = _; rw [hwA]; simp
      have BA : Below w.heap.size w wA := BR.trans (bA.mono BR.size)
      have OA := own_belowT OO bA
      have hsA := BA.size
      have hc0 := hT.c0
      have hc1 := hT.c1
      have hc2 := hT.c2
      clear hwA hT OO
      obtain ⟨z, ln, ds⟩ := t
      simp only at hc0 hc1 hc2 HWA
      go_wp2_with (first | (at_builtin; rw [HSZ.out, ← HWA.out]; refine wpList_appT rfl (.tmp 13) (.tmp 21) 36 rfl w.heap.size 97 i0 _ 24 Tryz.underlying36 hi hz0 hz1 hz2 rfl wA ⟨z, ln, ds⟩ OA rfl rfl (by omega) (by omega) hsA ?_; intro ga gc w3 own3 b3))
      have B3 : Below w.heap.size w w3 := BA.trans b3
      go_roundw
      case rel => exact ⟨i + 1, gc, ga, by omega, by go_num, rfl, by rw [HT.out]; exact own3, B3⟩
      case measure => simp [intOf]; omega
    · have hge : ¬ (i : Int) < (n : Int) := by omega
      obtain rfl : i = n := by omega
      have HW : Hid (l.take i = l) := List.take_of_length_le (by rw [hn.out]; omega)
      rw [HW.out] at OO
      have hie : (i : Int) ≤ ((i + 2 : Nat) : Int) := by omega
      have hi0' : (0 : Int) ≤ (i : Int) := by omega
      clear HW hi0
      go_wp2_with (first | (at_builtin; refine wpList_appT2 rfl (.tmp 24) (.tmp 27) 36 rfl w.heap.size 97 i0 _ 24 Tryz.underlying36 hi hz0 hz1 hz2 rfl wr ⟨0, 77, 0⟩ ⟨0, 78, 0⟩ OO rfl rfl (by omega) (by omega) hsr ?_; intro g gc w3 own3 b3; have hc3 := (own_factsT own3).1; have hci : (i : Int) ≤ (gc : Int) := by omega))
      have B3 : Below w.heap.size w w3 := BR.trans b3
      go_quiet (fail)
      go_wp2
      go_ret2
      refine ⟨g, gc, rfl, ?_, ⟨B3.os, B3.tape, B3.output, B3.size, B3.block⟩⟩
      unfold faceL
      exact own_belowT own3 ⟨rfl, rfl, rfl, Nat.le_refl _, fun _ _ => rfl⟩

set_option maxRecDepth 100000 in
set_option maxHeartbeats 2000000 in
theorem same9 (a b : Option Addr) (xs : List Int) (n ca cb : Nat) (hn : Hid (xs.length = n)) (w : World) (hx : SegZ w a xs) (hy : SegZ w b xs) (hl : n ≤ 1000000) :
    Calls Tryz.prog 21 #[.slice a n ca, .slice b n cb] w fun e w' => e = .returned (.bool true) ∧ Below w.heap.size w w' := by
  have HX : Hid (SegZ w a xs) := hx
  have HY : Hid (SegZ w b xs) := hy
  clear hx hy
  go_enter Tryz.func21, Tryz.ntmps21
  go_wp2_with fail
  go_loopw [13] (fun ti wr => ∃ k : Nat, k ≤ n ∧ ti = .int .i64 k ∧ Below w.heap.size w wr) (fun ti _ => n - (intOf ti).toNat)
  case atStart => exact ⟨0, Nat.zero_le _, rfl, Below.refl _ _⟩
  case round =>
    obtain ⟨k, hk, rfl, hb⟩ := hrel
    by_cases h1 : k < n
    · have h1i : (k : Int) < (n : Int) := by omega
      have h2 : k < xs.length := by rw [hn.out]; exact h1
      obtain ⟨b1, o1, rfl, c1⟩ := (HX.out.old hb).at_ k h2
      obtain ⟨b2, o2, rfl, c2⟩ := (HY.out.old hb).at_ k h2
      have bb := HX.out.bd k
      generalize xs.getD k 0 = z1 at *
      go_wp2_with fail
      go_region
      go_wp2
      go_roundw
      case rel => exact ⟨k + 1, by omega, by go_num, hb.drew⟩
      case measure => simp [intOf]; omega
    · have h1i : ¬ (k : Int) < (n : Int) := by omega
      go_wp2_with fail
      go_ret
      exact ⟨rfl, hb⟩
set_option maxRecDepth 100000 in
set_option maxHeartbeats 2000000 in
theorem kept9 (l : List Tok7) (a b : Option Addr) (n ca cb : Nat) (hn : Hid (l.length = n)) (w : World) (ha : SegT w a (faceL l)) (hb : SegT w b l) (hc : n + 2 ≤ ca) (hl : n ≤ 5864062014634) : Calls Tryz.prog 22 #[.slice a (n + 2) ca, .slice b n cb] w fun e w' => e = .returned (.bool true) ∧ Below w.heap.size w w' := by
  have hfl : (faceL l).length = n + 2 := by unfold faceL; rw [List.length_append, hn.out]; rfl
  obtain ⟨g, off, rfl, hT⟩ := ha.at_ n (by omega)
  obtain ⟨g', off', hgg, hT2⟩ := ha.at_ (n + 1) (by omega)
  cases hgg
  have e1 : (faceL l).getD n tk0 = ⟨0, 77, 0⟩ := by have := hn.out; simp [faceL, List.getD, ← this]
  have e2 : (faceL l).getD (n + 1) tk0 = ⟨0, 78, 0⟩ := by have := hn.out; simp [faceL, List.getD, ← this]
  rw [e1] at hT
  rw [e2] at hT2
  have st : SegT w (some ⟨g, off, none⟩) l := by
    have := ha.take n
    rwa [show (faceL l).take n = l by unfold faceL; rw [← hn.out]; simp] at this
  have HT1 : Hid (∀ W, Below w.heap.size w W → TkAt W g (off + n * 3) ⟨0, 77, 0⟩ ∧ TkAt W g (off + (n + 1) * 3) ⟨0, 78, 0⟩) := fun W hW => ⟨hT.of_block (hW.block g hT.lt), hT2.of_block (hW.block g hT.lt)⟩
  obtain ⟨k, hk⟩ : ∃ k, k = n + 1 := ⟨_, rfl⟩
  obtain ⟨k2, hk2⟩ : ∃ k2, k2 = n + 2 := ⟨_, rfl⟩
  have hw1 : IntKind.i64.wrap ((n : Int) + 1) = (k : Int) := by rw [IntWalk.i64_in _ (by omega)]; omega
  have hk12 : (k : Int) < (k2 : Int) := by omega
  have hnk2 : (n : Int) < (k2 : Int) := by omega
  rw [← hk] at HT1
  rw [← hk2]
  have HK : Hid (k = n + 1 ∧ k2 = n + 2) := ⟨hk, hk2⟩
  have HST : Hid (SegT w (some ⟨g, off, none⟩) l) := st
  have HHB : Hid (SegT w b l) := hb
  have hkn : k ≤ k2 ∧ n ≤ k2 := by omega
  clear hk hk2 ha hb hT hT2 e1 e2 st hfl hc
  go_enter Tryz.func22, Tryz.ntmps22
  go_wp2_with fail
  go_loopw [12] (fun ti wr => ∃ i : Nat, i ≤ n ∧ ti = .int .i64 (i : Int) ∧ Below w.heap.size w wr) (fun ti _ => n - (intOf ti).toNat)
  case atStart => exact ⟨0, by omega, rfl, Below.refl _ _⟩
  case round =>
    obtain ⟨i, hi0, rfl, BR⟩ := hrel
    by_cases hin : i < n
    · have hii : (i : Int) < (n : Int) := by omega
      have hii2 : (i : Int) < (k2 : Int) := by omega
      have hil : i < l.length := by rw [hn.out]; exact hin
      obtain ⟨g1, o1, hg1, hT⟩ := (HST.out.old BR).at_ i hil
      cases hg1
      obtain ⟨g2, off2, rfl, hT2⟩ := (HHB.out.old BR).at_ i hil
      generalize l.getD i tk0 = t at *
      obtain ⟨wA, hwA⟩ : ∃ wA, wA = wr.alloc (.cells #[.int .u8 t.lit, .int .i64 t.len, .int .i64 t.dist] 98) := ⟨_, rfl⟩
      have bA : Below wr.heap.size wr wA := by rw [hwA]; exact below_box8 _ _
      have tA : TkAt wA wr.heap.size 0 t := by
        have h : wA.heap[wr.heap.size]? = some (.cells #[.int .u8 t.lit, .int .i64 t.len, .int .i64 t.dist] 98 (0, 0)) := by rw [hwA]; exact heap_alloc_new wr _
        refine ⟨?_, ?_, ?_⟩ <;> simp [World.cell?, h]
      have HWA : Hid (wA = wr.alloc (.cells #[.int .u8 t.lit, .int .i64 t.len, .int .i64 t.dist] 98)) := hwA
      have BA : Below w.heap.size w wA := BR.trans (bA.mono BR.size)
      have tB := hT.of_block (bA.block g hT.lt)
      obtain ⟨ob, hob⟩ : ∃ ob, ob = wr.heap.size := ⟨_, rfl⟩
      have HOB : Hid (ob = wr.heap.size) := hob
      rw [← hob] at tA
      obtain ⟨a0, a1, a2⟩ := tA
      obtain ⟨b0, b1, b2⟩ := tB
      obtain ⟨h0, h1, h2⟩ := hT2
      clear hwA hob hT
      obtain ⟨z, ln, ds⟩ := t
      simp only at h0 h1 h2 a0 a1 a2 b0 b1 b2 HWA
      go_wp2_with fail
      rw [← HWA.out, ← HOB.out]
      go_quiet (fail)
      go_wp2
      go_roundw
      case rel => exact ⟨i + 1, by omega, by go_num, ⟨BA.os, BA.tape, BA.output, BA.size, BA.block⟩⟩
      case measure => simp [intOf]; omega
    · have hge : ¬ (i : Int) < (n : Int) := by omega
      obtain ⟨tA, tB⟩ := HT1.out wr BR
      obtain ⟨a0, a1, a2⟩ := tA
      obtain ⟨b0, b1, b2⟩ := tB
      simp only at a0 a1 a2 b0 b1 b2
      go_wp2_with fail
      go_ret
      exact ⟨rfl, BR⟩
end Go.Proofs.YtcifalelnfeggaaGreatDoor

namespace Go.Proofs.YtcifalelnfeggaaGreatDoor
open Go.RowKit
set_option linter.unusedVariables false

theorem info_u8' : (Tryz.prog.info? 5).map (fun i => (i.zero, i.size, i.bytes)) = some (some (.int .u8 0), 1, 1) := by kernel_rfl
def lentL (zs : List Int) : List Int := zs ++ [171, 172, 173, 174, 175]

theorem seg_five (w : World) : Seg (w.alloc (.cells #[.int .u8 171, .int .u8 172, .int .u8 173, .int .u8 174, .int .u8 175] 5)) (some ⟨w.heap.size, 0, none⟩) [171, 172, 173, 174, 175] := by
  refine ⟨fun i hi => ⟨w.heap.size, 0, rfl, ?_⟩, by decide, ?_⟩
  · simp only [List.length_cons, List.length_nil] at hi
    match i, hi with
    | 0, _ => simp
    | 1, _ => simp
    | 2, _ => simp
    | 3, _ => simp
    | 4, _ => simp
  · exact getD_bd (by decide) (by intro z hz; simp at hz; omega)

set_option maxRecDepth 100000 in
set_option maxHeartbeats 400000 in
theorem lend_any (a : Option Addr) (zs : List Int) (cap : Nat) (w : World) (hs : Seg w a zs) (hnil : a = none → cap = 0) (hl : zs.length ≤ 140737488351232) :
    Calls Tryz.prog 33 #[.slice a zs.length cap] w fun e w' => ∃ g cap', e = .returned (.tuple #[.slice (some ⟨g, 0, none⟩) (zs.length + 5) cap', .slice (some ⟨g, 0, none⟩) zs.length cap']) ∧
      w'.ownsRow w.heap.size 5 1 (.slice (some ⟨g, 0, none⟩) (zs.length + 5) cap') (zs.length + 5) ((lentL zs).map (Value.int .u8)) ∧ Below w.heap.size w w' := by
  obtain ⟨i0, hi, hz0, hz1, hz2⟩ := info_parts info_u8'
  go_enter Tryz.func33, Tryz.ntmps33
  have hm0 : (w.alloc (.cells #[] 5)).ownsRow w.heap.size 5 1 (.slice (some ⟨w.heap.size, 0, none⟩) 0 0) 0 [] := World.ownsRow_made w #[] 0 (Nat.le_refl _) (by decide) rfl
  have hb0 : Below w.heap.size w (w.alloc (.cells #[] 5)) := (Below.refl _ _).alloc (Nat.le_refl _) _
  go_wp2_with (first
    | (at_builtin; refine wpList_append_seg rfl (.tmp 5) (.tmp 6) 59 rfl w.heap.size 5 i0 (.int .u8 0) 1 Tryz.underlying59 hi hz0 hz1 hz2 rfl hm0 (hs.alloc _) hnil rfl rfl (by omega) (by omega) (by simp) ?_; intro v1 w1 hown1 hg1 hb1)
    | (at_builtin; refine wpList_append_seg rfl (.tmp 7) (.tmp 8) 59 rfl w.heap.size 5 i0 (.int .u8 0) 1 Tryz.underlying59 hi hz0 hz1 hz2 rfl (hown1.alloc _) (seg_five w1) (by intro h; cases h) rfl rfl (by simp; omega) (by simp; omega) (by have := hb1.size; simp at this ⊢; omega) ?_; intro v2 w2 hown2 hg2 hb2))
  obtain ⟨g, cap', rfl, hc2, hg, hgs⟩ := own_shape hown2 (by simp)
  have hcc : (zs.length : Int) ≤ (cap' : Int) := by simp at hc2; omega
  have hs1 := hb1.size
  have hbb : Below w.heap.size w w2 := hb0.trans (hb1.trans (((Below.refl _ _).alloc (by simp at hs1; omega) _).trans hb2))
  have hown3 : w2.ownsRow w.heap.size 5 1 (.slice (some ⟨g, 0, none⟩) (zs.length + 5) cap') (zs.length + 5) ((lentL zs).map (Value.int .u8)) := by
    have := hown2
    simp only [List.nil_append, Nat.zero_add, ← List.map_append] at this
    exact this
  clear hown2 hown1 hg1 hg2 hb1 hb2
  have e5 : 0 + zs.length + ([171, 172, 173, 174, 175] : List Int).length = zs.length + 5 := by simp
  rw [e5]
  clear e5 hc2
  go_region
  go_wp2
  go_ret2
  exact ⟨g, cap', rfl, hown3, hbb.drew⟩

theorem lent_bd {zs : List Int} (h : ∀ z ∈ zs, 0 ≤ z ∧ z ≤ 255) : ∀ z ∈ lentL zs, 0 ≤ z ∧ z ≤ 255 := by
  intro z hz
  unfold lentL at hz
  rw [List.mem_append] at hz
  rcases hz with hz | hz
  · exact h z hz
  · simp at hz; omega

set_option maxRecDepth 100000 in
/-- The longer list is as Lend made it. -/
theorem kept_any (a b : Option Addr) (xs zs : List Int) (ca cap : Nat) (w : World) (hx : Seg w b xs) (hs : Seg w a zs) (hnil : a = none → cap = 0) (hl : zs.length ≤ 140737488351232) :
    Calls Tryz.prog 37 #[.slice b xs.length ca, .slice a zs.length cap] w fun e w' => e = .returned (.bool (xs == lentL zs)) ∧ Below w.heap.size w w' := by
  go_enter Tryz.func37, Tryz.ntmps37
  go_wp2_with fail
  refine (lend_any a zs cap _ hs hnil hl).mono ?_
  rintro e w1 ⟨g, cap', rfl, hown, hb⟩
  obtain ⟨hn, a', c', hv, hseg, _, _, _⟩ := own_seg hown (M := 255) (by decide) (lent_bd hs.mem)
  have ha : a' = some ⟨g, 0, none⟩ := by simp at hv; exact hv.1.symm
  subst ha
  clear hv
  have hx1 := hx.old hb
  go_wp2_with fail
  refine (bsame_any b (some ⟨g, 0, none⟩) xs (lentL zs) ca cap' _ hx1 hseg).mono ?_
  rintro e w2 ⟨rfl, hw2⟩
  subst w2
  go_wp2
  go_ret
  exact ⟨rfl, hb⟩
end Go.Proofs.YtcifalelnfeggaaGreatDoor

namespace Go.Proofs.YtcifalelnfeggaaGreatDoor
open Go.RowKit
set_option linter.unusedVariables false

variable {w w0 w' wP wR : World} {b bx B : Nat} {v v' u u' : Value} {L L' M : List Bool}
theorem WrL.apartR (h1 : WrL w b B v L) (h2 : RwL w bx B u M) (hk : Kp (WS bx u) w w') (hb : b ≠ bx) (hb1 : b < B) (hb2 : bx < B) (hap : Ap v.ownBlock u.ownBlock) : WrL w' b B v L := by
  refine h1.kp hk ?_ ?_
  · rintro (e | e)
    · exact hb e
    · have := (h2.own_lt _ e).1; omega
  · intro k e
    have hk1 := h1.own_lt k e
    rintro (e2 | e2)
    · omega
    · exact hap k e e2
theorem RwL.apartW (h1 : RwL w bx B u M) (h2 : WrL w b B v L) (hk : Kp (WS b v) w w') (hb : b ≠ bx) (hb1 : b < B) (hb2 : bx < B) (hap : Ap v.ownBlock u.ownBlock) : RwL w' bx B u M := by
  refine h1.kp hk ?_ ?_
  · rintro (e | e)
    · exact hb e.symm
    · have := (h2.own_lt _ e).1; omega
  · intro k e
    have hk1 := h1.own_lt k e
    rintro (e2 | e2)
    · omega
    · exact hap k e2 e
theorem Ap.freshR (hap : Ap u.ownBlock v.ownBlock) (h1 : RwL w bx B u M) (hf : Fresh w v v') : Ap u.ownBlock v'.ownBlock := by
  intro k e1 e2
  have := (h1.own_lt k e1).2.1
  rcases hf k e2 with e | e
  · exact hap k e1 e
  · omega
def PS (b bx : Nat) (v u : Value) : Nat → Prop := fun k => WS b v k ∨ WS bx u k
/-- A Writer and the document's Writer beside each other, with the same bits. -/
structure Pair (w : World) (b bx B : Nat) (v u : Value) (L : List Bool) : Prop where
  g : WrL w b B v L
  x : RwL w bx B u L
  ap : Ap v.ownBlock u.ownBlock
/-- Both have gone on. -/
def Done (w w' : World) (b bx B : Nat) (v u : Value) (L : List Bool) : Prop := ∃ v' u', Pair w' b bx B v' u' L ∧ Kp (PS b bx v u) w w' ∧ Fresh w v v' ∧ Fresh w u u'
theorem Fresh.wide (h : Fresh w' v v') (hs : w.heap.size ≤ w'.heap.size) : Fresh w v v' := fun k e => (h k e).imp id (fun e => by omega)
theorem pair_wr (h : Pair w0 b bx B v u L) (hb : b ≠ bx) (hb1 : b < B) (hb2 : bx < B) (gP : WrL wP b B v' L') (kP : Kp (WS b v) w0 wP) (fP : Fresh w0 v v') (gR : RwL wR bx B u' L') (kR : Kp (WS bx u) wP wR) (fR : Fresh wP u u') : Done w0 wR b bx B v u L' := by
  have xP := h.x.apartW h.g kP hb hb1 hb2 h.ap
  have ap1 : Ap u.ownBlock v'.ownBlock := h.ap.symm.freshR h.x fP
  refine ⟨v', u', ⟨gP.apartR xP kR hb hb1 hb2 ap1.symm, gR, ap1.symm.fresh gP fR⟩, ?_, fP, fR.wide kP.size⟩
  exact (kP.mono (S' := PS b bx v u) (fun _ _ e => .inl e)).trans kR (fun _ _ e => .inr e)
theorem pair_rw (h : Pair w0 b bx B v u L) (hb : b ≠ bx) (hb1 : b < B) (hb2 : bx < B) (gR : RwL wR bx B u' L') (kR : Kp (WS bx u) w0 wR) (fR : Fresh w0 u u') (gP : WrL wP b B v' L') (kP : Kp (WS b v) wR wP) (fP : Fresh wR v v') : Done w0 wP b bx B v u L' := by
  have gX := h.g.apartR h.x kR hb hb1 hb2 h.ap
  have ap1 : Ap v.ownBlock u'.ownBlock := h.ap.fresh h.g fR
  refine ⟨v', u', ⟨gP, gR.apartW gX kP hb hb1 hb2 ap1, (ap1.symm.freshR gR fP).symm⟩, ?_, fP.wide kR.size, fR⟩
  exact (kR.mono (S' := PS b bx v u) (fun _ _ e => .inr e)).trans kP (fun _ _ e => .inl e)
theorem Pair.kp {S : Nat → Prop} (h : Pair w b bx B v u L) (hk : Kp S w w') (h1 : ¬ S b) (h2 : ¬ S bx) (h3 : ∀ k, B ≤ k → k < w.heap.size → v.ownBlock = some k ∨ u.ownBlock = some k → ¬ S k) : Pair w' b bx B v u L :=
  ⟨h.g.kp hk h1 (fun k e => h3 k (h.g.own_lt k e).1 (h.g.own_lt k e).2.1 (.inl e)), h.x.kp hk h2 (fun k e => h3 k (h.x.own_lt k e).1 (h.x.own_lt k e).2.1 (.inr e)), h.ap⟩
theorem Pair.old (h : Pair w b bx B v u L) (hb : Below w.heap.size w w') : Pair w' b bx B v u L := h.kp (S := fun _ => False) (Kp.of_below hb) (by simp) (by simp) (by simp)
theorem Pair.done (h : Pair w' b bx B v u L) (hb : Below w.heap.size w w') : Done w w' b bx B v u L := ⟨v, u, h, Kp.of_below hb, Fresh.refl _ _, Fresh.refl _ _⟩
theorem Done.after (hb : Below w.heap.size w w0) (h : Done w0 w' b bx B v u L) (hb1 : b < w.heap.size) : Done w w' b bx B v u L := by
  obtain ⟨v', u', h1, h2, h3, h4⟩ := h
  exact ⟨v', u', h1, (Kp.of_below hb).trans h2 (fun _ _ e => e), h3.wide hb.size, h4.wide hb.size⟩
theorem Done.then_old (h : Done w w0 b bx B v u L) (hb : Below w0.heap.size w0 w') : Done w w' b bx B v u L := by
  obtain ⟨v', u', h1, h2, h3, h4⟩ := h
  exact ⟨v', u', h1.old hb, h2.trans (S' := fun _ => False) (Kp.of_below hb) (fun _ _ e => e.elim), h3, h4⟩

/-- What a call leaves of the bits. -/
def stepL (L : List Bool) (c : Int) (x : Nat) (n : Int) (p : List Int) : List Bool := if c = 0 then putL L x n else if c = 1 then turnL L x n else if c = 2 then alignL L else if c = 3 then alignL L ++ bB p else L

/-- A block of four cells. -/
theorem four_cell {w : World} {b : Nat} {x y z t : Value} {T : TypeId} (h : w.heap[b]? = some (.cells #[x, y, z, t] T (0, 0))) : w.cell? ⟨b, 0, none⟩ = some x ∧ w.cell? ⟨b, 1, none⟩ = some y ∧ w.cell? ⟨b, 2, none⟩ = some z ∧ w.cell? ⟨b, 3, none⟩ = some t := by simp [World.cell?, h]

end Go.Proofs.YtcifalelnfeggaaGreatDoor

namespace Go.Proofs.YtcifalelnfeggaaGreatDoor
open Go.RowKit
set_option linter.unusedVariables false

theorem lens_1124 : lensR 3 [1, 1, 2, 4] = [3, 3, 2, 1] ∧ errL 3 [1, 1, 2, 4] = 0 := by
  have e2 : LFz [1, 1, 2, 4] = [(1, 0), (1, 1), (2, 2), (4, 3)] := by decide
  have e1 : errL 3 [1, 1, 2, 4] = 0 := by unfold errL nUse; rw [e2]; decide
  refine ⟨?_, e1⟩
  unfold lensR
  rw [if_pos e1]
  unfold lensL nUse
  rw [e2]
  simp [taken, row, itF, pk, bumps, bump]
theorem seg_lit4 (w : World) (x0 x1 x2 x3 : Int) (h : ∀ z ∈ [x0, x1, x2, x3], -9223372036854775808 ≤ z ∧ z ≤ 9223372036854775807) : SegZ (w.alloc (.cells #[.int .i64 x0, .int .i64 x1, .int .i64 x2, .int .i64 x3] 3)) (some ⟨w.heap.size, 0, none⟩) [x0, x1, x2, x3] := by
  refine ⟨fun i hi => ⟨w.heap.size, 0, rfl, ?_⟩, getD_bdz h⟩
  simp only [List.length_cons, List.length_nil] at hi
  match i, hi with
  | 0, _ => simp
  | 1, _ => simp
  | 2, _ => simp
  | 3, _ => simp

end Go.Proofs.YtcifalelnfeggaaGreatDoor

namespace Go.Proofs.YtcifalelnfeggaaGreatDoor
open Go.RowKit
set_option linter.unusedVariables false

/-! The statements' own helpers: may, used, fits, space, cost. -/
/-- How many counts are above 0. -/
def usedC (zs : List Int) : Nat → Nat
  | 0 => 0
  | k + 1 => usedC zs k + (if 0 < zs.getD k 0 then 1 else 0)
theorem usedC_le (zs : List Int) : ∀ k, usedC zs k ≤ k
  | 0 => Nat.le_refl _
  | k + 1 => by have := usedC_le zs k; unfold usedC; split <;> omega
theorem usedC_us {zs : List Int} (h : ∀ i, 0 ≤ zs.getD i 0) : ∀ k, usedC zs k = (usI zs k).length
  | 0 => rfl
  | k + 1 => by
    have h1 := usedC_us h k
    have h2 := h k
    rw [usI_snoc, List.length_append]
    unfold usedC
    rw [h1]
    by_cases e : zs.getD k 0 = 0
    · rw [if_pos e, if_neg (by omega)]; rfl
    · rw [if_neg e, if_pos (by omega)]; rfl
end Go.Proofs.YtcifalelnfeggaaGreatDoor

namespace Go.Proofs.YtcifalelnfeggaaGreatDoor
open Go.RowKit
set_option linter.unusedVariables false

/-- The sum of count times length over the symbols in use among the first k. -/
def cst (zs ls : List Int) (k : Nat) : Nat := ((usI zs k).map fun i => (zs.getD i 0).toNat * (ls.getD i 0).toNat).sum
theorem cst_snoc (zs ls : List Int) (k : Nat) : cst zs ls (k + 1) = cst zs ls k + (if zs.getD k 0 = 0 then 0 else (zs.getD k 0).toNat * (ls.getD k 0).toNat) := by
  unfold cst
  rw [usI_snoc, List.map_append, List.sum_append_nat]
  split <;> simp
theorem cst_le {zs ls : List Int} (he : errOf zs = 0) : ∀ k, (∀ i, i < k → zs.getD i 0 ≠ 0 → ls.getD i 0 ≤ 15) → cst zs ls k ≤ k * 16492674416640
  | 0, _ => by simp [cst, usI]
  | k + 1, h => by
    have h1 := cst_le he k (fun i hi => h i (by omega))
    rw [cst_snoc, Nat.succ_mul]
    split
    · exact Nat.le_trans h1 (Nat.le_add_right _ _)
    · rename_i h2
      have h3 := h k (by omega) h2
      have h4 := (errOf_zero he).2 k
      have h5 : (zs.getD k 0).toNat * (ls.getD k 0).toNat ≤ 1099511627776 * 15 := Nat.mul_le_mul (by omega) (by omega)
      exact Nat.add_le_add h1 h5

theorem pairs_sum (zs : List Int) (f : Nat × Nat → Nat) : ((LFz zs).map f).sum = ((usI zs zs.length).map fun i => f ((zs.getD i 0).toNat, i)).sum := by
  have h := ((LFz_perm zs).map f).sum_nat
  rw [h, pairs_usI, List.map_map]
  rfl
theorem cst_LF {zs : List Int} (he : errOf zs = 0) {lim : Nat} (h1 : 1 ≤ lim) (hl : nUse zs ≤ 2 ^ lim) (hn : 2 ≤ nUse zs) : cst zs (lensL lim zs) zs.length = costX (XP (LFz zs) lim) := by
  have h2 := pairs_sum zs (fun x => x.1 * lenOf (LFz zs) lim x.2)
  unfold costX XP cst
  rw [List.map_map]
  have h3 : ((LFz zs).map ((fun x : Nat × Nat => x.1 * x.2) ∘ fun x => (x.1, lenOf (LFz zs) lim x.2))).sum = ((LFz zs).map fun x => x.1 * lenOf (LFz zs) lim x.2).sum := rfl
  rw [h3, h2]
  congr 1
  apply List.map_congr_left
  intro i hi
  rw [lens_get he h1 hl hn]
  simp
/-- No lengths within the limit that take at most the whole space cost less. -/
theorem cst_best {zs os : List Int} (he : errOf zs = 0) {lim : Nat} (h1 : 1 ≤ lim) (h15 : lim ≤ 15) (hl : nUse zs ≤ 2 ^ lim)
    (hin : ∀ i, i < zs.length → zs.getD i 0 ≠ 0 → 1 ≤ os.getD i 0 ∧ os.getD i 0 ≤ lim) (hk : ((usI zs zs.length).map fun i => 2 ^ (15 - (os.getD i 0).toNat)).sum ≤ 32768) :
    cst zs (lensL lim zs) zs.length ≤ cst zs os zs.length := by
  have hu := nUse_us zs
  by_cases h0 : nUse zs = 0
  · have : usI zs zs.length = [] := List.length_eq_zero_iff.1 (by omega)
    unfold cst
    rw [this]
    simp
  · by_cases h2 : nUse zs = 1
    · obtain ⟨s, e1, e2, e3⟩ := lens_one he (lim := lim) h2
      have hs : s ∈ usI zs zs.length := by rw [e1]; simp
      have h3 := hin s e3 (usI_mem.1 hs).2
      unfold cst
      rw [e1]
      simp only [List.map_cons, List.map_nil, List.sum_cons, List.sum_nil, e2, Nat.add_zero]
      exact Nat.mul_le_mul_left _ (by omega)
    · have hn : 2 ≤ nUse zs := by omega
      rw [cst_LF he h1 hl hn]
      obtain ⟨f1, f2, f3⟩ := LF_facts he
      have hX : cst zs os zs.length = costX ((usI zs zs.length).map fun i => ((zs.getD i 0).toNat, (os.getD i 0).toNat)) := by
        unfold costX cst
        rw [List.map_map]
        rfl
      rw [hX]
      have hbd : ∀ x ∈ (usI zs zs.length).map (fun i => ((zs.getD i 0).toNat, (os.getD i 0).toNat)), 1 ≤ x.2 ∧ x.2 ≤ lim := by
        intro x hx
        obtain ⟨i, hi, rfl⟩ := List.mem_map.1 hx
        have h3 := usI_mem.1 hi
        have h4 := hin i h3.1 h3.2
        simp only
        omega
      refine pm_best (LFz zs) f1 f2 f3 lim h1 hn hl _ ?_ hbd ?_
      · rw [List.map_map]
        have := ((LFz_perm zs).map (·.1)).symm
        rw [pairs_usI, List.map_map] at this
        exact this
      · rw [kraft_all _ _ (fun x hx => (hbd x hx).1), List.map_map]
        have h4 : ((usI zs zs.length).map fun i => 2 ^ (15 - (os.getD i 0).toNat)) = (usI zs zs.length).map fun i => 2 ^ (15 - lim) * 2 ^ (lim - (os.getD i 0).toNat) := by
          apply List.map_congr_left
          intro i hi
          have h3 := usI_mem.1 hi
          have h5 := hin i h3.1 h3.2
          rw [← Nat.pow_add]
          congr 1
          omega
        rw [h4, sum_mul] at hk
        have h6 : (32768 : Nat) = 2 ^ (15 - lim) * 2 ^ lim := by
          rw [← Nat.pow_add, show 15 - lim + lim = 15 by omega]
        rw [h6] at hk
        exact Nat.le_of_mul_le_mul_left hk (Nat.pow_pos (by decide))
end Go.Proofs.YtcifalelnfeggaaGreatDoor

namespace Go.Proofs.YtcifalelnfeggaaGreatDoor
open Go.RowKit
set_option linter.unusedVariables false

/-! A block's own codes cost its tokens no more than the plain ones. -/
theorem usI_sum9 (zs : List Int) (f : Nat → Nat) : ∀ k, ((usI zs k).map f).sum ≤ ((List.range k).map f).sum
  | 0 => by simp [usI]
  | k + 1 => by
    have h := usI_sum9 zs f k
    rw [usI_snoc, List.map_append, List.sum_append_nat, List.range_succ, List.map_append, List.sum_append_nat]
    split <;> simp <;> omega
theorem sumC9_cst {zs ls : List Int} (he : errOf zs = 0) : ∀ k, (∀ i, i < k → 0 ≤ ls.getD i 0) → sumC9 zs ls k = (cst zs ls k : Nat)
  | 0, _ => by simp [sumC9, cst, usI]
  | k + 1, h => by
    have hz := (errOf_zero he).2 k
    have hl := h k (by omega)
    rw [sumC9, sumC9_cst he k (fun i hi => h i (by omega)), cst_snoc]
    obtain ⟨z, ez⟩ : ∃ z : Nat, zs.getD k 0 = (z : Int) := ⟨(zs.getD k 0).toNat, by omega⟩
    obtain ⟨y, ey⟩ : ∃ y : Nat, ls.getD k 0 = (y : Int) := ⟨(ls.getD k 0).toNat, by omega⟩
    rw [ez, ey]
    simp only [Int.toNat_natCast]
    split
    · rename_i h0
      rw [h0]
      simp
    · push_cast
      rfl
set_option maxRecDepth 100000 in
theorem pl_room9 : ((List.range 286).map fun i => 2 ^ (15 - ((plnL9.take 286).getD i 0).toNat)).sum ≤ 32768 ∧ ((List.range 30).map fun i => 2 ^ (15 - ((plnD9.take 30).getD i 0).toNat)).sum ≤ 32768 := ⟨Nat.le_of_ble_eq_true (by kernel_rfl), Nat.le_of_ble_eq_true (by kernel_rfl)⟩
theorem one_best9 {zs os : List Int} {n : Nat} (hn : zs.length = n) (h288 : n ≤ 288) (hb : ∀ i, 0 ≤ zs.getD i 0 ∧ zs.getD i 0 ≤ 1099511627776) (ho : ∀ i, i < n → 1 ≤ os.getD i 0 ∧ os.getD i 0 ≤ 15) (hr : ((List.range n).map fun i => 2 ^ (15 - (os.getD i 0).toNat)).sum ≤ 32768) : sumC9 zs (lensR 15 zs) n ≤ sumC9 zs os n := by
  have he := errOf_ok9 (by omega) hb
  have hL : lensR 15 zs = lensL 15 zs := by
    unfold lensR
    rw [if_pos (errL_ok9 (by omega) hb)]
    rfl
  have hu : nUse zs ≤ 2 ^ 15 := by
    rw [nUse_us]
    unfold usI
    have := List.length_filter_le (fun i => decide (zs.getD i 0 ≠ 0)) (List.range zs.length)
    rw [List.length_range] at this
    omega
  obtain ⟨c1, _⟩ := lensR_code9 (zs := zs) (by omega) hb
  have hbd := (errS_zero (errC_zero c1).1).2
  have hnl : (lensR 15 zs).length = n := by rw [lensR_len9 (by omega) hb, hn]
  rw [sumC9_cst he n (fun i hi => by
      have hm : (lensR 15 zs).getD i 0 ∈ lensR 15 zs := by
        have hi2 : i < (lensR 15 zs).length := by omega
        simp only [List.getD, List.getElem?_eq_getElem hi2, Option.getD_some]
        exact List.getElem_mem hi2
      exact (hbd _ hm).1), sumC9_cst he n (fun i hi => by have := ho i hi; omega)]
  have := cst_best (os := os) he (lim := 15) (by omega) (by omega) hu (fun i hi _ => ho i (by omega)) (by rw [hn]; exact Nat.le_trans (usI_sum9 zs _ n) hr)
  rw [hL]
  rw [hn] at this
  exact_mod_cast this
theorem pl_in9 : (∀ i, i < 286 → 1 ≤ (plnL9.take 286).getD i 0 ∧ (plnL9.take 286).getD i 0 ≤ 15) ∧ (∀ i, i < 30 → 1 ≤ (plnD9.take 30).getD i 0 ∧ (plnD9.take 30).getD i 0 ≤ 15) := by
  have hall : ((plnL9.take 286).all fun z => decide (1 ≤ z ∧ z ≤ 15)) = true ∧ ((plnD9.take 30).all fun z => decide (1 ≤ z ∧ z ≤ 15)) = true := ⟨by kernel_rfl, by kernel_rfl⟩
  have l1 : (plnL9.take 286).length = 286 := by rw [List.length_take, plnL9_len]; rfl
  have l2 : (plnD9.take 30).length = 30 := by rfl
  constructor
  · intro i hi
    have hi2 : i < (plnL9.take 286).length := by omega
    have := List.all_eq_true.1 hall.1 ((plnL9.take 286).getD i 0) (by simp only [List.getD, List.getElem?_eq_getElem hi2, Option.getD_some]; exact List.getElem_mem hi2)
    exact of_decide_eq_true this
  · intro i hi
    have hi2 : i < (plnD9.take 30).length := by omega
    have := List.all_eq_true.1 hall.2 ((plnD9.take 30).getD i 0) (by simp only [List.getD, List.getElem?_eq_getElem hi2, Option.getD_some]; exact List.getElem_mem hi2)
    exact of_decide_eq_true this
theorem own_best9 {l : List Tok7} (hm : mer9 l = 0) (hf : ∀ t ∈ l, t.Fit) : bts9 (tal9 l) (oL9 (tal9 l)) (oD9 (tal9 l)) ≤ bts9 (tal9 l) plnL9 plnD9 := by
  have hct := tal9_ct hm hf
  obtain ⟨e1, e2, _⟩ := own_told9 hm hf
  obtain ⟨n1, n2⟩ := oL9_len hct
  have bL := (errS_zero (errC_zero e1).1).2
  have bD := (errS_zero (errC_zero e2).1).2
  have l1 : (plnL9.take 286).length = 286 := by rw [List.length_take, plnL9_len]; rfl
  have l2 : (plnD9.take 30).length = 30 := by rfl
  have g : ∀ (Z : List Int) (hb : ∀ z ∈ Z, 0 ≤ z ∧ z ≤ 15) (i : Nat), i < Z.length → 0 ≤ Z.getD i 0 ∧ Z.getD i 0 ≤ 15 := fun Z hb i hi => by
    refine hb _ ?_
    simp only [List.getD, List.getElem?_eq_getElem hi, Option.getD_some]
    exact List.getElem_mem hi
  have k1 := errOf_ok9 (zs := cl9 (tal9 l)) (by rw [cl9_len]; omega) (cl9_bd hct)
  have k2 := errOf_ok9 (zs := cd9 (tal9 l)) (by rw [cd9_len]; omega) (cd9_bd hct)
  have t1 : (oL9 (tal9 l)).take 286 = oL9 (tal9 l) := List.take_of_length_le (by omega)
  have t2 : (oD9 (tal9 l)).take 30 = oD9 (tal9 l) := List.take_of_length_le (by omega)
  have c1 := (errK9_ok (xs := cl9 (tal9 l)) (ys := oL9 (tal9 l)) (by rw [cl9_len, n1]) k1 (fun i hi => g _ bL i hi)).2
  have c2 := (errK9_ok (xs := cd9 (tal9 l)) (ys := oD9 (tal9 l)) (by rw [cd9_len, n2]) k2 (fun i hi => g _ bD i hi)).2
  have c3 := (errK9_ok (xs := cl9 (tal9 l)) (ys := plnL9.take 286) (by rw [cl9_len, l1]) k1 (fun i hi => by have := pl_in9.1 i (by omega); omega)).2
  have c4 := (errK9_ok (xs := cd9 (tal9 l)) (ys := plnD9.take 30) (by rw [cd9_len, l2]) k2 (fun i hi => by have := pl_in9.2 i (by omega); omega)).2
  unfold bts9
  rw [t1, t2, c1, c2, c3, c4, n1, n2, l1, l2]
  have b1 : sumC9 (cl9 (tal9 l)) (oL9 (tal9 l)) 286 ≤ sumC9 (cl9 (tal9 l)) (plnL9.take 286) 286 := one_best9 (cl9_len _) (by omega) (cl9_bd hct) pl_in9.1 pl_room9.1
  have b2 : sumC9 (cd9 (tal9 l)) (oD9 (tal9 l)) 30 ≤ sumC9 (cd9 (tal9 l)) (plnD9.take 30) 30 := one_best9 (cd9_len _) (by omega) (cd9_bd hct) pl_in9.2 pl_room9.2
  omega
/-- How many bits the codes of a token take, and of its more bits. -/
def tk9 (ZL ZD : List Int) (t : Tok7) : Int := if t.len = 0 then ZL.getD t.lit.toNat 0 else ZL.getD (257 + lix9 t.len) 0 + ZD.getD (dix9 t.dist) 0
def mo9 (t : Tok7) : Int := if t.len = 0 then 0 else lnS9.getD (lix9 t.len * 2 + 1) 0 + dsS9.getD (dix9 t.dist * 2 + 1) 0
def tks9 (ZL ZD : List Int) (l : List Tok7) : Int := ZL.getD 256 0 + (l.map (tk9 ZL ZD)).sum
theorem tk9_len {ZL ZD : List Int} (hL : errC ZL = 0) (hD : errC ZD = 0) (nL : 286 ≤ ZL.length) (nD : 30 ≤ ZD.length) {t : Tok7} (hf : t.Fit) (hm : may7 t) : ((tkB9 ZL ZD t).length : Int) = tk9 ZL ZD t + mo9 t := by
  have hfm := fit_may9 hf hm
  have bm1 := lnb9 (lix9 t.len)
  have bm2 := dsb9 (dix9 t.dist)
  unfold tkB9 tk9 mo9
  by_cases c : t.len = 0
  · rw [if_pos c, if_pos c, if_pos c]
    have e : t.lit = (t.lit.toNat : Int) := by have := hf.1; omega
    have hb : t.lit.toNat < ZL.length := by have := hf.1; omega
    have := put_len9 hL hb
    rw [← e] at this
    omega
  · rw [if_neg c, if_neg c, if_neg c]
    obtain ⟨k2, k3, k4, k5, k6, klit⟩ := hfm.2.2.resolve_left (fun q => c q.1)
    obtain ⟨s0, _⟩ := lspec9 k3
    obtain ⟨r0, _⟩ := dspec9 k5
    have e1 := put_len9 hL (k := 257 + lix9 t.len) (by omega)
    have e3 := put_len9 hD (k := dix9 t.dist) (by omega)
    rw [List.length_append, List.length_append, List.length_append, bN_len, bN_len]
    omega
theorem tks9_k {ZL ZD : List Int} (hL : errC ZL = 0) (hD : errC ZD = 0) (nL : 286 ≤ ZL.length) (nD : 30 ≤ ZD.length) : ∀ l : List Tok7, (∀ t ∈ l, t.Fit) → (∀ t ∈ l, may7 t) → ((l.flatMap (tkB9 ZL ZD)).length : Int) = (l.map (tk9 ZL ZD)).sum + (l.map mo9).sum
  | [], _, _ => by simp
  | t :: r, hf, hm => by
    have ih := tks9_k hL hD nL nD r (fun x hx => hf x (List.mem_cons_of_mem _ hx)) (fun x hx => hm x (List.mem_cons_of_mem _ hx))
    have h1 := tk9_len hL hD nL nD (hf t (List.mem_cons_self ..)) (hm t (List.mem_cons_self ..))
    rw [List.flatMap_cons, List.length_append, List.map_cons, List.map_cons, List.sum_cons, List.sum_cons]
    omega
theorem tks9_len {ZL ZD : List Int} (hL : errC ZL = 0) (hD : errC ZD = 0) (nL : 286 ≤ ZL.length) (nD : 30 ≤ ZD.length) {l : List Tok7} (hf : ∀ t ∈ l, t.Fit) (hm : mer9 l = 0) : tks9 ZL ZD l + (l.map mo9).sum = bts9 (tal9 l) ZL ZD := by
  rw [← bdy9_len hL hD nL nD hm hf]
  have h1 := tks9_k hL hD nL nD l hf (mer9_zero hm).2
  have h2 : ((putB ZL 256).length : Int) = ZL.getD 256 0 := put_len9 hL (k := 256) (by omega)
  unfold tks9 bdy9
  rw [List.length_append]
  omega
theorem tks9_own {l : List Tok7} (hf : ∀ t ∈ l, t.Fit) (hm : mer9 l = 0) : tks9 (oL9 (tal9 l)) (oD9 (tal9 l)) l ≤ tks9 plnL9 plnD9 l := by
  obtain ⟨e1, e2, _⟩ := own_told9 hm hf
  obtain ⟨n1, n2⟩ := oL9_len (tal9_ct hm hf)
  have h1 := tks9_len e1 e2 (by omega) (by omega) hf hm
  have h2 := tks9_len pln_ok9.1 pln_ok9.2 (by rw [plnL9_len]; omega) (by show 30 ≤ 32; omega) hf hm
  have := own_best9 hm hf
  omega
theorem tk9_bd {ZL ZD : List Int} (hL : errC ZL = 0) (hD : errC ZD = 0) (t : Tok7) : 0 ≤ tk9 ZL ZD t ∧ tk9 ZL ZD t ≤ 30 := by
  have g : ∀ (Z : List Int), errC Z = 0 → ∀ i, 0 ≤ Z.getD i 0 ∧ Z.getD i 0 ≤ 15 := fun Z h i => by
    have hb := (errS_zero (errC_zero h).1).2
    by_cases hi : i < Z.length
    · refine hb _ ?_
      simp only [List.getD, List.getElem?_eq_getElem hi, Option.getD_some]
      exact List.getElem_mem hi
    · simp only [List.getD, List.getElem?_eq_none (show Z.length ≤ i by omega), Option.getD_none]; omega
  unfold tk9
  split
  · have := g ZL hL t.lit.toNat; omega
  · have := g ZL hL (257 + lix9 t.len); have := g ZD hD (dix9 t.dist); omega
theorem tkm9_bd {ZL ZD : List Int} (hL : errC ZL = 0) (hD : errC ZD = 0) : ∀ l : List Tok7, 0 ≤ (l.map (tk9 ZL ZD)).sum ∧ (l.map (tk9 ZL ZD)).sum ≤ 30 * (l.length : Int)
  | [] => by simp
  | t :: r => by
    have h1 := tk9_bd hL hD t
    have h2 := tkm9_bd hL hD r
    rw [List.map_cons, List.sum_cons, List.length_cons]
    push_cast
    omega
end Go.Proofs.YtcifalelnfeggaaGreatDoor
