import Derived.Test.YtcifalelnfeggaaGreatDoorPg
import Derived.Test.YtcifalelnfeggaaGreatDoorPc
import Derived.Test.YtcifalelnfeggaaGreatDoorPa
import Derived.Test.YtcifalelnfeggaaGreatDoorPb
import Derived.Test.YtcifalelnfeggaaGreatDoorPd
import Derived.Test.YtcifalelnfeggaaGreatDoorProg
import Derived.WalkKit
import Derived.WalkSpells
import Derived.BigQuiet
import Derived.BigRegion
import Derived.Deep.QuietTactic
import Derived.Deep.MidRow
import Derived.Deep.RegionHeld3
namespace Go.Proofs.YtcifalelnfeggaaGreatDoor
open Go.RowKit
set_option linter.unusedVariables false

/-! The landed block: planned. -/
theorem results_ctt9 {P : Program} {fn : Func} {p u v : Tmp} {ty : TypeId} (h : fn.results = #[.cell p ty, .tmp u, .tmp v]) (tmps : Array Value) (w : World) (g : Nat) (t : TypeId) (cs : Array Value) (fr : Nat × Nat) (d : TypeDesc)
    (hp : tmps.getD p undef = .pointer (some ⟨g, 0, none⟩)) (hg : w.heap[g]? = some (.cells cs t fr))
    (hu : P.underlying ty = some d) (hd : (match d with | .struct _ | .array _ _ => true | _ => false) = true) (hi : (P.info? ty).map (·.size) = some cs.size) :
    (results fn tmps).run P w = .ok (.tuple #[.agg cs, tmps.getD u undef, tmps.getD v undef]) w := by
  have e : (results fn tmps).run P w = ((asAddr (tmps.getD p undef)).run P w).andThen fun a w₁ => ((loadVar ty a).run P w₁).andThen fun x w₂ => .ok (.tuple #[x, tmps.getD u undef, tmps.getD v undef]) w₂ := by
    simp only [results, h]
    simp [Sem.run_bind, Result.andThen]
  rw [e, hp]
  simp [asAddr, Result.andThen, run_loadVar_row w g t ty cs fr d hg hu hd hi]
set_option maxRecDepth 100000 in
theorem pinb9 (x : Int) (h : 0 ≤ x ∧ x < 8) (w : World) : Calls Tryz.prog 52 #[.int .i64 x] w fun e w' => e = .returned (.bool true) ∧ w' = w := by
  have h1 := h.1
  have h2 := h.2
  go_enter Tryz.func52, Tryz.ntmps52
  go_wp2_with fail
  go_ret
  exact ⟨rfl, rfl⟩
/-- How a block of a kind is written, and read. -/
def fk9 (k : Nat) : Array Value := frm9.extract (k * 4) (k * 4 + 4)
def mst9 (k : Nat) : Int := if k = 0 then 65535 else 16908288
theorem fk9_facts (k : Nat) (hk : k < 3) : (Tryz.prog.info? 111).map (·.size) = some (fk9 k).size ∧ (#[.int .i64 0, .nilFunc, .nilFunc, .nilFunc] : Array Value).size = (fk9 k).size ∧ (fk9 k).all (·.oneCell') = true ∧ (fk9 k)[0]? = some (.int .i64 (mst9 k)) := by
  obtain rfl | rfl | rfl : k = 0 ∨ k = 1 ∨ k = 2 := by omega
  · exact ⟨by kernel_rfl, by kernel_rfl, by kernel_rfl, by kernel_rfl⟩
  · exact ⟨by kernel_rfl, by kernel_rfl, by kernel_rfl, by kernel_rfl⟩
  · exact ⟨by kernel_rfl, by kernel_rfl, by kernel_rfl, by kernel_rfl⟩
set_option maxRecDepth 100000 in
set_option maxHeartbeats 4000000 in
theorem pplan9_ok (l : List Tok7) (a : Option Addr) (n cap : Nat) (hn : Hid (l.length = n)) (k : Nat) (hk : k < 3) (x : Int) (hx : 0 ≤ x ∧ x < 8) (w : World) (hs : SegT w a l) (hl : n ≤ 65536) (hm : ∀ t ∈ l, may7 t) (hsz : (tal9 l).getD 0 0 ≤ mst9 k) :
    Calls Tryz.prog 51 #[.int .i64 (k : Int), .int .i64 x, .slice a n cap] w fun e w' => ∃ b, w.heap.size ≤ b ∧ e = .returned (.tuple #[.agg (fk9 k), .pointer (some ⟨b, 0, none⟩), .int .i64 0]) ∧ Ta9 w' b (tal9 l) ∧ Below w.heap.size w w' := by
  have hix : ∀ W, (Instr.index 115 (.agg frm9) (.int .i64 (k : Int))).run Tryz.prog W = .ok (.agg (fk9 k)) W := fun W => run_index9 W 115 111 3 4 _ _ k .i64 hk Tryz.underlying115 Tryz.underlying111 (by kernel_rfl)
  have hst : ∀ (W : World) (a : Addr) (f : Fn) (x y : Array Value), (store a (.func f x y)).run Tryz.prog W = stored Tryz.prog W a (.func f x y) .plain := fun W a f x y => run_store Tryz.prog W a _ _ rfl
  have HM : Hid (∀ t ∈ l, may7 t) := hm
  have HS : Hid (SegT w a l) := hs
  have HSZ : Hid ((tal9 l).getD 0 0 ≤ mst9 k) := hsz
  clear hm hs hsz
  have k0 : ¬ (k : Int) < 0 := by omega
  have k3 : ¬ (3 : Int) ≤ (k : Int) := by omega
  go_enter Tryz.func51, Tryz.ntmps51
  go_wp2_with fail
  have q0 := heap_alloc_new w (.cells #[.int .i64 0, .nilFunc, .nilFunc, .nilFunc] 111)
  have B0 := below_box8 w (.cells #[.int .i64 0, .nilFunc, .nilFunc, .nilFunc] 111)
  generalize w.alloc (.cells #[.int .i64 0, .nilFunc, .nilFunc, .nilFunc] 111) = w0 at *
  refine (pinb9 x hx w0).mono ?_
  rintro e w0' ⟨rfl, hw0⟩
  rw [hw0]
  clear hw0 w0'
  go_wp2_with fail
  refine (ptal9 l a n cap hn w0 (HS.out.old B0) hl).mono ?_
  rintro e w1 hq
  rcases hq with ⟨_, b, hb, rfl, TA, b1⟩ | ⟨hno, _, _⟩
  · go_wp2_with fail
    refine (pforms9 w1).mono ?_
    rintro e w2 ⟨rfl, b2⟩
    have TB := TA.keep (b2.block b TA.lt)
    have q2 := (b2.block w.heap.size (by have := (Array.getElem?_eq_some_iff.1 q0).1; have := b1.size; omega)).trans ((b1.block w.heap.size (Array.getElem?_eq_some_iff.1 q0).1).trans q0)
    have B2 : Below w.heap.size w w2 := (B0.trans (b1.mono B0.size)).trans (b2.mono (by have := B0.size; have := b1.size; omega))
    have hwb : w.heap.size ≠ b := by have := (Array.getElem?_eq_some_iff.1 q0).1; omega
    have hww : w.heap.size < w2.heap.size := (Array.getElem?_eq_some_iff.1 q2).1
    obtain ⟨fi, fs, fo, f0⟩ := fk9_facts k hk
    have HSP : Hid (Below w.heap.size w w0) := B0
    have hbb : w0.heap.size ≤ b := hb
    clear TA b1 b2 q0 hb
    go_wp2_with (refine wpList_store_row rfl 111 (.tmp 11) (.tmp 35) rfl w2.heap.size (fk9 k) rfl rfl _ _ (heap_alloc_new w2 _) fi fs fo ?_)
    have q3 := setRow_heap _ w2.heap.size _ (fk9 k) _ _ (heap_alloc_new w2 (.cells #[.int .i64 0, .nilFunc, .nilFunc, .nilFunc] 111))
    have b3 : Below w2.heap.size w2 ((w2.alloc (.cells #[.int .i64 0, .nilFunc, .nilFunc, .nilFunc] 111)).setRow w2.heap.size (fk9 k)) := ((Below.refl w2.heap.size w2).alloc (Nat.le_refl _) _).grown (grown_setRow _ _ _) (by simp) (fun j e => by cases e; exact Nat.le_refl _)
    generalize (w2.alloc (.cells #[.int .i64 0, .nilFunc, .nilFunc, .nilFunc] 111)).setRow w2.heap.size (fk9 k) = w3 at *
    have T3 := TB.keep (b3.block b TB.lt)
    have q33 := (b3.block w.heap.size hww).trans q2
    have B3 : Below w.heap.size w w3 := B2.trans (b3.mono B2.size)
    have c0 := T3.cell (i := 0) (by omega)
    have c1 : w3.cell? ⟨w2.heap.size, 0, none⟩ = some (.int .i64 (mst9 k)) := (cell_of_row w3 _ 0 _ _ _ q3).trans f0
    have hsz := HSZ.out
    obtain ⟨z, hz⟩ : ∃ z, z = (tal9 l).getD 0 0 := ⟨_, rfl⟩
    rw [← hz] at c0 hsz
    generalize mst9 k = M at *
    have hnz : ¬ M < z := by omega
    clear hz TB q2 b3 B2 HSZ f0
    go_region_held3 (fun w' => w'.cell? ⟨b, 0, none⟩ = some (.int .i64 z) ∧ w'.cell? ⟨w2.heap.size, 0, none⟩ = some (.int .i64 M)) (exact ⟨c0, c1⟩) (fail)
    have q4 : w3.drew.heap[w2.heap.size]? = some (.cells (fk9 k) 111 (0, 0)) := q3
    have q5 : w3.drew.heap[w.heap.size]? = some (.cells #[.int .i64 0, .nilFunc, .nilFunc, .nilFunc] 111 (0, 0)) := q33
    have T4 : Ta9 w3.drew b (tal9 l) := T3.keep rfl
    have B4 : Below w.heap.size w w3.drew := B3.drew
    generalize w3.drew = w4 at *
    clear q3 q33 T3 B3 c0 c1
    go_wp2_with (first
      | (refine wpList_load_row rfl 111 (.tmp 11) rfl w2.heap.size rfl _ _ _ _ q4 Tryz.underlying111 rfl fi ?_)
      | (refine wpList_store_row rfl 111 (.tmp 6) (.tmp 44) rfl w.heap.size (fk9 k) rfl rfl _ _ q5 fi fs fo ?_))
    have q6 := setRow_heap w4 w.heap.size _ (fk9 k) _ _ q5
    have g6 := grown_setRow w4 w.heap.size (fk9 k)
    refine bodyPost_ret (v := .tuple #[.agg (fk9 k), .pointer (some ⟨b, 0, none⟩), .int .i64 0]) (results_ctt9 (fn := Tryz.f51) (p := 6) (u := 7) (v := 8) (ty := 111) rfl _ _ w.heap.size _ _ _ _ rfl q6 Tryz.underlying111 rfl fi) rfl ?_
    refine ⟨b, by have := HSP.out.size; omega, rfl, T4.keep (g6.block b T4.lt (by simp; omega)), B4.trans ((Below.refl _ _).grown g6 B4.size (fun j e => by cases e; exact Nat.le_refl _))⟩
  · exact absurd HM.out hno
end Go.Proofs.YtcifalelnfeggaaGreatDoor

namespace Go.Proofs.YtcifalelnfeggaaGreatDoor
open Go.RowKit
set_option linter.unusedVariables false

/-! The landed block: PlainLens. -/
def pl9 (i : Nat) : List Int := (if 0 < i then List.replicate 144 8 else []) ++ (if 1 < i then List.replicate 112 9 else []) ++ (if 2 < i then List.replicate 24 7 else []) ++ (if 3 < i then List.replicate 8 8 else [])
def plnL9 : List Int := pl9 4
def plnD9 : List Int := List.replicate 32 5
set_option maxRecDepth 100000 in
set_option maxHeartbeats 2000000 in
theorem pplain9 (w : World) :
    Calls Tryz.prog 23 #[] w fun e w' => ∃ la lc da, e = .returned (.tuple #[.slice la 288 lc, .slice (some ⟨da, 0, none⟩) 32 32]) ∧ w'.ownsRow w.heap.size 3 1 (.slice la 288 lc) 288 (plnL9.map (Value.int .i64)) ∧ w'.ownsRow w.heap.size 3 1 (.slice (some ⟨da, 0, none⟩) 32 32) 32 (plnD9.map (Value.int .i64)) ∧ (∀ g, (Value.slice la 288 lc).ownBlock = some g → g < da) ∧ Below w.heap.size w w' := by
  obtain ⟨i0, hi, hz0, hz1, hz2⟩ := info_parts info_int
  go_enter Tryz.func23, Tryz.ntmps23
  go_wp2_with fail
  go_loopw [2, 10] (fun tl ti wr => ∃ (i : Nat) (la : Option Addr) (lc : Nat), i ≤ 4 ∧ ti = .int .i64 (i : Int) ∧ tl = .slice la (pl9 i).length lc ∧ wr.ownsRow w.heap.size 3 1 (.slice la (pl9 i).length lc) (pl9 i).length ((pl9 i).map (Value.int .i64)) ∧ Below w.heap.size w wr) (fun _ ti _ => 4 - (intOf ti).toNat)
  case atStart => exact ⟨0, none, 0, by omega, rfl, rfl, World.ownsRow_nil _ _ _ _, Below.refl _ _⟩
  case round =>
    obtain ⟨i, la, lc, hi4, rfl, rfl, OO, BR⟩ := hrel
    obtain rfl | rfl | rfl | rfl | rfl : i = 0 ∨ i = 1 ∨ i = 2 ∨ i = 3 ∨ i = 4 := by omega
    · have eK : (pl9 0).length = 0 := by decide
      rw [eK] at OO ⊢
      have hix : ∀ W, (Instr.index 105 (.agg #[Value.int .i64 8, Value.int .i64 144, Value.int .i64 9, Value.int .i64 112, Value.int .i64 7, Value.int .i64 24, Value.int .i64 8, Value.int .i64 8]) (.int .i64 0)).run Tryz.prog W = .ok (.agg #[.int .i64 8, .int .i64 144]) W := fun W => run_index9 W 105 104 4 2 _ _ 0 .i64 (by omega) Tryz.underlying105 Tryz.underlying104 (by kernel_rfl)
      go_wp2_with fail
      have B1 := below_box8 wr (.cells #[.int .i64 8, .int .i64 144] 104)
      have O1 := own_below OO B1
      generalize wr.alloc (.cells #[.int .i64 8, .int .i64 144] 104) = w1 at *
      refine (prep9 8 144 (by omega) (by omega) w1).mono ?_
      rintro e w2 ⟨rfl, O2, b2⟩
      have O3 := own_below O1 b2
      have S2 : SegZ w2 (some ⟨w1.heap.size, 0, none⟩) (List.replicate 144 8) := own_segZ O2 (fun z hz => by rw [List.eq_of_mem_replicate hz]; omega)
      have hsz : w.heap.size ≤ w2.heap.size := by have := BR.size; have := B1.size; have := b2.size; omega
      have b12 : Below w.heap.size w w2 := (BR.trans (B1.mono BR.size)).trans (b2.mono (by have := BR.size; have := B1.size; omega))
      clear OO O1 BR B1 b2 O2
      go_wp2_with (at_builtin; refine wpList_appZ rfl (.tmp 13) (.tmp 18) 39 rfl w.heap.size 3 i0 (.int .i64 0) 8 Tryz.underlying39 hi hz0 hz1 hz2 rfl O3 S2 (by intro h; cases h) rfl (by rw [List.length_replicate]; rfl) (by rw [List.length_replicate]; omega) (by rw [List.length_replicate]; omega) hsz ?_; intro b2 c2 w3 hown2 hg2 hfr2 hnl2)
      have BB : Below w.heap.size w w3 := b12.grown hg2 hsz (fun k e => own_ge9 O3 e)
      rw [List.length_replicate, ← List.map_append, show pl9 0 ++ List.replicate 144 8 = pl9 1 by decide] at hown2
      have eL : 0 + 144 = (pl9 1).length := by decide
      rw [eL] at hown2
      clear hg2 hfr2 hnl2 O3 S2 b12
      go_roundw
      case rel => exact ⟨1, b2, c2, by omega, by go_num, by rw [← eL], hown2, BB⟩
      case measure => simp [intOf]
    · have eK : (pl9 1).length = 144 := by decide
      rw [eK] at OO ⊢
      have hix : ∀ W, (Instr.index 105 (.agg #[Value.int .i64 8, Value.int .i64 144, Value.int .i64 9, Value.int .i64 112, Value.int .i64 7, Value.int .i64 24, Value.int .i64 8, Value.int .i64 8]) (.int .i64 1)).run Tryz.prog W = .ok (.agg #[.int .i64 9, .int .i64 112]) W := fun W => run_index9 W 105 104 4 2 _ _ 1 .i64 (by omega) Tryz.underlying105 Tryz.underlying104 (by kernel_rfl)
      go_wp2_with fail
      have B1 := below_box8 wr (.cells #[.int .i64 9, .int .i64 112] 104)
      have O1 := own_below OO B1
      generalize wr.alloc (.cells #[.int .i64 9, .int .i64 112] 104) = w1 at *
      refine (prep9 9 112 (by omega) (by omega) w1).mono ?_
      rintro e w2 ⟨rfl, O2, b2⟩
      have O3 := own_below O1 b2
      have S2 : SegZ w2 (some ⟨w1.heap.size, 0, none⟩) (List.replicate 112 9) := own_segZ O2 (fun z hz => by rw [List.eq_of_mem_replicate hz]; omega)
      have hsz : w.heap.size ≤ w2.heap.size := by have := BR.size; have := B1.size; have := b2.size; omega
      have b12 : Below w.heap.size w w2 := (BR.trans (B1.mono BR.size)).trans (b2.mono (by have := BR.size; have := B1.size; omega))
      clear OO O1 BR B1 b2 O2
      go_wp2_with (at_builtin; refine wpList_appZ rfl (.tmp 13) (.tmp 18) 39 rfl w.heap.size 3 i0 (.int .i64 0) 8 Tryz.underlying39 hi hz0 hz1 hz2 rfl O3 S2 (by intro h; cases h) rfl (by rw [List.length_replicate]; rfl) (by rw [List.length_replicate]; omega) (by rw [List.length_replicate]; omega) hsz ?_; intro b2 c2 w3 hown2 hg2 hfr2 hnl2)
      have BB : Below w.heap.size w w3 := b12.grown hg2 hsz (fun k e => own_ge9 O3 e)
      rw [List.length_replicate, ← List.map_append, show pl9 1 ++ List.replicate 112 9 = pl9 2 by decide] at hown2
      have eL : 144 + 112 = (pl9 2).length := by decide
      rw [eL] at hown2
      clear hg2 hfr2 hnl2 O3 S2 b12
      go_roundw
      case rel => exact ⟨2, b2, c2, by omega, by go_num, by rw [← eL], hown2, BB⟩
      case measure => simp [intOf]
    · have eK : (pl9 2).length = 256 := by decide
      rw [eK] at OO ⊢
      have hix : ∀ W, (Instr.index 105 (.agg #[Value.int .i64 8, Value.int .i64 144, Value.int .i64 9, Value.int .i64 112, Value.int .i64 7, Value.int .i64 24, Value.int .i64 8, Value.int .i64 8]) (.int .i64 2)).run Tryz.prog W = .ok (.agg #[.int .i64 7, .int .i64 24]) W := fun W => run_index9 W 105 104 4 2 _ _ 2 .i64 (by omega) Tryz.underlying105 Tryz.underlying104 (by kernel_rfl)
      go_wp2_with fail
      have B1 := below_box8 wr (.cells #[.int .i64 7, .int .i64 24] 104)
      have O1 := own_below OO B1
      generalize wr.alloc (.cells #[.int .i64 7, .int .i64 24] 104) = w1 at *
      refine (prep9 7 24 (by omega) (by omega) w1).mono ?_
      rintro e w2 ⟨rfl, O2, b2⟩
      have O3 := own_below O1 b2
      have S2 : SegZ w2 (some ⟨w1.heap.size, 0, none⟩) (List.replicate 24 7) := own_segZ O2 (fun z hz => by rw [List.eq_of_mem_replicate hz]; omega)
      have hsz : w.heap.size ≤ w2.heap.size := by have := BR.size; have := B1.size; have := b2.size; omega
      have b12 : Below w.heap.size w w2 := (BR.trans (B1.mono BR.size)).trans (b2.mono (by have := BR.size; have := B1.size; omega))
      clear OO O1 BR B1 b2 O2
      go_wp2_with (at_builtin; refine wpList_appZ rfl (.tmp 13) (.tmp 18) 39 rfl w.heap.size 3 i0 (.int .i64 0) 8 Tryz.underlying39 hi hz0 hz1 hz2 rfl O3 S2 (by intro h; cases h) rfl (by rw [List.length_replicate]; rfl) (by rw [List.length_replicate]; omega) (by rw [List.length_replicate]; omega) hsz ?_; intro b2 c2 w3 hown2 hg2 hfr2 hnl2)
      have BB : Below w.heap.size w w3 := b12.grown hg2 hsz (fun k e => own_ge9 O3 e)
      rw [List.length_replicate, ← List.map_append, show pl9 2 ++ List.replicate 24 7 = pl9 3 by decide] at hown2
      have eL : 256 + 24 = (pl9 3).length := by decide
      rw [eL] at hown2
      clear hg2 hfr2 hnl2 O3 S2 b12
      go_roundw
      case rel => exact ⟨3, b2, c2, by omega, by go_num, by rw [← eL], hown2, BB⟩
      case measure => simp [intOf]
    · have eK : (pl9 3).length = 280 := by decide
      rw [eK] at OO ⊢
      have hix : ∀ W, (Instr.index 105 (.agg #[Value.int .i64 8, Value.int .i64 144, Value.int .i64 9, Value.int .i64 112, Value.int .i64 7, Value.int .i64 24, Value.int .i64 8, Value.int .i64 8]) (.int .i64 3)).run Tryz.prog W = .ok (.agg #[.int .i64 8, .int .i64 8]) W := fun W => run_index9 W 105 104 4 2 _ _ 3 .i64 (by omega) Tryz.underlying105 Tryz.underlying104 (by kernel_rfl)
      go_wp2_with fail
      have B1 := below_box8 wr (.cells #[.int .i64 8, .int .i64 8] 104)
      have O1 := own_below OO B1
      generalize wr.alloc (.cells #[.int .i64 8, .int .i64 8] 104) = w1 at *
      refine (prep9 8 8 (by omega) (by omega) w1).mono ?_
      rintro e w2 ⟨rfl, O2, b2⟩
      have O3 := own_below O1 b2
      have S2 : SegZ w2 (some ⟨w1.heap.size, 0, none⟩) (List.replicate 8 8) := own_segZ O2 (fun z hz => by rw [List.eq_of_mem_replicate hz]; omega)
      have hsz : w.heap.size ≤ w2.heap.size := by have := BR.size; have := B1.size; have := b2.size; omega
      have b12 : Below w.heap.size w w2 := (BR.trans (B1.mono BR.size)).trans (b2.mono (by have := BR.size; have := B1.size; omega))
      clear OO O1 BR B1 b2 O2
      go_wp2_with (at_builtin; refine wpList_appZ rfl (.tmp 13) (.tmp 18) 39 rfl w.heap.size 3 i0 (.int .i64 0) 8 Tryz.underlying39 hi hz0 hz1 hz2 rfl O3 S2 (by intro h; cases h) rfl (by rw [List.length_replicate]; rfl) (by rw [List.length_replicate]; omega) (by rw [List.length_replicate]; omega) hsz ?_; intro b2 c2 w3 hown2 hg2 hfr2 hnl2)
      have BB : Below w.heap.size w w3 := b12.grown hg2 hsz (fun k e => own_ge9 O3 e)
      rw [List.length_replicate, ← List.map_append, show pl9 3 ++ List.replicate 8 8 = pl9 4 by decide] at hown2
      have eL : 280 + 8 = (pl9 4).length := by decide
      rw [eL] at hown2
      clear hg2 hfr2 hnl2 O3 S2 b12
      go_roundw
      case rel => exact ⟨4, b2, c2, by omega, by go_num, by rw [← eL], hown2, BB⟩
      case measure => simp [intOf]
    · have e4 : (pl9 4).length = 288 := by decide
      rw [e4] at OO ⊢
      go_wp2_with fail
      refine (prep9 5 32 (by omega) (by omega) wr).mono ?_
      rintro e w2 ⟨rfl, O2, b2⟩
      clear hi hz0 hz1 hz2
      go_wp2_with fail
      go_ret2
      refine ⟨la, lc, wr.heap.size, rfl, own_below OO b2, own_base O2 BR.size, ?_, BR.trans (b2.mono BR.size)⟩
      intro g hg
      obtain ⟨g0, cp, hv, _, _, h⟩ := own_shape OO (by omega)
      injection hv with hv1 _ _
      subst hv1
      simp [Value.ownBlock] at hg
      omega
end Go.Proofs.YtcifalelnfeggaaGreatDoor

namespace Go.Proofs.YtcifalelnfeggaaGreatDoor
open Go.RowKit
set_option linter.unusedVariables false

/-! The document's Told, over any reckoning of Check (ck: errC of CdC, by rcheck5_any of CdR). -/
def tld8 (ck : List Int → Int) (lit dist : List Int) : Prop := 257 ≤ lit.length ∧ lit.length ≤ 286 ∧ dist.length ≤ 30 ∧ ck lit = 0 ∧ ck dist = 0 ∧ lit.getD 256 0 ≠ 0
instance (ck : List Int → Int) (lit dist : List Int) : Decidable (tld8 ck lit dist) := by unfold tld8; infer_instance
/-- What Check answers at one list. -/
structure Chk8 (w : World) (a : Option Addr) (n ca : Nat) (v : Int) : Prop where
  out : Calls Tryz.prog 63 #[.slice a n ca] w fun e w' => e = .returned (.int .i64 v) ∧ w' = w
set_option maxRecDepth 100000 in
set_option maxHeartbeats 4000000 in
theorem rtold8 (ck : List Int → Int) (HCK : Hid (∀ (a : Option Addr) (zs : List Int) (n cap : Nat) (w : World), zs.length = n → SegZ w a zs → n ≤ 288 → Calls Tryz.prog 63 #[.slice a n cap] w fun e w' => e = .returned (.int .i64 (ck zs)) ∧ w' = w))
    (xs ys : List Int) (a b : Option Addr) (n m ca cb : Nat) (hn : Hid (xs.length = n)) (hm : Hid (ys.length = m)) (w : World) (hx : SegZ w a xs) (hy : SegZ w b ys) :
    Calls Tryz.prog 84 #[.slice a n ca, .slice b m cb] w fun e w' => e = .returned (.bool (decide (tld8 ck xs ys))) ∧ w' = w := by
  have HX : Hid (SegZ w a xs) := hx
  have HY : Hid (SegZ w b ys) := hy
  have HT : Hid (tld8 ck xs ys ↔ 257 ≤ n ∧ n ≤ 286 ∧ m ≤ 30 ∧ ck xs = 0 ∧ ck ys = 0 ∧ xs.getD 256 0 ≠ 0) := by
    unfold tld8
    rw [hn.out, hm.out]
    exact Iff.rfl
  clear hx hy
  by_cases h1 : n ≤ 256
  · have h1i : (n : Int) ≤ 256 := by omega
    have HF : Hid (decide (tld8 ck xs ys) = false) := by
      show _ = _
      simp only [decide_eq_false_iff_not]
      intro h
      have := HT.out.1 h
      omega
    go_enter Tryz.func84, Tryz.ntmps84
    go_wp2_with fail
    go_ret
    exact ⟨by rw [HF.out]; rfl, rfl⟩
  have h1i : ¬ (n : Int) ≤ 256 := by omega
  by_cases h2 : 286 < n
  · have h2i : 286 < (n : Int) := by omega
    have HF : Hid (decide (tld8 ck xs ys) = false) := by
      show _ = _
      simp only [decide_eq_false_iff_not]
      intro h
      have := HT.out.1 h
      omega
    go_enter Tryz.func84, Tryz.ntmps84
    go_wp2_with fail
    go_ret
    exact ⟨by rw [HF.out]; rfl, rfl⟩
  have h2i : ¬ 286 < (n : Int) := by omega
  by_cases h3 : 30 < m
  · have h3i : 30 < (m : Int) := by omega
    have HF : Hid (decide (tld8 ck xs ys) = false) := by
      show _ = _
      simp only [decide_eq_false_iff_not]
      intro h
      have := HT.out.1 h
      omega
    go_enter Tryz.func84, Tryz.ntmps84
    go_wp2_with fail
    go_ret
    exact ⟨by rw [HF.out]; rfl, rfl⟩
  have h3i : ¬ 30 < (m : Int) := by omega
  have HC1 : Chk8 w a n ca (ck xs) := ⟨HCK.out a xs n ca w hn.out HX.out (by omega)⟩
  have HC2 : Chk8 w b m cb (ck ys) := ⟨HCK.out b ys m cb w hm.out HY.out (by omega)⟩
  have HCA : Hid (∀ a n ca v, Chk8 w a n ca v → Calls Tryz.prog 63 #[.slice a n ca] w fun e w' => e = .returned (.int .i64 v) ∧ w' = w) := fun _ _ _ _ h => h.out
  clear HCK
  obtain ⟨bx, ox, rfl, c0⟩ := (show SegZ w a xs from HX.out).at_ 256 (by rw [hn.out]; omega)
  generalize xs.getD 256 0 = z at *
  have HR : Hid (decide (tld8 ck xs ys) = (decide (ck xs = 0) && decide (ck ys = 0) && decide (z ≠ 0))) := by
    show _ = _
    rw [Bool.eq_iff_iff]
    simp only [decide_eq_true_eq, Bool.and_eq_true]
    rw [HT.out]
    constructor
    · rintro ⟨_, _, _, g1, g2, g3⟩; exact ⟨⟨g1, g2⟩, g3⟩
    · rintro ⟨⟨g1, g2⟩, g3⟩; exact ⟨by omega, by omega, by omega, g1, g2, g3⟩
  clear HT
  generalize ck xs = e1 at *
  generalize ck ys = e2 at *
  by_cases g1 : e1 = 0
  · subst g1
    by_cases g2 : e2 = 0
    · subst g2
      by_cases g3 : z = 0
      · subst g3
        go_enter Tryz.func84, Tryz.ntmps84
        go_wp2_with (first | (go_at_call 63; refine (HCA.out _ _ _ _ (by assumption)).mono ?_; rintro e w1 ⟨rfl, hw1⟩; subst w1))
        go_ret
        exact ⟨by rw [HR.out]; rfl, rfl⟩
      · have g3b : (z == 0) = false := by simp [g3]
        go_enter Tryz.func84, Tryz.ntmps84
        go_wp2_with (first | (go_at_call 63; refine (HCA.out _ _ _ _ (by assumption)).mono ?_; rintro e w1 ⟨rfl, hw1⟩; subst w1))
        go_ret
        exact ⟨by rw [HR.out]; simp [g3], rfl⟩
    · have g2b : (e2 == 0) = false := by simp [g2]
      go_enter Tryz.func84, Tryz.ntmps84
      go_wp2_with (first | (go_at_call 63; refine (HCA.out _ _ _ _ (by assumption)).mono ?_; rintro e w1 ⟨rfl, hw1⟩; subst w1))
      go_ret
      exact ⟨by rw [HR.out]; simp [g2], rfl⟩
  · have g1b : (e1 == 0) = false := by simp [g1]
    go_enter Tryz.func84, Tryz.ntmps84
    go_wp2_with (first | (go_at_call 63; refine (HCA.out _ _ _ _ (by assumption)).mono ?_; rintro e w1 ⟨rfl, hw1⟩; subst w1))
    go_ret
    exact ⟨by rw [HR.out]; simp [g1], rfl⟩
end Go.Proofs.YtcifalelnfeggaaGreatDoor

namespace Go.Proofs.YtcifalelnfeggaaGreatDoor
open Go.RowKit
set_option linter.unusedVariables false

/-! The landed head: tellable. -/
set_option maxRecDepth 100000 in
set_option maxHeartbeats 4000000 in
theorem ptell8 (xs ys : List Int) (a b : Option Addr) (n m ca cb : Nat) (hn : Hid (xs.length = n)) (hm : Hid (ys.length = m)) (w : World) (hx : SegZ w a xs) (hy : SegZ w b ys) :
    Calls Tryz.prog 146 #[.slice a n ca, .slice b m cb] w fun e w' => e = .returned (.bool (decide (tld8 errC xs ys))) ∧ Below w.heap.size w w' := by
  have HX : Hid (SegZ w a xs) := hx
  have HY : Hid (SegZ w b ys) := hy
  have HT : Hid (tld8 errC xs ys ↔ 257 ≤ n ∧ n ≤ 286 ∧ m ≤ 30 ∧ errC xs = 0 ∧ errC ys = 0 ∧ xs.getD 256 0 ≠ 0) := by
    unfold tld8
    rw [hn.out, hm.out]
    exact Iff.rfl
  have HF : Hid (¬ (257 ≤ n ∧ n ≤ 286 ∧ m ≤ 30 ∧ errC xs = 0 ∧ errC ys = 0 ∧ xs.getD 256 0 ≠ 0) → decide (tld8 errC xs ys) = false) := fun h => by
    simp only [decide_eq_false_iff_not]
    exact fun h' => h (HT.out.1 h')
  clear hx hy
  by_cases h1 : n < 257
  · have h1i : (n : Int) < 257 := by omega
    have HE : Hid (decide (tld8 errC xs ys) = false) := HF.out (by omega)
    clear HT HF
    go_enter Tryz.func146, Tryz.ntmps146
    go_wp2_with fail
    go_ret
    exact ⟨by rw [HE.out]; rfl, Below.refl _ _⟩
  have h1i : ¬ (n : Int) < 257 := by omega
  by_cases h2 : 286 < n
  · have h2i : 286 < (n : Int) := by omega
    have HE : Hid (decide (tld8 errC xs ys) = false) := HF.out (by omega)
    clear HT HF
    go_enter Tryz.func146, Tryz.ntmps146
    go_wp2_with fail
    go_ret
    exact ⟨by rw [HE.out]; rfl, Below.refl _ _⟩
  have h2i : ¬ 286 < (n : Int) := by omega
  by_cases h3 : 30 < m
  · have h3i : 30 < (m : Int) := by omega
    have HE : Hid (decide (tld8 errC xs ys) = false) := HF.out (by omega)
    clear HT HF
    go_enter Tryz.func146, Tryz.ntmps146
    go_wp2_with fail
    go_ret
    exact ⟨by rw [HE.out]; rfl, Below.refl _ _⟩
  have h3i : ¬ 30 < (m : Int) := by omega
  have C1 := check_any a xs n ca hn w HX.out (by omega)
  by_cases h4 : errC xs = 0
  · have C2 : Hid (∀ W, Below w.heap.size w W → Calls Tryz.prog 163 #[.slice b m cb] W fun e w' => e = .returned (.int .i64 (errC ys)) ∧ Below W.heap.size W w') := fun W hW => check_any b ys m cb hm W ((show SegZ w b ys from HY.out).old hW) (by omega)
    rw [h4] at C1
    by_cases h5 : errC ys = 0
    · have hg : 256 < xs.length := by rw [hn.out]; omega
      obtain ⟨g, off, rfl, c0⟩ := (show SegZ w a xs from HX.out).at_ 256 hg
      have HG : Hid (∀ W, Below w.heap.size w W → W.cell? ⟨g, off + 256, none⟩ = some (.int .i64 (xs.getD 256 0))) := fun W hW => (hW.cell (p := ⟨g, off + 256, none⟩) (World.block_lt_of_cell? w _ c0)).trans c0
      have HE : Hid (decide (tld8 errC xs ys) = decide (xs.getD 256 0 ≠ 0)) := by
        show _ = _
        rw [decide_eq_decide, HT.out]
        constructor
        · exact fun h => h.2.2.2.2.2
        · exact fun h => ⟨by omega, by omega, by omega, h4, h5, h⟩
      rw [h5] at C2
      generalize xs.getD 256 0 = z at *
      have h256 : (256 : Int) < (n : Int) := by omega
      clear HT HF
      go_enter Tryz.func146, Tryz.ntmps146
      go_wp2_with fail
      refine C1.mono ?_
      rintro e w1 ⟨rfl, B1⟩
      go_wp2_with fail
      refine (C2.out w1 B1).mono ?_
      rintro e w2 ⟨rfl, B2⟩
      have B3 := B1.trans (B2.mono B1.size)
      have c2 := HG.out w2 B3
      by_cases hz : z = 0
      · subst hz
        go_wp2_with fail
        go_ret
        exact ⟨by rw [HE.out]; rfl, B3⟩
      · have hzb : (z == 0) = false := by simpa using hz
        go_wp2_with fail
        go_ret
        refine ⟨?_, B3⟩
        rw [HE.out, decide_eq_true hz]
        have hzn : (z != 0) = true := by simpa using hz
        show Ending.returned (Value.bool (z != 0)) = _
        rw [hzn]
    · have HE : Hid (decide (tld8 errC xs ys) = false) := HF.out (fun h => h5 h.2.2.2.2.1)
      have h5b : (errC ys == 0) = false := by simpa using h5
      clear HT HF
      generalize errC ys = z at *
      go_enter Tryz.func146, Tryz.ntmps146
      go_wp2_with fail
      refine C1.mono ?_
      rintro e w1 ⟨rfl, B1⟩
      go_wp2_with fail
      refine (C2.out w1 B1).mono ?_
      rintro e w2 ⟨rfl, B2⟩
      have B3 := B1.trans (B2.mono B1.size)
      go_wp2_with fail
      go_ret
      exact ⟨by rw [HE.out]; rfl, B3⟩
  · have HE : Hid (decide (tld8 errC xs ys) = false) := HF.out (fun h => h4 h.2.2.2.1)
    have h4b : (errC xs == 0) = false := by simpa using h4
    clear HT HF
    generalize errC xs = z at *
    go_enter Tryz.func146, Tryz.ntmps146
    go_wp2_with fail
    refine C1.mono ?_
    rintro e w1 ⟨rfl, B1⟩
    go_wp2_with fail
    go_ret
    exact ⟨by rw [HE.out]; rfl, B1⟩
end Go.Proofs.YtcifalelnfeggaaGreatDoor

namespace Go.Proofs.YtcifalelnfeggaaGreatDoor
open Go.RowKit
set_option linter.unusedVariables false

/-! Items: four cells. -/
structure Im where
  wt : Int
  sy : Int
  fs : Option Addr
  sn : Option Addr
def Im.val (x : Im) : Value := .agg #[.int .i64 x.wt, .int .i64 x.sy, .pointer x.fs, .pointer x.sn]
structure ItAt (w : World) (g o : Nat) (x : Im) : Prop where
  c0 : w.cell? ⟨g, o, none⟩ = some (.int .i64 x.wt)
  c1 : w.cell? ⟨g, o + 1, none⟩ = some (.int .i64 x.sy)
  c2 : w.cell? ⟨g, o + 2, none⟩ = some (.pointer x.fs)
  c3 : w.cell? ⟨g, o + 3, none⟩ = some (.pointer x.sn)
theorem ItAt.of_block {w w' : World} {g o : Nat} {x : Im} (h : ItAt w g o x) (hb : w'.heap[g]? = w.heap[g]?) : ItAt w' g o x :=
  ⟨(World.cell?_of_block (a := ⟨g, o, none⟩) hb).trans h.c0, (World.cell?_of_block (a := ⟨g, o + 1, none⟩) hb).trans h.c1, (World.cell?_of_block (a := ⟨g, o + 2, none⟩) hb).trans h.c2, (World.cell?_of_block (a := ⟨g, o + 3, none⟩) hb).trans h.c3⟩
theorem ItAt.lt {w : World} {g o : Nat} {x : Im} (h : ItAt w g o x) : g < w.heap.size := World.block_lt_of_cell? w _ h.c0
/-- A row of items. -/
structure RowAt (w : World) (g off n : Nat) (X : Nat → Im) : Prop where
  at_ : ∀ k, k < n → ItAt w g (off + k * 4) (X k)
theorem RowAt.of_block {w w' : World} {g off n : Nat} {X : Nat → Im} (h : RowAt w g off n X) (hb : w'.heap[g]? = w.heap[g]?) : RowAt w' g off n X := ⟨fun k hk => (h.at_ k hk).of_block hb⟩
theorem RowAt.drewN {w : World} {g off n : Nat} {X : Nat → Im} (h : RowAt w g off n X) (q : Nat) : RowAt (w.drewN q) g off n X := h.of_block rfl
/-- Four cells set. -/
def setIt (w : World) (g o : Nat) (x : Im) : World := (((w.setCell ⟨g, o, none⟩ (.int .i64 x.wt)).setCell ⟨g, o + 1, none⟩ (.int .i64 x.sy)).setCell ⟨g, o + 2, none⟩ (.pointer x.fs)).setCell ⟨g, o + 3, none⟩ (.pointer x.sn)

theorem sc_same {w : World} {g o : Nat} {v : Value} {u : Value} (h : w.cell? ⟨g, o, none⟩ = some u) : (w.setCell ⟨g, o, none⟩ v).cell? ⟨g, o, none⟩ = some v := World.cell?_setCell_same _ _ _ h
theorem sc_other {w : World} {g o p : Nat} {v : Value} (h : o ≠ p) : (w.setCell ⟨g, o, none⟩ v).cell? ⟨g, p, none⟩ = w.cell? ⟨g, p, none⟩ := World.cell?_setCell_other _ _ _ _ (by intro e; cases e; exact h rfl)
theorem setIt_same {w : World} {g o : Nat} {x y : Im} (h : ItAt w g o y) : ItAt (setIt w g o x) g o x := by
  unfold setIt
  refine ⟨?_, ?_, ?_, ?_⟩
  · rw [sc_other (by omega), sc_other (by omega), sc_other (by omega)]; exact sc_same h.c0
  · rw [sc_other (by omega), sc_other (by omega)]; exact sc_same (by rw [sc_other (by omega)]; exact h.c1)
  · rw [sc_other (by omega)]; exact sc_same (by rw [sc_other (by omega), sc_other (by omega)]; exact h.c2)
  · exact sc_same (by rw [sc_other (by omega), sc_other (by omega), sc_other (by omega)]; exact h.c3)
theorem setIt_cell {w : World} {g o p : Nat} {x : Im} (h : p < o ∨ o + 4 ≤ p) : (setIt w g o x).cell? ⟨g, p, none⟩ = w.cell? ⟨g, p, none⟩ := by
  unfold setIt
  rw [sc_other (by omega), sc_other (by omega), sc_other (by omega), sc_other (by omega)]
theorem setIt_other {w : World} {g o p : Nat} {x y : Im} (h : p + 4 ≤ o ∨ o + 4 ≤ p) (hy : ItAt w g p y) : ItAt (setIt w g o x) g p y :=
  ⟨by rw [setIt_cell (by omega)]; exact hy.c0, by rw [setIt_cell (by omega)]; exact hy.c1, by rw [setIt_cell (by omega)]; exact hy.c2, by rw [setIt_cell (by omega)]; exact hy.c3⟩
theorem setIt_grown (w : World) (g o : Nat) (x : Im) : w.grownBy (setIt w g o x) (some g) := grownBy_set (grownBy_set (grownBy_set (grownBy_set (World.grownBy.refl _ _) _) _) _) _
def upd (X : Nat → Im) (i : Nat) (x : Im) : Nat → Im := fun k => if k = i then x else X k
theorem RowAt.set {w : World} {g off n i : Nat} {X : Nat → Im} (h : RowAt w g off n X) (hi : i < n) (x : Im) : RowAt (setIt w g (off + i * 4) x) g off n (upd X i x) := by
  refine ⟨fun k hk => ?_⟩
  unfold upd
  by_cases e : k = i
  · subst e; rw [if_pos rfl]; exact setIt_same (h.at_ k hk)
  · rw [if_neg e]; exact setIt_other (by omega) (h.at_ k hk)
def swI (X : Nat → Im) (i j : Nat) : Nat → Im := upd (upd X i (X j)) j (X i)
theorem swI_at (X : Nat → Im) (i j k : Nat) : swI X i j k = if k = j then X i else if k = i then X j else X k := rfl
theorem RowAt.swap {w : World} {g off n i j : Nat} {X : Nat → Im} (h : RowAt w g off n X) (hi : i < n) (hj : j < n) : RowAt (setIt (setIt w g (off + i * 4) (X j)) g (off + j * 4) (X i)) g off n (swI X i j) := (h.set hi _).set hj _
theorem free_set {w : World} {g : Nat} (hf : ∀ k, w.frozen? ⟨g, k, none⟩ = false) (o : Nat) (v : Value) : ∀ k, (w.setCell ⟨g, o, none⟩ v).frozen? ⟨g, k, none⟩ = false := by
  intro k
  rw [← hf k]
  simp
theorem free_setIt {w : World} {g : Nat} (hf : ∀ k, w.frozen? ⟨g, k, none⟩ = false) (o : Nat) (x : Im) : ∀ k, (setIt w g o x).frozen? ⟨g, k, none⟩ = false := free_set (free_set (free_set (free_set hf _ _) _ _) _ _) _ _

end Go.Proofs.YtcifalelnfeggaaGreatDoor

namespace Go.Proofs.YtcifalelnfeggaaGreatDoor
set_option linter.unusedVariables false

/-! The stable sort, as moves of a row. -/
def lst (X : Nat → Im) (a b : Nat) : List Im := (List.range' a (b - a)).map X
/-- Y has within a .. b what X has there, and is X elsewhere. -/
def Pm (X Y : Nat → Im) (a b : Nat) : Prop := (lst Y a b).Perm (lst X a b) ∧ ∀ k, k < a ∨ b ≤ k → Y k = X k
theorem Pm.refl (X : Nat → Im) (a b : Nat) : Pm X X a b := ⟨List.Perm.refl _, fun _ _ => rfl⟩
theorem Pm.trans {X Y Z : Nat → Im} {a b : Nat} (h : Pm X Y a b) (k : Pm Y Z a b) : Pm X Z a b := ⟨k.1.trans h.1, fun i hi => (k.2 i hi).trans (h.2 i hi)⟩
theorem lst_split (X : Nat → Im) (a m b : Nat) (h1 : a ≤ m) (h2 : m ≤ b) : lst X a b = lst X a m ++ lst X m b := by
  unfold lst
  rw [← List.map_append]
  congr 1
  have e : b - a = (m - a) + (b - m) := by omega
  have e2 : a + (m - a) = m := by omega
  rw [e, ← List.range'_append_1, e2]
theorem lst_congr {X Y : Nat → Im} {a b : Nat} (h : ∀ k, a ≤ k → k < b → Y k = X k) : lst Y a b = lst X a b := by
  unfold lst
  apply List.map_congr_left
  intro k hk
  rw [List.mem_range'_1] at hk
  exact h k hk.1 (by omega)
theorem Pm.wide {X Y : Nat → Im} {a b a' b' : Nat} (h : Pm X Y a b) (h1 : a' ≤ a) (h2 : a ≤ b) (h3 : b ≤ b') : Pm X Y a' b' := by
  refine ⟨?_, fun k hk => h.2 k (by omega)⟩
  rw [lst_split Y a' a b' h1 (by omega), lst_split Y a b b' h2 h3, lst_split X a' a b' h1 (by omega), lst_split X a b b' h2 h3]
  rw [lst_congr (X := X) (Y := Y) (a := a') (b := a) (fun k _ hk => h.2 k (by omega)), lst_congr (X := X) (Y := Y) (a := b) (b := b') (fun k hk _ => h.2 k (by omega))]
  exact (h.1.append_right _).append_left _
theorem mem_lst {X : Nat → Im} {a b : Nat} {x : Im} : x ∈ lst X a b ↔ ∃ k, a ≤ k ∧ k < b ∧ X k = x := by
  unfold lst
  rw [List.mem_map]
  constructor
  · rintro ⟨k, hk, rfl⟩
    rw [List.mem_range'_1] at hk
    exact ⟨k, hk.1, by omega, rfl⟩
  · rintro ⟨k, h1, h2, rfl⟩
    exact ⟨k, by rw [List.mem_range'_1]; omega, rfl⟩
theorem Pm.mem {X Y : Nat → Im} {a b k : Nat} (h : Pm X Y a b) (h1 : a ≤ k) (h2 : k < b) : ∃ j, a ≤ j ∧ j < b ∧ Y k = X j := by
  obtain ⟨j, h3, h4, h5⟩ := mem_lst.1 (h.1.mem_iff.1 (mem_lst.2 ⟨k, h1, h2, rfl⟩))
  exact ⟨j, h3, h4, h5.symm⟩
theorem setp {α : Type} (d : α) : ∀ (l : List α) (i : Nat) (x : α), i < l.length → (l.getD i d :: l.set i x).Perm (x :: l)
  | [], _, _, h => by simp at h
  | z :: r, 0, x, _ => by simpa using List.Perm.swap x z r
  | z :: r, i + 1, x, h => by
    have := setp d r i x (by simpa using h)
    simp only [List.getD_cons_succ, List.set_cons_succ]
    exact (List.Perm.swap z (r.getD i d) (r.set i x)).trans ((this.cons z).trans (List.Perm.swap x z r))
theorem lst_get (X : Nat → Im) (a b k : Nat) (h : k < b - a) (d : Im) : (lst X a b).getD k d = X (a + k) := by
  unfold lst
  simp [List.getD, h]
theorem lst_get? (X : Nat → Im) (a b k : Nat) : (lst X a b)[k]? = if k < b - a then some (X (a + k)) else none := by
  unfold lst
  rw [List.getElem?_map]
  by_cases h : k < b - a
  · simp [h]
  · simp [h]
theorem lst_upd (X : Nat → Im) (a b i : Nat) (x : Im) (h1 : a ≤ i) (h2 : i < b) : lst (upd X i x) a b = (lst X a b).set (i - a) x := by
  apply List.ext_getElem?
  intro k
  have hl : (lst X a b).length = b - a := by simp [lst]
  rw [List.getElem?_set, lst_get?, lst_get?, hl]
  unfold upd
  by_cases e : i - a = k
  · rw [if_pos e, if_pos (show k < b - a by omega), if_pos (show a + k = i by omega), if_pos (by omega)]
  · rw [if_neg e]
    by_cases h : k < b - a
    · rw [if_pos h, if_pos h, if_neg (show ¬ a + k = i by omega)]
    · rw [if_neg h, if_neg h]
theorem Pm.swap (X : Nat → Im) {a b i j : Nat} (hi : a ≤ i) (hi2 : i < b) (hj : a ≤ j) (hj2 : j < b) : Pm X (swI X i j) a b := by
  refine ⟨?_, fun k hk => by rw [swI_at, if_neg (by omega), if_neg (by omega)]⟩
  unfold swI
  rw [lst_upd _ a b j _ hj hj2, lst_upd _ a b i _ hi hi2]
  have hl : (lst X a b).length = b - a := by simp [lst]
  have h1 := setp (X 0) (lst X a b) (i - a) (X j) (by omega)
  have h2 := setp (X 0) ((lst X a b).set (i - a) (X j)) (j - a) (X i) (by simp; omega)
  rw [lst_get X a b (i - a) (by omega)] at h1
  have e1 : a + (i - a) = i := by omega
  rw [e1] at h1
  have h3 : ((lst X a b).set (i - a) (X j)).getD (j - a) (X 0) = X j := by
    by_cases e : i - a = j - a
    · rw [← e]; simp [List.getD, hl, show i - a < b - a by omega]
    · have := lst_get X a b (j - a) (by omega) (X 0)
      have e2 : a + (j - a) = j := by omega
      rw [e2] at this
      rw [← this]
      simp [List.getD, e]
  rw [h3] at h2
  exact List.Perm.cons_inv (h2.trans h1)

def kl (x y : Im) : Prop := x.wt < y.wt ∨ (x.wt = y.wt ∧ x.sy < y.sy)
theorem kl_trans {x y z : Im} (h : kl x y) (k : kl y z) : kl x z := by unfold kl at *; omega
/-- In order, from a to b. -/
def so (X : Nat → Im) (a b : Nat) : Prop := ∀ i j, a ≤ i → i < j → j < b → kl (X i) (X j)
/-- What stands left of m has the lesser symbols. -/
def sep (X : Nat → Im) (a m b : Nat) : Prop := ∀ i j, a ≤ i → i < m → m ≤ j → j < b → (X i).sy < (X j).sy
theorem kl_of_wt {x y : Im} (h : x.sy < y.sy) (hw : ¬ y.wt < x.wt) : kl x y := by unfold kl; omega
/-- The item at m put in at j. -/
def insA (X : Nat → Im) (m j : Nat) : Nat → Im := fun k => if k < j then X k else if k = j then X m else if k ≤ m then X (k - 1) else X k
theorem insA_self (X : Nat → Im) (m : Nat) : insA X m m = X := by
  funext k
  unfold insA
  by_cases h1 : k < m
  · rw [if_pos h1]
  · rw [if_neg h1]
    by_cases h2 : k = m
    · rw [if_pos h2, h2]
    · rw [if_neg h2, if_neg (by omega)]
theorem insA_step (X : Nat → Im) (m j : Nat) (hj : 0 < j) (hm : j ≤ m) : swI (insA X m j) j (j - 1) = insA X m (j - 1) := by
  funext k
  rw [swI_at]
  unfold insA
  (repeat' split) <;> first | rfl | (exfalso; omega) | (congr 1; omega)
theorem insA_so {X : Nat → Im} {a m j : Nat} (h : so X a m) (h1 : a ≤ j) (h2 : j ≤ m) (hl : ∀ k, a ≤ k → k < j → kl (X k) (X m)) (hr : ∀ k, j ≤ k → k < m → kl (X m) (X k)) : so (insA X m j) a (m + 1) := by
  intro p q hp hpq hq
  unfold insA
  by_cases c1 : p < j
  · rw [if_pos c1]
    by_cases c2 : q < j
    · rw [if_pos c2]; exact h p q hp hpq (by omega)
    · rw [if_neg c2]
      by_cases c3 : q = j
      · rw [if_pos c3]; exact hl p hp c1
      · rw [if_neg c3, if_pos (by omega)]; exact h p (q - 1) hp (by omega) (by omega)
  · rw [if_neg c1, if_neg (show ¬ q < j by omega), if_neg (show ¬ q = j by omega), if_pos (show q ≤ m by omega)]
    by_cases c2 : p = j
    · rw [if_pos c2]; exact hr (q - 1) (by omega) (by omega)
    · rw [if_neg c2, if_pos (by omega)]; exact h (p - 1) (q - 1) (by omega) (by omega) (by omega)
/-- The item at a put in at j, further on. -/
def insU (X : Nat → Im) (a j : Nat) : Nat → Im := fun k => if k < a then X k else if k < j then X (k + 1) else if k = j then X a else X k
theorem insU_self (X : Nat → Im) (a : Nat) : insU X a a = X := by
  funext k
  unfold insU
  by_cases h1 : k < a
  · rw [if_pos h1]
  · rw [if_neg h1, if_neg h1]
    by_cases h2 : k = a
    · rw [if_pos h2, h2]
    · rw [if_neg h2]
theorem insU_step (X : Nat → Im) (a j : Nat) (hj : a ≤ j) : swI (insU X a j) j (j + 1) = insU X a (j + 1) := by
  funext k
  rw [swI_at]
  unfold insU
  by_cases h1 : k = j + 1
  · rw [if_pos h1, if_neg (by omega), if_neg (by omega), if_pos rfl, if_neg (by omega), if_neg (by omega), if_pos h1]
  · rw [if_neg h1]
    by_cases h2 : k = j
    · rw [if_pos h2, if_neg (by omega), if_neg (by omega), if_neg (by omega), if_neg (by omega), if_pos (by omega), h2]
    · rw [if_neg h2]
      by_cases h3 : k < a
      · rw [if_pos h3, if_pos h3]
      · rw [if_neg h3, if_neg h3]
        by_cases h4 : k < j
        · rw [if_pos h4, if_pos (by omega)]
        · rw [if_neg h4, if_neg h2, if_neg (by omega), if_neg h1]
theorem insU_so {X : Nat → Im} {a b j : Nat} (h : so X (a + 1) b) (h1 : a ≤ j) (h2 : j < b) (hl : ∀ k, a < k → k ≤ j → kl (X k) (X a)) (hr : ∀ k, j < k → k < b → kl (X a) (X k)) : so (insU X a j) a b := by
  intro p q hp hpq hq
  unfold insU
  rw [if_neg (show ¬ p < a by omega), if_neg (show ¬ q < a by omega)]
  by_cases c1 : p < j
  · rw [if_pos c1]
    by_cases c2 : q < j
    · rw [if_pos c2]; exact h (p + 1) (q + 1) (by omega) (by omega) (by omega)
    · rw [if_neg c2]
      by_cases c3 : q = j
      · rw [if_pos c3]; exact hl (p + 1) (by omega) (by omega)
      · rw [if_neg c3]; exact h (p + 1) q (by omega) (by omega) hq
  · rw [if_neg c1, if_neg (show ¬ q < j by omega), if_neg (show ¬ q = j by omega)]
    by_cases c2 : p = j
    · rw [if_pos c2]; exact hr q (by omega) hq
    · rw [if_neg c2]; exact h p q (by omega) hpq hq
/-! Runs that change places. -/
def swr (X : Nat → Im) (a b n : Nat) : Nat → Im := fun k => if a ≤ k ∧ k < a + n then X (b + (k - a)) else if b ≤ k ∧ k < b + n then X (a + (k - b)) else X k
theorem swr_zero (X : Nat → Im) (a b : Nat) : swr X a b 0 = X := by
  funext k
  unfold swr
  rw [if_neg (by omega), if_neg (by omega)]
theorem swr_step (X : Nat → Im) (a b n : Nat) (h : a + n < b) : swI (swr X a b n) (a + n) (b + n) = swr X a b (n + 1) := by
  funext k
  rw [swI_at]
  unfold swr
  by_cases h1 : k = b + n
  · rw [if_pos h1, if_neg (by omega), if_neg (by omega), if_neg (by omega), if_pos (by omega)]
    congr 1; omega
  · rw [if_neg h1]
    by_cases h2 : k = a + n
    · rw [if_pos h2, if_neg (by omega), if_neg (by omega), if_pos (by omega)]
      congr 1; omega
    · rw [if_neg h2]
      by_cases h3 : a ≤ k ∧ k < a + n
      · rw [if_pos h3, if_pos (by omega)]
      · rw [if_neg h3, if_neg (show ¬ (a ≤ k ∧ k < a + (n + 1)) by omega)]
        by_cases h4 : b ≤ k ∧ k < b + n
        · rw [if_pos h4, if_pos (by omega)]
        · rw [if_neg h4, if_neg (by omega)]
def rot (X : Nat → Im) (a m b : Nat) : Nat → Im := fun k => if a ≤ k ∧ k < a + (b - m) then X (k + (m - a)) else if a + (b - m) ≤ k ∧ k < b then X (k - (b - m)) else X k
theorem rot_more (X : Nat → Im) (m i j : Nat) (him : i ≤ m) (hj : 0 < j) (hij : j < i) : rot (swr X (m - i) m j) (m - (i - j)) m (m + j) = rot X (m - i) m (m + j) := by
  funext k
  unfold rot swr
  by_cases h1 : k < m - i
  · rw [if_neg (by omega), if_neg (by omega), if_neg (by omega), if_neg (by omega), if_neg (by omega), if_neg (by omega)]
  · by_cases h2 : k < m - i + j
    · rw [if_neg (show ¬ (m - (i - j) ≤ k ∧ k < m - (i - j) + (m + j - m)) by omega), if_neg (show ¬ (m - (i - j) + (m + j - m) ≤ k ∧ k < m + j) by omega), if_pos (by omega), if_pos (by omega)]
      congr 1; omega
    · by_cases h3 : k < m - (i - j) + j
      · rw [if_pos (by omega)]
        by_cases h4 : k + (m - (m - (i - j))) < m
        · rw [if_neg (by omega), if_neg (by omega), if_neg (by omega), if_pos (by omega)]
          congr 1; omega
        · rw [if_neg (by omega), if_pos (by omega), if_neg (by omega), if_pos (by omega)]
          congr 1; omega
      · by_cases h5 : k < m + j
        · rw [if_neg (by omega), if_pos (by omega)]
          rw [if_neg (show ¬ (m - i ≤ k ∧ k < m - i + (m + j - m)) by omega), if_pos (show m - i + (m + j - m) ≤ k ∧ k < m + j by omega)]
          by_cases h6 : k - (m + j - m) < m - i + j
          · omega
          · rw [if_neg (by omega), if_neg (by omega)]
        · rw [if_neg (by omega), if_neg (by omega), if_neg (by omega), if_neg (by omega), if_neg (by omega), if_neg (by omega)]
theorem rot_less (X : Nat → Im) (m i j : Nat) (him : i ≤ m) (hi : 0 < i) (hij : i < j) : rot (swr X (m - i) (m + j - i) i) (m - i) m (m + (j - i)) = rot X (m - i) m (m + j) := by
  funext k
  unfold rot swr
  by_cases h1 : k < m - i
  · rw [if_neg (by omega), if_neg (by omega), if_neg (by omega), if_neg (by omega), if_neg (by omega), if_neg (by omega)]
  · by_cases h2 : k < m - i + (j - i)
    · rw [if_pos (show m - i ≤ k ∧ k < m - i + (m + (j - i) - m) by omega)]
      rw [if_neg (by omega), if_neg (by omega), if_pos (by omega)]
    · by_cases h3 : k < m + (j - i)
      · rw [if_neg (show ¬ (m - i ≤ k ∧ k < m - i + (m + (j - i) - m)) by omega), if_pos (by omega)]
        rw [if_pos (by omega), if_pos (by omega)]
        congr 1; omega
      · by_cases h4 : k < m + j
        · rw [if_neg (by omega), if_neg (show ¬ (m - i + (m + (j - i) - m) ≤ k ∧ k < m + (j - i)) by omega), if_neg (by omega), if_pos (by omega)]
          rw [if_neg (by omega), if_pos (by omega)]
          congr 1; omega
        · rw [if_neg (by omega), if_neg (by omega), if_neg (by omega), if_neg (by omega), if_neg (by omega), if_neg (by omega)]
theorem rot_same (X : Nat → Im) (m i : Nat) (him : i ≤ m) : swr X (m - i) m i = rot X (m - i) m (m + i) := by
  funext k
  unfold rot swr
  by_cases h1 : m - i ≤ k ∧ k < m - i + i
  · rw [if_pos h1, if_pos (by omega)]; congr 1; omega
  · rw [if_neg h1, if_neg (show ¬ (m - i ≤ k ∧ k < m - i + (m + i - m)) by omega)]
    by_cases h2 : m ≤ k ∧ k < m + i
    · rw [if_pos h2, if_pos (by omega)]; congr 1; omega
    · rw [if_neg h2, if_neg (by omega)]
end Go.Proofs.YtcifalelnfeggaaGreatDoor

namespace Go.Proofs.YtcifalelnfeggaaGreatDoor
set_option linter.unusedVariables false

theorem so.le {X : Nat → Im} {a b i j : Nat} (h : so X a b) (hi : a ≤ i) (hij : i ≤ j) (hj : j < b) : i = j ∨ kl (X i) (X j) := by
  by_cases e : i = j
  · exact .inl e
  · exact .inr (h i j hi (by omega) hj)
theorem so.sub {X : Nat → Im} {a b a' b' : Nat} (h : so X a b) (h1 : a ≤ a') (h2 : b' ≤ b) : so X a' b' := fun i j hi hij hj => h i j (by omega) hij (by omega)
theorem kl_not {x y : Im} (h : kl x y) : ¬ kl y x := by unfold kl at *; omega
/-- Where both come from the two sides, the weights alone tell. -/
theorem wt_iff {x y : Im} (h : x.sy < y.sy) : y.wt < x.wt ↔ kl y x := by unfold kl; omega

/-- Where a search stands: below s the one, from r on the other. -/
def srch (t : Nat → Prop) (lo hi s r : Nat) : Prop := lo ≤ s ∧ s ≤ r ∧ r ≤ hi ∧ (∀ c, lo ≤ c → c < s → ¬ t c) ∧ ∀ c, r ≤ c → c < hi → t c
theorem srch_up {t : Nat → Prop} {lo hi s r c : Nat} (h : srch t lo hi s r) (hm : ∀ c c', lo ≤ c' → c' ≤ c → c < hi → t c' → t c) (h1 : s ≤ c) (h2 : c < r) (hc : ¬ t c) : srch t lo hi (c + 1) r := by
  obtain ⟨q1, q2, q3, q4, q5⟩ := h
  exact ⟨by omega, by omega, q3, fun d hd hd2 ht => hc (hm c d hd (by omega) (by omega) ht), q5⟩
theorem srch_down {t : Nat → Prop} {lo hi s r c : Nat} (h : srch t lo hi s r) (hm : ∀ c c', lo ≤ c' → c' ≤ c → c < hi → t c' → t c) (h1 : s ≤ c) (h2 : c < r) (hc : t c) : srch t lo hi s c := by
  obtain ⟨q1, q2, q3, q4, q5⟩ := h
  exact ⟨q1, h1, by omega, q4, fun d hd hd2 => hm d c (by omega) hd hd2 hc⟩

theorem rot_left (X : Nat → Im) (m b : Nat) : rot X m m b = X := by
  funext k
  unfold rot
  (repeat' split) <;> first | rfl | (exfalso; omega) | (congr 1; omega)
theorem rot_right (X : Nat → Im) (a m : Nat) : rot X a m m = X := by
  funext k
  unfold rot
  (repeat' split) <;> first | rfl | (exfalso; omega) | (congr 1; omega)

/-- The test of the search, c against its mirror. -/
def tst (X : Nat → Im) (p c : Nat) : Prop := (X (p - c)).wt < (X c).wt
structure Sy (X : Nat → Im) (a m b mid : Nat) : Prop where
  am : a < m
  mb : m < b
  mid1 : mid = (a + b) / 2
  l : so X a m
  r : so X m b
  s : sep X a m b
def slo (a m b mid : Nat) : Nat := if m > mid then mid + m - b else a
def shi (m mid : Nat) : Nat := if m > mid then mid else m
variable {X : Nat → Im} {a m b mid : Nat}
theorem Sy.bounds (h : Sy X a m b mid) : a ≤ slo a m b mid ∧ slo a m b mid ≤ shi m mid ∧ shi m mid ≤ m ∧ shi m mid ≤ mid ∧ ∀ c, slo a m b mid ≤ c → c < shi m mid → m ≤ mid + m - 1 - c ∧ mid + m - 1 - c < b ∧ a ≤ c ∧ c < m := by
  have := h.am; have := h.mb; have := h.mid1
  unfold slo shi
  split
  · refine ⟨by omega, by omega, by omega, by omega, fun c h1 h2 => ?_⟩
    omega
  · refine ⟨by omega, by omega, by omega, by omega, fun c h1 h2 => ?_⟩
    omega
theorem Sy.mono (h : Sy X a m b mid) : ∀ c c', slo a m b mid ≤ c' → c' ≤ c → c < shi m mid → tst X (mid + m - 1) c' → tst X (mid + m - 1) c := by
  intro c c' h1 h2 h3 ht
  obtain ⟨_, _, _, _, hb⟩ := h.bounds
  obtain ⟨p1, p2, p3, p4⟩ := hb c (by omega) h3
  obtain ⟨q1, q2, q3, q4⟩ := hb c' h1 (by omega)
  unfold tst at *
  have e1 := h.l.le q3 h2 p4
  have e2 := h.r.le (i := mid + m - 1 - c) (j := mid + m - 1 - c') p1 (by omega) q2
  have k1 : (X c').wt ≤ (X c).wt := by
    rcases e1 with e | e
    · rw [e]; exact Int.le_refl _
    · unfold kl at e; omega
  have k2 : (X (mid + m - 1 - c)).wt ≤ (X (mid + m - 1 - c')).wt := by
    rcases e2 with e | e
    · rw [e]; exact Int.le_refl _
    · unfold kl at e; omega
  omega
/-- Behind the turn: two sorted pairs, the left ones below the right ones. -/
theorem Sy.turned (h : Sy X a m b mid) {st : Nat} (hs : srch (tst X (mid + m - 1)) (slo a m b mid) (shi m mid) st st) :
    a ≤ st ∧ st ≤ mid ∧ st ≤ m ∧ m ≤ mid + m - st ∧ mid ≤ mid + m - st ∧ mid + m - st ≤ b ∧
    (so (rot X st m (mid + m - st)) a st ∧ so (rot X st m (mid + m - st)) st mid ∧ sep (rot X st m (mid + m - st)) a st mid) ∧
    (so (rot X st m (mid + m - st)) mid (mid + m - st) ∧ so (rot X st m (mid + m - st)) (mid + m - st) b ∧ sep (rot X st m (mid + m - st)) mid (mid + m - st) b) ∧
    ∀ i j, a ≤ i → i < mid → mid ≤ j → j < b → kl (rot X st m (mid + m - st) i) (rot X st m (mid + m - st) j) := by
  obtain ⟨b1, b2, b3, b4, hb⟩ := h.bounds
  obtain ⟨q1, _, q3, q4, q5⟩ := hs
  have ham := h.am; have hmb := h.mb; have hmid := h.mid1
  have hen : mid + m - st ≤ b := by
    unfold slo at q1
    split at q1
    · omega
    · omega
  have y1 : ∀ k, k < st → rot X st m (mid + m - st) k = X k := by
    intro k hk; unfold rot; rw [if_neg (by omega), if_neg (by omega)]
  have y2 : ∀ k, st ≤ k → k < mid → rot X st m (mid + m - st) k = X (k + (m - st)) := by
    intro k hk hk2; unfold rot; rw [if_pos (by omega)]
  have y3 : ∀ k, mid ≤ k → k < mid + m - st → rot X st m (mid + m - st) k = X (k - (mid + m - st - m)) := by
    intro k hk hk2; unfold rot; rw [if_neg (by omega), if_pos (by omega)]
  have y4 : ∀ k, mid + m - st ≤ k → rot X st m (mid + m - st) k = X k := by
    intro k hk; unfold rot; rw [if_neg (by omega), if_neg (by omega)]
  refine ⟨by omega, by omega, by omega, by omega, by omega, hen, ⟨?_, ?_, ?_⟩, ⟨?_, ?_, ?_⟩, ?_⟩
  · intro i j hi hij hj; rw [y1 i (by omega), y1 j hj]; exact h.l i j hi hij (by omega)
  · intro i j hi hij hj; rw [y2 i hi (by omega), y2 j (by omega) hj]; exact h.r _ _ (by omega) (by omega) (by omega)
  · intro i j hi hij hj hj2; rw [y1 i hij, y2 j hj hj2]; exact h.s _ _ hi (by omega) (by omega) (by omega)
  · intro i j hi hij hj; rw [y3 i hi (by omega), y3 j (by omega) hj]; exact h.l _ _ (by omega) (by omega) (by omega)
  · intro i j hi hij hj; rw [y4 i hi, y4 j (by omega)]; exact h.r _ _ (by omega) hij hj
  · intro i j hi hij hj hj2; rw [y3 i hi hij, y4 j hj]; exact h.s _ _ (by omega) (by omega) (by omega) hj2
  · intro i j hi hi2 hj hj2
    by_cases c1 : i < st
    · rw [y1 i c1]
      by_cases c2 : j < mid + m - st
      · rw [y3 j hj c2]; exact h.l _ _ hi (by omega) (by omega)
      · rw [y4 j (by omega)]
        have hlo : slo a m b mid < st := by
          unfold slo at q1 ⊢
          split at q1
          · rw [if_pos (by assumption)]; omega
          · rw [if_neg (by assumption)]; omega
        have ht := q4 (st - 1) (by omega) (by omega)
        obtain ⟨p1, p2, p3, p4⟩ := hb (st - 1) (by omega) (by omega)
        unfold tst at ht
        have e1 : mid + m - 1 - (st - 1) = mid + m - st := by omega
        rw [e1] at ht p1 p2
        have k0 : kl (X (st - 1)) (X (mid + m - st)) := kl_of_wt (h.s _ _ p3 p4 p1 p2) ht
        have k1 := h.l.le hi (show i ≤ st - 1 by omega) p4
        have k2 := h.r.le p1 (show mid + m - st ≤ j by omega) hj2
        have k3 : kl (X i) (X (mid + m - st)) := by
          rcases k1 with e | e
          · rw [e]; exact k0
          · exact kl_trans e k0
        rcases k2 with e | e
        · rw [← e]; exact k3
        · exact kl_trans k3 e
    · rw [y2 i (by omega) hi2]
      by_cases c2 : j < mid + m - st
      · rw [y3 j hj c2]
        have hhi : st < shi m mid := by
          unfold shi at q3 ⊢
          split at q3
          · rw [if_pos (by assumption)]; omega
          · rw [if_neg (by assumption)]; omega
        have ht := q5 st (Nat.le_refl _) hhi
        obtain ⟨p1, p2, p3, p4⟩ := hb st q1 hhi
        unfold tst at ht
        have k0 : kl (X (mid + m - 1 - st)) (X st) := (wt_iff (h.s _ _ p3 p4 p1 p2)).1 ht
        have k1 := h.r.le (i := i + (m - st)) (j := mid + m - 1 - st) (by omega) (by omega) p2
        have k2 := h.l.le (i := st) (j := j - (mid + m - st - m)) p3 (by omega) (by omega)
        have k3 : kl (X (i + (m - st))) (X st) := by
          rcases k1 with e | e
          · rw [e]; exact k0
          · exact kl_trans e k0
        rcases k2 with e | e
        · rw [← e]; exact k3
        · exact kl_trans k3 e
      · rw [y4 j (by omega)]; exact h.r _ _ (by omega) (by omega) hj2
/-- Two sorted halves, the left one below the right one. -/
theorem so_join {Y Z : Nat → Im} {a mid b : Nat} (h1 : a ≤ mid) (h2 : mid ≤ b) {Z1 : Nat → Im} (p1 : Pm Y Z1 a mid) (s1 : so Z1 a mid) (p2 : Pm Z1 Z mid b) (s2 : so Z mid b) (hc : ∀ i j, a ≤ i → i < mid → mid ≤ j → j < b → kl (Y i) (Y j)) : so Z a b := by
  intro i j hi hij hj
  by_cases c1 : j < mid
  · rw [p2.2 i (by omega), p2.2 j (by omega)]; exact s1 i j hi hij c1
  · by_cases c2 : i < mid
    · obtain ⟨i', a1, a2, a3⟩ := p1.mem hi c2
      obtain ⟨j', a4, a5, a6⟩ := p2.mem (k := j) (by omega) hj
      rw [p2.2 i (by omega), a3, a6, p1.2 j' (by omega)]
      exact hc i' j' a1 a2 a4 a5
    · exact s2 i j (by omega) hij hj
end Go.Proofs.YtcifalelnfeggaaGreatDoor

namespace Go.Proofs.YtcifalelnfeggaaGreatDoor
open Go.RowKit
set_option linter.unusedVariables false

def cmpZ (x y : Int) : Int := if x < y then -1 else if y < x then 1 else 0
def cmpV (x y : Im) : Int := cmpZ x.wt y.wt
theorem cmpV_neg (x y : Im) : cmpV x y < 0 ↔ x.wt < y.wt := by unfold cmpV cmpZ; (repeat' split) <;> omega
theorem cmpV_bd (x y : Im) : -1 ≤ cmpV x y ∧ cmpV x y ≤ 1 := by unfold cmpV cmpZ; (repeat' split) <;> omega
abbrev cmpF : Value := .func (.func 115) #[] #[]

set_option maxRecDepth 100000 in
theorem nan_any (x : Int) (w : World) : Calls Tryz.prog 138 #[.int .i64 x] w fun e w' => e = .returned (.bool false) ∧ w' = w := by
  go_enter Tryz.func138, Tryz.ntmps138
  go_wp2
  go_ret
  exact ⟨rfl, rfl⟩
set_option maxRecDepth 100000 in
theorem compare_any (x y : Int) (w : World) : Calls Tryz.prog 116 #[.int .i64 x, .int .i64 y] w fun e w' => e = .returned (.int .i64 (cmpZ x y)) ∧ w' = w := by
  unfold cmpZ
  go_enter Tryz.func116, Tryz.ntmps116
  by_cases h1 : x < y
  · rw [if_pos h1]
    go_wp2_with (go_at_call 138; refine (nan_any _ _).mono ?_; rintro e w' ⟨rfl, hw'⟩; subst w')
    go_ret
    exact ⟨rfl, rfl⟩
  · rw [if_neg h1]
    by_cases h2 : y < x
    · rw [if_pos h2]
      go_wp2_with (go_at_call 138; refine (nan_any _ _).mono ?_; rintro e w' ⟨rfl, hw'⟩; subst w')
      go_ret
      exact ⟨rfl, rfl⟩
    · rw [if_neg h2]
      go_wp2_with (go_at_call 138; refine (nan_any _ _).mono ?_; rintro e w' ⟨rfl, hw'⟩; subst w')
      go_ret
      exact ⟨rfl, rfl⟩
set_option maxRecDepth 100000 in
theorem cmp_any (x y : Im) (w : World) : Calls Tryz.prog 115 #[x.val, y.val] w fun e w' => e = .returned (.int .i64 (cmpV x y)) ∧ Below w.heap.size w w' := by
  obtain ⟨a0, a1, a2, a3⟩ := x
  obtain ⟨b0, b1, b2, b3⟩ := y
  unfold Im.val
  go_enter Tryz.func115, Tryz.ntmps115
  go_wp2_with fail
  refine (compare_any _ _ _).mono ?_
  rintro e w' ⟨rfl, hw'⟩
  subst w'
  go_wp2
  go_ret
  exact ⟨rfl, ((Below.refl _ _).alloc (Nat.le_refl _) _).alloc (by simp) _⟩
/-- The row that is sorted: its items, and that it may be written. -/
structure Sr (w : World) (g n : Nat) (X : Nat → Im) : Prop where
  row : RowAt w g 0 n X
  free : ∀ k, w.frozen? ⟨g, k, none⟩ = false
theorem Sr.it {w : World} {g n : Nat} {X : Nat → Im} (h : Sr w g n X) {k : Nat} (hk : k < n) : ItAt w g (k * 4) (X k) := by
  have := h.row.at_ k hk
  rwa [Nat.zero_add] at this
theorem Sr.old {w w' : World} {g n : Nat} {X : Nat → Im} (h : Sr w g n X) (hg : g < w.heap.size) (hb : Below w.heap.size w w') : Sr w' g n X :=
  ⟨h.row.of_block (hb.block g hg), fun k => by
    have e := hb.block g hg
    have := h.free k
    unfold World.frozen? at this ⊢
    rw [e]; exact this⟩
theorem Sr.drew {w : World} {g n : Nat} {X : Nat → Im} (h : Sr w g n X) : Sr w.drew g n X := ⟨h.row.of_block rfl, h.free⟩
theorem Sr.swap {w : World} {g n i j : Nat} {X : Nat → Im} (h : Sr w g n X) (hi : i < n) (hj : j < n) : Sr (setIt (setIt w g (i * 4) (X j)) g (j * 4) (X i)) g n (swI X i j) := by
  have := h.row.swap hi hj
  rw [Nat.zero_add, Nat.zero_add] at this
  exact ⟨this, free_setIt (free_setIt h.free _ _) _ _⟩
theorem swap_grown (w : World) (g i j : Nat) (x y : Im) : w.grownBy (setIt (setIt w g i x) g j y) (some g) := grownBy_trans (setIt_grown _ _ _ _) (setIt_grown _ _ _ _)
theorem grown_old {w w' : World} (h : Below w.heap.size w w') (row : Option Nat) : w.grownBy w' row := ⟨h.os, h.tape, h.output, h.size, fun i hi _ => h.block i hi⟩

set_option maxRecDepth 100000 in
set_option maxHeartbeats 2000000 in
theorem swapRange_any (g cap n a b c : Nat) (X : Nat → Im) (w : World) (h : Sr w g n X) (hab : a + c ≤ b) (hb : b + c ≤ n) (hl : n ≤ 100000) (f : Value) :
    Calls Tryz.prog 173 #[.slice (some ⟨g, 0, none⟩) n cap, .int .i64 a, .int .i64 b, .int .i64 c, f] w fun e w' => e = .returned (.tuple #[]) ∧ Sr w' g n (swr X a b c) ∧ w.grownBy w' (some g) ∧ Pm X (swr X a b c) a (b + c) := by
  go_enter Tryz.func173, Tryz.ntmps173
  go_wp2
  go_loopw [10] (fun ti wr => ∃ i : Nat, i ≤ c ∧ ti = .int .i64 (i : Int) ∧ Sr wr g n (swr X a b i) ∧ w.grownBy wr (some g) ∧ Hid (Pm X (swr X a b i) a (b + c))) (fun ti _ => c - (intOf ti).toNat)
  case atStart => exact ⟨0, Nat.zero_le _, rfl, by rw [swr_zero]; exact h, World.grownBy.refl _ _, (by rw [swr_zero]; exact Pm.refl _ _ _ : Pm _ _ _ _)⟩
  case round =>
    obtain ⟨i, hi, rfl, hS, hG, HP⟩ := hrel
    by_cases hic : i < c
    · have hici : (i : Int) < (c : Int) := by omega
      obtain ⟨p, hp⟩ : ∃ p, p = a + i := ⟨_, rfl⟩
      obtain ⟨q, hq⟩ : ∃ q, q = b + i := ⟨_, rfl⟩
      have HP2 : Hid (Pm X (swr X a b (i + 1)) a (b + c)) := by
        have h1 := HP.out.trans (Pm.swap (swr X a b i) (a := a) (b := b + c) (i := a + i) (j := b + i) (by omega) (by omega) (by omega) (by omega))
        rw [swr_step X a b i (by omega)] at h1
        exact h1
      have HS2 := hS.swap (i := p) (j := q) (by omega) (by omega)
      have HS3 : Hid (swI (swr X a b i) p q = swr X a b (i + 1)) := by show _ = _; rw [hp, hq]; exact swr_step X a b i (by omega)
      rw [HS3.out] at HS2
      have hpn : p < n := by omega
      have hqn : q < n := by omega
      have hpq : p ≠ q := by omega
      have rp : (a : Int) + (i : Int) = (p : Int) := by omega
      have rq : (b : Int) + (i : Int) = (q : Int) := by omega
      obtain ⟨x0, x1, x2, x3⟩ := hS.it hpn
      obtain ⟨y0, y1, y2, y3⟩ := hS.it hqn
      have HSS : Hid _ := HS2
      have HG := swap_grown wr g (p * 4) (q * 4) (swr X a b i q) (swr X a b i p)
      have HGG : Hid _ := HG
      clear HS2 HG hp hq
      have f0 := hS.free (p * 4); have f1 := hS.free (p * 4 + 1); have f2 := hS.free (p * 4 + 2); have f3 := hS.free (p * 4 + 3)
      have e0 := hS.free (q * 4); have e1 := hS.free (q * 4 + 1); have e2 := hS.free (q * 4 + 2); have e3 := hS.free (q * 4 + 3)
      clear hS
      generalize swr X a b i p = x at *
      generalize swr X a b i q = y at *
      have z0 : (p : Int) < (n : Int) := by omega
      have z1 : (q : Int) < (n : Int) := by omega
      go_wp2_with fail
      go_region
      go_wp2
      go_roundw
      case rel => exact ⟨i + 1, by omega, by go_num, (HSS.out).drew, grownBy_drew (grownBy_trans hG HGG.out), HP2.out⟩
      case measure => simp [intOf]; omega
    · obtain rfl : i = c := by omega
      go_wp2
      go_end0
      exact ⟨rfl, hS, hG, HP.out⟩

theorem mul4_lt {k n : Nat} (h : k < n) : k * 4 + 3 < n * 4 := by omega

end Go.Proofs.YtcifalelnfeggaaGreatDoor

namespace Go.Proofs.YtcifalelnfeggaaGreatDoor
open Go.RowKit
set_option linter.unusedVariables false

theorem Sr.grown {w w' : World} {g n : Nat} {X : Nat → Im} (h : Sr w g n X) (hg : w.grownBy w' none) (hl : g < w.heap.size) : Sr w' g n X :=
  h.old hl ⟨hg.os, hg.tape, hg.output, hg.size, fun i hi => hg.block i hi (by simp)⟩
/-- Two items of the row, as cells. -/
def Two (g p q : Nat) (x y : Im) (w' : World) : Prop :=
  (w'.cell? ⟨g, p * 4, none⟩ = some (.int .i64 x.wt) ∧ w'.cell? ⟨g, p * 4 + 1, none⟩ = some (.int .i64 x.sy) ∧ w'.cell? ⟨g, p * 4 + 2, none⟩ = some (.pointer x.fs) ∧ w'.cell? ⟨g, p * 4 + 3, none⟩ = some (.pointer x.sn)) ∧
  (w'.cell? ⟨g, q * 4, none⟩ = some (.int .i64 y.wt) ∧ w'.cell? ⟨g, q * 4 + 1, none⟩ = some (.int .i64 y.sy) ∧ w'.cell? ⟨g, q * 4 + 2, none⟩ = some (.pointer y.fs) ∧ w'.cell? ⟨g, q * 4 + 3, none⟩ = some (.pointer y.sn))
theorem two_of {w : World} {g p q : Nat} {x y : Im} (h : ItAt w g (p * 4) x) (k : ItAt w g (q * 4) y) : Two g p q x y w := ⟨⟨h.c0, h.c1, h.c2, h.c3⟩, ⟨k.c0, k.c1, k.c2, k.c3⟩⟩
theorem two_old {w w' : World} {g p q : Nat} {x y : Im} (h : Two g p q x y w) (hb : Below w.heap.size w w') : Two g p q x y w' := by
  have k1 : ItAt w g (p * 4) x := ⟨h.1.1, h.1.2.1, h.1.2.2.1, h.1.2.2.2⟩
  have k2 : ItAt w g (q * 4) y := ⟨h.2.1, h.2.2.1, h.2.2.2.1, h.2.2.2.2⟩
  exact two_of (k1.of_block (hb.block g k1.lt)) (k2.of_block (hb.block g k2.lt))

set_option maxRecDepth 100000 in
set_option maxHeartbeats 4000000 in
theorem insSort_any (g cap n a b : Nat) (X : Nat → Im) (w : World) (h : Sr w g n X) (hg : g < w.heap.size) (hab : a ≤ b) (hb : b ≤ n) (hl : n ≤ 100000) (hs : ∀ i j, a ≤ i → i < j → j < b → (X i).sy < (X j).sy) :
    Calls Tryz.prog 157 #[.slice (some ⟨g, 0, none⟩) n cap, .int .i64 a, .int .i64 b, cmpF] w fun e w' => e = .returned (.tuple #[]) ∧ ∃ Y, Sr w' g n Y ∧ w.grownBy w' (some g) ∧ Pm X Y a b ∧ so Y a b := by
  go_enter Tryz.func157, Tryz.ntmps157
  go_wp2
  go_loopw [8] (fun ti wr => ∃ (i : Nat) (Y : Nat → Im), a < i ∧ (i ≤ b ∨ i = a + 1) ∧ ti = .int .i64 (i : Int) ∧ Sr wr g n Y ∧ w.grownBy wr (some g) ∧ Hid (Pm X Y a (min i b) ∧ so Y a (min i b))) (fun ti _ => b + 1 - (intOf ti).toNat)
  case atStart => exact ⟨a + 1, X, by omega, .inr rfl, by go_num, h, World.grownBy.refl _ _, (⟨Pm.refl _ _ _, fun i j h1 h2 h3 => by omega⟩ : _ ∧ _)⟩
  case round =>
    obtain ⟨i, Y, hai, hib, rfl, hS, hG, HY⟩ := hrel
    by_cases hi : i < b
    · have hii : (i : Int) < (b : Int) := by omega
      have HY1 : Hid (Pm X Y a i ∧ so Y a i) := by
        have := HY.out
        rw [Nat.min_eq_left (by omega)] at this
        exact this
      have HSY : Hid (∀ k, a ≤ k → k < i → (Y k).sy < (Y i).sy) := by
        intro k h1 h2
        obtain ⟨q, h3, h4, h5⟩ := HY1.out.1.mem (k := k) h1 h2
        rw [HY1.out.1.2 i (by omega), h5]
        exact hs q i h3 h4 hi
      clear HY
      obtain ⟨w0, hw0⟩ : ∃ w0, w0 = wr := ⟨_, rfl⟩
      have HW0 : Hid (w0 = wr) := hw0
      clear hw0
      go_wp2_with fail
      go_loopw [9] (fun tj w2 => ∃ j : Nat, a ≤ j ∧ j ≤ i ∧ tj = .int .i64 (j : Int) ∧ Sr w2 g n (insA Y i j) ∧ w0.grownBy w2 (some g) ∧ Hid (Pm Y (insA Y i j) a (i + 1) ∧ ∀ k, j ≤ k → k < i → (Y i).wt < (Y k).wt)) (fun tj _ => (intOf tj).toNat)
      case atStart => exact ⟨i, by omega, Nat.le_refl _, rfl, by rw [insA_self]; exact hS, by rw [HW0.out]; exact World.grownBy.refl _ _, (⟨by rw [insA_self]; exact Pm.refl _ _ _, fun k h1 h2 => by omega⟩ : _ ∧ _)⟩
      case round =>
        obtain ⟨j, haj, hji, rfl, hS2, hG2, HJ⟩ := hrel
        clear hS
        have HOUT : Hid ((∀ k, a ≤ k → k < j → kl (Y k) (Y i)) → Pm X (insA Y i j) a (min (i + 1) b) ∧ so (insA Y i j) a (min (i + 1) b)) := by
          intro hk
          rw [Nat.min_eq_left (by omega)]
          exact ⟨(HY1.out.1.wide (Nat.le_refl _) (by omega) (by omega)).trans HJ.out.1, insA_so HY1.out.2 haj hji hk (fun k h1 h2 => by have := HJ.out.2 k h1 h2; unfold kl; omega)⟩
        by_cases hja : a < j
        · have hjai : (a : Int) < (j : Int) := by omega
          obtain ⟨q, hq⟩ : ∃ q, j = q + 1 := ⟨j - 1, by omega⟩
          have i1 := hS2.it (k := j) (by omega)
          have i2 := hS2.it (k := q) (by omega)
          have e1 : insA Y i j j = Y i := by unfold insA; rw [if_neg (by omega), if_pos rfl]
          have e2 : insA Y i j q = Y q := by unfold insA; rw [if_pos (by omega)]
          rw [e1] at i1
          rw [e2] at i2
          have T0 := two_of i1 i2
          unfold Two at T0
          have HQ : Hid (j = q + 1) := hq
          have rq : (j : Int) - 1 = (q : Int) := by omega
          have z0 : (j : Int) < (n : Int) := by omega
          have z1 : (q : Int) < (n : Int) := by omega
          have hjq : j ≠ q := by omega
          have z2 : (0 : Int) ≤ (q : Int) := by omega
          have hwp : IntKind.i64.wrap (q : Int) = (q : Int) := by rw [IntKind.wrap_i64]; omega
          have hwp2 : RowKit.wrap64 (q : Int) = (q : Int) := by rw [← IntWalk.i64_left]; exact hwp
          have HSTEP : Hid (swI (insA Y i j) j q = insA Y i q) := by
            have := insA_step Y i j (by omega) hji
            have e3 : j - 1 = q := by omega
            rw [e3] at this
            exact this
          have hgw : g < wr.heap.size := i1.lt
          have HE : Hid (insA Y i j j = Y i ∧ insA Y i j q = Y q) := ⟨e1, e2⟩
          have HC : Hid (∀ W, Below wr.heap.size wr W → Calls Tryz.prog 115 #[(Y i).val, (Y q).val] W fun e w' => e = .returned (.int .i64 (cmpV (Y i) (Y q))) ∧ Below wr.heap.size wr w') := fun W hW => (cmp_any (Y i) (Y q) W).mono fun e w' ⟨h1, h2⟩ => ⟨h1, hW.trans (h2.mono hW.size)⟩
          have HK : Hid (∀ W, Below wr.heap.size wr W → Two g j q (Y i) (Y q) W) := fun W hW => two_old (two_of i1 i2) hW
          unfold Two at HK
          unfold Im.val at HC
          have d1 : Below wr.heap.size wr wr.drew := (Below.refl _ _).drew
          have d0 : Below wr.heap.size wr wr := Below.refl _ _
          have HNEG : Hid (cmpV (Y i) (Y q) < 0 ↔ (Y i).wt < (Y q).wt) := cmpV_neg _ _
          have hbd := cmpV_bd (Y i) (Y q)
          generalize cmpV (Y i) (Y q) = cv at *
          have HXI : Hid (Sr wr g n (insA Y i j)) := hS2
          clear hS2 i1 i2 e1 e2 hq
          by_cases hcv : cv < 0
          · go_wp2_with fail
            go_region_held3 (fun w' => (w'.cell? ⟨g, j * 4, none⟩ = some (.int .i64 (Y i).wt) ∧ w'.cell? ⟨g, j * 4 + 1, none⟩ = some (.int .i64 (Y i).sy) ∧ w'.cell? ⟨g, j * 4 + 2, none⟩ = some (.pointer (Y i).fs) ∧ w'.cell? ⟨g, j * 4 + 3, none⟩ = some (.pointer (Y i).sn)) ∧ (w'.cell? ⟨g, q * 4, none⟩ = some (.int .i64 (Y q).wt) ∧ w'.cell? ⟨g, q * 4 + 1, none⟩ = some (.int .i64 (Y q).sy) ∧ w'.cell? ⟨g, q * 4 + 2, none⟩ = some (.pointer (Y q).fs) ∧ w'.cell? ⟨g, q * 4 + 3, none⟩ = some (.pointer (Y q).sn)))
              (first | go_keep | (exact HK.out _ (by assumption)))
              (first | (go_at_call 115; refine (HC.out _ (by assumption)).mono ?_; rintro e w7 ⟨rfl, b7⟩))
            have S7 := HXI.out.old hgw b7
            have G7 : w0.grownBy w7 (some g) := grownBy_trans hG2 (grown_old b7 _)
            have HSW := S7.swap (i := j) (j := q) (by omega) (by omega)
            have HGW := swap_grown w7 g (j * 4) (q * 4) (Y q) (Y i)
            rw [HE.out.1, HE.out.2, HSTEP.out] at HSW
            have i1 := S7.it (k := j) (by omega)
            have i2 := S7.it (k := q) (by omega)
            rw [HE.out.1] at i1
            rw [HE.out.2] at i2
            obtain ⟨x0, x1, x2, x3⟩ := i1
            obtain ⟨y0, y1, y2, y3⟩ := i2
            have f0 := S7.free (j * 4); have f1 := S7.free (j * 4 + 1); have f2 := S7.free (j * 4 + 2); have f3 := S7.free (j * 4 + 3)
            have g0 := S7.free (q * 4); have g1 := S7.free (q * 4 + 1); have g2 := S7.free (q * 4 + 2); have g3 := S7.free (q * 4 + 3)
            have HSS : Hid _ := HSW
            have HGG : Hid _ := HGW
            have HPQ : Hid (Pm Y (insA Y i q) a (i + 1) ∧ ∀ k, q ≤ k → k < i → (Y i).wt < (Y k).wt) := by
              refine ⟨?_, fun k h1 h2 => ?_⟩
              · have := HJ.out.1.trans (Pm.swap (insA Y i j) (a := a) (b := i + 1) (i := j) (j := q) (by omega) (by omega) (by have := HQ.out; omega) (by omega))
                rw [HSTEP.out] at this
                exact this
              · by_cases e : k = q
                · rw [e]; exact HNEG.out.1 hcv
                · exact HJ.out.2 k (by have := HQ.out; omega) h2
            clear HSW HGW S7 T0 HC HK d1 d0 b7 HXI HE HSTEP
            go_wp2_with fail
            go_region
            go_wp2
            go_roundw
            case rel => exact ⟨q, by have := HQ.out; omega, by have := HQ.out; omega, rfl, HSS.out.drew, grownBy_drew (grownBy_trans G7 HGG.out), HPQ.out⟩
            case measure => have := HQ.out; simp [intOf]; omega
          · go_wp2_with fail
            go_region_held3 (fun w' => (w'.cell? ⟨g, j * 4, none⟩ = some (.int .i64 (Y i).wt) ∧ w'.cell? ⟨g, j * 4 + 1, none⟩ = some (.int .i64 (Y i).sy) ∧ w'.cell? ⟨g, j * 4 + 2, none⟩ = some (.pointer (Y i).fs) ∧ w'.cell? ⟨g, j * 4 + 3, none⟩ = some (.pointer (Y i).sn)) ∧ (w'.cell? ⟨g, q * 4, none⟩ = some (.int .i64 (Y q).wt) ∧ w'.cell? ⟨g, q * 4 + 1, none⟩ = some (.int .i64 (Y q).sy) ∧ w'.cell? ⟨g, q * 4 + 2, none⟩ = some (.pointer (Y q).fs) ∧ w'.cell? ⟨g, q * 4 + 3, none⟩ = some (.pointer (Y q).sn)))
              (first | go_keep | (exact HK.out _ (by assumption)))
              (first | (go_at_call 115; refine (HC.out _ (by assumption)).mono ?_; rintro e w7 ⟨rfl, b7⟩))
            have S7 := HXI.out.old hgw b7
            have G7 : w0.grownBy w7 (some g) := grownBy_trans hG2 (grown_old b7 _)
            have HO := HOUT.out (fun k h1 h2 => by
              have h3 := HSY.out k h1 (by omega)
              refine kl_of_wt h3 ?_
              have h4 : ¬ (Y i).wt < (Y q).wt := fun h => by have := HNEG.out.2 h; omega
              rcases HY1.out.2.le h1 (show k ≤ q by have := HQ.out; omega) (by have := HQ.out; omega) with e | e
              · rw [e]; exact h4
              · unfold kl at e; omega)
            have HOO : Hid _ := HO
            clear T0 HC HK d1 d0 b7 HXI HO
            go_wp2
            go_roundw
            case rel => exact ⟨i + 1, insA Y i j, by omega, .inl (by omega), by go_num, S7, grownBy_trans hG (HW0.out ▸ G7), HOO.out⟩
            case measure => simp [intOf]; omega
        · obtain rfl : j = a := by omega
          have HO := HOUT.out (fun k h1 h2 => by omega)
          have HOO : Hid _ := HO
          clear HO
          have hdj : decide ((j : Int) < (j : Int)) = false := decide_eq_false (by omega)
          go_wp2_with fail
          go_quiet (fail)
          go_wp2
          go_roundw
          case rel => exact ⟨i + 1, insA Y i j, by omega, .inl (by omega), by go_num, ⟨hS2.row.drewN nq, hS2.free⟩, grownBy_drewN (grownBy_trans hG (HW0.out ▸ hG2)) nq, HOO.out⟩
          case measure => simp [intOf]; omega
    · go_wp2
      go_end0
      refine ⟨rfl, Y, hS, hG, ?_⟩
      have := HY.out
      rw [Nat.min_eq_right (by omega)] at this
      exact this
end Go.Proofs.YtcifalelnfeggaaGreatDoor

namespace Go.Proofs.YtcifalelnfeggaaGreatDoor
open Go.RowKit
set_option linter.unusedVariables false

set_option maxRecDepth 100000 in
set_option maxHeartbeats 2000000 in
theorem rotate_any (g cap n a m b : Nat) (X : Nat → Im) (w : World) (h : Sr w g n X) (ham : a < m) (hmb : m < b) (hb : b ≤ n) (hl : n ≤ 100000) (f : Value) :
    Calls Tryz.prog 170 #[.slice (some ⟨g, 0, none⟩) n cap, .int .i64 a, .int .i64 m, .int .i64 b, f] w fun e w' => e = .returned (.tuple #[]) ∧ Sr w' g n (rot X a m b) ∧ w.grownBy w' (some g) ∧ Pm X (rot X a m b) a b := by
  obtain ⟨i0, hi0⟩ : ∃ i0, i0 = m - a := ⟨_, rfl⟩
  obtain ⟨j0, hj0⟩ : ∃ j0, j0 = b - m := ⟨_, rfl⟩
  have r1 : (m : Int) - (a : Int) = (i0 : Int) := by omega
  have r2 : (b : Int) - (m : Int) = (j0 : Int) := by omega
  have HI : Hid (i0 = m - a ∧ j0 = b - m) := ⟨hi0, hj0⟩
  clear hi0 hj0
  go_enter Tryz.func170, Tryz.ntmps170
  go_wp2
  go_loopw [10, 11] (fun ti tj wr => ∃ (i j : Nat) (Y : Nat → Im), 0 < i ∧ 0 < j ∧ i ≤ m ∧ m + j ≤ n ∧ ti = .int .i64 (i : Int) ∧ tj = .int .i64 (j : Int) ∧ Sr wr g n Y ∧ w.grownBy wr (some g) ∧ Hid (rot Y (m - i) m (m + j) = rot X a m b ∧ Pm X Y a b ∧ a ≤ m - i ∧ m + j ≤ b)) (fun ti tj _ => (intOf ti).toNat + (intOf tj).toNat)
  case atStart =>
    obtain ⟨e1, e2⟩ := HI.out
    exact ⟨i0, j0, X, by omega, by omega, by omega, by omega, rfl, rfl, h, World.grownBy.refl _ _, (⟨by rw [show m - i0 = a by omega, show m + j0 = b by omega], Pm.refl _ _ _, by omega, by omega⟩ : _ ∧ _)⟩
  case round =>
    obtain ⟨i, j, Y, hi, hj, him, hjn, rfl, rfl, hS, hG, HY⟩ := hrel
    clear r1 r2
    by_cases c1 : i = j
    · subst c1
      obtain ⟨p, hp⟩ : ∃ p, p = m - i := ⟨_, rfl⟩
      have rp : (m : Int) - (i : Int) = (p : Int) := by omega
      have CS := swapRange_any g cap n p m i Y wr hS (by omega) hjn hl f
      have HE : Hid (swr Y p m i = rot X a m b) := by show _ = _; rw [hp, rot_same Y m i him]; exact HY.out.1
      have HP : Hid (Pm X (rot X a m b) a b → True) := fun _ => trivial
      have HPP : Hid (a ≤ p ∧ p ≤ m) := ⟨by have := HY.out; omega, by omega⟩
      clear hp
      go_wp2_with fail
      refine CS.mono ?_
      rintro e w2 ⟨rfl, s2, g2, p2⟩
      rw [HE.out] at s2 p2
      go_wp2
      go_end0
      exact ⟨rfl, s2, grownBy_trans hG g2, HY.out.2.1.trans (p2.wide HPP.out.1 (by have := HPP.out.2; omega) HY.out.2.2.2)⟩
    · have c1i : ((i : Int) != (j : Int)) = true := by simp; omega
      by_cases c2 : j < i
      · have c2i : (j : Int) < (i : Int) := by omega
        obtain ⟨p, hp⟩ : ∃ p, p = m - i := ⟨_, rfl⟩
        have rp : (m : Int) - (i : Int) = (p : Int) := by omega
        obtain ⟨d, hd⟩ : ∃ d, d = i - j := ⟨_, rfl⟩
        have rd : (i : Int) - (j : Int) = (d : Int) := by omega
        have CS := swapRange_any g cap n p m j Y wr hS (by omega) hjn hl f
        have HE : Hid (rot (swr Y p m j) (m - d) m (m + j) = rot X a m b) := by show _ = _; rw [hp, hd, rot_more Y m i j him hj c2]; exact HY.out.1
        have HPP : Hid (a ≤ p ∧ p ≤ m ∧ a ≤ m - d) := ⟨by have := HY.out; omega, by omega, by have := HY.out; omega⟩
        have hd0 : 0 < d ∧ d ≤ m ∧ d < i := by omega
        clear hp hd
        go_wp2_with fail
        refine CS.mono ?_
        rintro e w2 ⟨rfl, s2, g2, p2⟩
        have HP2 : Hid _ := HY.out.2.1.trans (p2.wide HPP.out.1 (by have := HPP.out.2; omega) HY.out.2.2.2)
        clear p2
        go_wp2
        go_roundw
        case rel => exact ⟨d, j, swr Y p m j, by omega, by omega, by omega, by omega, rfl, rfl, s2, grownBy_trans hG g2, (⟨HE.out, HP2.out, HPP.out.2.2, HY.out.2.2.2⟩ : _ ∧ _)⟩
        case measure => simp [intOf]; omega
      · have c2i : ¬ (j : Int) < (i : Int) := by omega
        obtain ⟨p, hp⟩ : ∃ p, p = m - i := ⟨_, rfl⟩
        have rp : (m : Int) - (i : Int) = (p : Int) := by omega
        obtain ⟨d, hd⟩ : ∃ d, d = j - i := ⟨_, rfl⟩
        have rd : (j : Int) - (i : Int) = (d : Int) := by omega
        obtain ⟨q, hq⟩ : ∃ q, q = m + j - i := ⟨_, rfl⟩
        have rq : (m : Int) + (j : Int) - (i : Int) = (q : Int) := by omega
        have CS := swapRange_any g cap n p q i Y wr hS (by omega) (by omega) hl f
        have HE : Hid (rot (swr Y p q i) (m - i) m (m + d) = rot X a m b) := by show _ = _; rw [hp, hd, hq, rot_less Y m i j him hi (by omega)]; exact HY.out.1
        have HPP : Hid (a ≤ p ∧ p ≤ m ∧ a ≤ m - i ∧ p ≤ q ∧ q + i ≤ b ∧ m + d ≤ b) := by have := HY.out; exact ⟨by omega, by omega, by omega, by omega, by omega, by omega⟩
        have hd0 : 0 < d ∧ m + d ≤ n ∧ d < j := by omega
        clear hp hd hq
        go_wp2_with fail
        refine CS.mono ?_
        rintro e w2 ⟨rfl, s2, g2, p2⟩
        have HP2 : Hid _ := HY.out.2.1.trans (p2.wide HPP.out.1 (by have := HPP.out; omega) HPP.out.2.2.2.2.1)
        clear p2
        go_wp2
        go_roundw
        case rel => exact ⟨i, d, swr Y p q i, by omega, by omega, by omega, by omega, rfl, rfl, s2, grownBy_trans hG g2, (⟨HE.out, HP2.out, HPP.out.2.2.1, HPP.out.2.2.2.2.2⟩ : _ ∧ _)⟩
        case measure => simp [intOf]; omega
end Go.Proofs.YtcifalelnfeggaaGreatDoor
