import Derived.Test.YtmddnmpldmdllaaDoorPn
import Derived.Test.YtmddnmpldmdllaaDoorPb
import Derived.Test.YtmddnmpldmdllaaDoorPd
import Derived.Test.YtmddnmpldmdllaaDoorPh
import Derived.Test.YtmddnmpldmdllaaDoorPf
import Derived.Test.YtmddnmpldmdllaaDoorPl
namespace Go.Proofs.YtmddnmpldmdllaaDoor
open Go.RowKit
set_option linter.unusedVariables false

/-! The landed block: repeated. -/
def rst9 (v : Int) (n i : Nat) : List Int := List.replicate i v ++ List.replicate (n - i) 0
theorem rst9_len (v : Int) {n i : Nat} (h : i ≤ n) : (rst9 v n i).length = n := by simp [rst9]; omega
theorem rst9_set (v : Int) {n i : Nat} (h : i < n) : (rst9 v n i).set i v = rst9 v n (i + 1) := by
  unfold rst9
  have e : n - i = (n - (i + 1)) + 1 := by omega
  rw [e, List.replicate_succ, List.set_append_right _ _ (by simp), List.length_replicate, Nat.sub_self, List.set_cons_zero, List.replicate_succ', List.append_assoc]
  rfl
set_option maxRecDepth 100000 in
set_option maxHeartbeats 1000000 in
theorem prep9 (v : Int) (n : Nat) (hv : 0 ≤ v ∧ v ≤ 15) (hl : n ≤ 1000) (w : World) :
    Calls Tryd.prog 62 #[.int .i64 v, .int .i64 (n : Int)] w fun e w' => e = .returned (.slice (some ⟨w.heap.size, 0, none⟩) n n) ∧ w'.ownsRow w.heap.size 3 1 (.slice (some ⟨w.heap.size, 0, none⟩) n n) n ((List.replicate n v).map (Value.int .i64)) ∧ Below w.heap.size w w' := by
  have hmk : ∀ W, (Instr.makeSlice 89 (.int .i64 (n : Int)) (.int .i64 (n : Int))).run Tryd.prog W = .ok (.slice (some ⟨W.heap.size, 0, none⟩) n n) (W.alloc (.cells (Array.replicate n (.int .i64 0)) 3)) := fun W => run_make_ints n (by omega) W
  go_enter Tryd.func62, Tryd.ntmps62
  go_wp2_with fail
  have O0 := own_zeros w n (by omega)
  have B0 := below_box8 w (.cells (Array.replicate n (.int .i64 0)) 3)
  generalize w.alloc (.cells (Array.replicate n (.int .i64 0)) 3) = w0 at *
  go_loopw [11] (fun ti wr => ∃ i : Nat, i ≤ n ∧ ti = .int .i64 (i : Int) ∧ wr.ownsRow w.heap.size 3 1 (.slice (some ⟨w.heap.size, 0, none⟩) n n) n ((rst9 v n i).map (Value.int .i64)) ∧ Below w.heap.size w wr) (fun ti _ => n - (intOf ti).toNat)
  case atStart => exact ⟨0, by omega, rfl, by rw [show rst9 v n 0 = List.replicate n 0 by simp [rst9]]; exact O0, B0⟩
  case round =>
    obtain ⟨i, hin, rfl, OO, BR⟩ := hrel
    clear O0 B0
    by_cases hlt : i < n
    · have hlti : (i : Int) < (n : Int) := by omega
      have HSN : Hid ((rst9 v n i).set i v = rst9 v n (i + 1)) := rst9_set v hlt
      obtain ⟨d0, fz⟩ := own_cell1 OO (i := i) (by rw [rst9_len v (by omega)]; exact hlt)
      have f0 := fz i
      generalize (rst9 v n i).getD i 0 = y at *
      obtain ⟨OS, GS⟩ := OO.stored i (.int .i64 v)
      rw [← List.map_set, HSN.out] at OS
      have hsz := BR.size
      have B1 : Below w.heap.size w (wr.setCell ⟨w.heap.size, i, none⟩ (.int .i64 v)) := BR.trans ((Below.refl _ _).grown GS hsz (fun k hk => by cases hk; exact Nat.le_refl _))
      have HB : Hid (Below w.heap.size w (wr.setCell ⟨w.heap.size, i, none⟩ (.int .i64 v))) := B1
      have HOS : Hid _ := OS
      clear B1 OS GS fz HSN
      go_wp2_with fail
      go_roundw
      case rel => exact ⟨i + 1, by omega, by go_num, HOS.out, HB.out⟩
      case measure => simp [intOf]; omega
    · have hge : ¬ (i : Int) < (n : Int) := by omega
      have hTA : rst9 v n i = List.replicate n v := by unfold rst9; rw [show n - i = 0 by omega, show i = n by omega]; simp
      rw [hTA] at OO
      clear hTA
      go_wp2_with fail
      go_ret
      exact ⟨rfl, by simpa using OO, BR⟩
/-- A part of an array of structs that is a value. -/
theorem run_index9 {P : Program} (w : World) (t e : TypeId) (n m : Nat) (fs : Array Field) (cs : Array Value) (i : Nat) (k : IntKind) (hi : i < n) (ht : P.underlying t = some (.array n e)) (he : P.underlying e = some (.struct fs)) (hs : (P.info? e).map (·.size) = some m) :
    (Instr.index t (.agg cs) (.int k (i : Int))).run P w = .ok (.agg (cs.extract (i * m) (i * m + m))) w := by
  cases hq : P.info? e with
  | none => simp [hq] at hs
  | some inf =>
    have h1 : inf.size = m := by simpa [hq] using hs
    have hsz : (sizeOf e).run P w = .ok m w := by simp [sizeOf, typeInfo, hq, h1]
    have hagg : (isAgg e).run P w = .ok true w := by
      unfold isAgg
      rw [Sem.run_bind, run_underlying he w]
      simp
    have hb : (0 : Int) ≤ (i : Int) ∧ (i : Int) < (n : Int) := by omega
    simp [Instr.index, asIntOf, Sem.run_bind, run_underlying ht, hb, hsz, part, hagg, hi]
theorem own_ge9 {w : World} {base n sz k : Nat} {e : TypeId} {v : Value} {xs : List Value} (h : w.ownsRow base e sz v n xs) (hk : v.ownBlock = some k) : base ≤ k := by
  rcases h.2 with ⟨rfl, _⟩ | ⟨g, cap, cur, rfl, h1, _⟩
  · simp [Value.ownBlock] at hk
  · simp [Value.ownBlock] at hk
    omega
end Go.Proofs.YtmddnmpldmdllaaDoor

namespace Go.Proofs.YtmddnmpldmdllaaDoor
open Go.RowKit
set_option linter.unusedVariables false

/-! The landed block: PlainLens. -/
def pl9 (i : Nat) : List Int := (if 0 < i then List.replicate 144 8 else []) ++ (if 1 < i then List.replicate 112 9 else []) ++ (if 2 < i then List.replicate 24 7 else []) ++ (if 3 < i then List.replicate 8 8 else [])
def plnL9 : List Int := pl9 4
def plnD9 : List Int := List.replicate 32 5
set_option maxRecDepth 100000 in
set_option maxHeartbeats 2000000 in
theorem pplain9 (w : World) :
    Calls Tryd.prog 44 #[] w fun e w' => ∃ la lc da, e = .returned (.tuple #[.slice la 288 lc, .slice (some ⟨da, 0, none⟩) 32 32]) ∧ w'.ownsRow w.heap.size 3 1 (.slice la 288 lc) 288 (plnL9.map (Value.int .i64)) ∧ w'.ownsRow w.heap.size 3 1 (.slice (some ⟨da, 0, none⟩) 32 32) 32 (plnD9.map (Value.int .i64)) ∧ (∀ g, (Value.slice la 288 lc).ownBlock = some g → g < da) ∧ Below w.heap.size w w' := by
  obtain ⟨i0, hi, hz0, hz1, hz2⟩ := info_parts info_int
  go_enter Tryd.func44, Tryd.ntmps44
  go_wp2_with fail
  go_loopw [2, 10] (fun tl ti wr => ∃ (i : Nat) (la : Option Addr) (lc : Nat), i ≤ 4 ∧ ti = .int .i64 (i : Int) ∧ tl = .slice la (pl9 i).length lc ∧ wr.ownsRow w.heap.size 3 1 (.slice la (pl9 i).length lc) (pl9 i).length ((pl9 i).map (Value.int .i64)) ∧ Below w.heap.size w wr) (fun _ ti _ => 4 - (intOf ti).toNat)
  case atStart => exact ⟨0, none, 0, by omega, rfl, rfl, World.ownsRow_nil _ _ _ _, Below.refl _ _⟩
  case round =>
    obtain ⟨i, la, lc, hi4, rfl, rfl, OO, BR⟩ := hrel
    obtain rfl | rfl | rfl | rfl | rfl : i = 0 ∨ i = 1 ∨ i = 2 ∨ i = 3 ∨ i = 4 := by omega
    · have eK : (pl9 0).length = 0 := by decide
      rw [eK] at OO ⊢
      have hix : ∀ W, (Instr.index 108 (.agg #[Value.int .i64 8, Value.int .i64 144, Value.int .i64 9, Value.int .i64 112, Value.int .i64 7, Value.int .i64 24, Value.int .i64 8, Value.int .i64 8]) (.int .i64 0)).run Tryd.prog W = .ok (.agg #[.int .i64 8, .int .i64 144]) W := fun W => run_index9 W 108 107 4 2 _ _ 0 .i64 (by omega) Tryd.underlying108 Tryd.underlying107 (by kernel_rfl)
      go_wp2_with fail
      have B1 := below_box8 wr (.cells #[.int .i64 8, .int .i64 144] 107)
      have O1 := own_below OO B1
      generalize wr.alloc (.cells #[.int .i64 8, .int .i64 144] 107) = w1 at *
      refine (prep9 8 144 (by omega) (by omega) w1).mono ?_
      rintro e w2 ⟨rfl, O2, b2⟩
      have O3 := own_below O1 b2
      have S2 : SegZ w2 (some ⟨w1.heap.size, 0, none⟩) (List.replicate 144 8) := own_segZ O2 (fun z hz => by rw [List.eq_of_mem_replicate hz]; omega)
      have hsz : w.heap.size ≤ w2.heap.size := by have := BR.size; have := B1.size; have := b2.size; omega
      have b12 : Below w.heap.size w w2 := (BR.trans (B1.mono BR.size)).trans (b2.mono (by have := BR.size; have := B1.size; omega))
      clear OO O1 BR B1 b2 O2
      go_wp2_with (at_builtin; refine wpList_appZ rfl (.tmp 13) (.tmp 18) 89 rfl w.heap.size 3 i0 (.int .i64 0) 8 Tryd.underlying89 hi hz0 hz1 hz2 rfl O3 S2 (by intro h; cases h) rfl (by rw [List.length_replicate]; rfl) (by rw [List.length_replicate]; omega) (by rw [List.length_replicate]; omega) hsz ?_; intro b2 c2 w3 hown2 hg2 hfr2 hnl2)
      have BB : Below w.heap.size w w3 := b12.grown hg2 hsz (fun k e => own_ge9 O3 e)
      rw [List.length_replicate, ← List.map_append, show pl9 0 ++ List.replicate 144 8 = pl9 1 by decide] at hown2
      have eL : 0 + 144 = (pl9 1).length := by decide
      rw [eL] at hown2
      clear hg2 hfr2 hnl2 O3 S2 b12
      go_roundw
      case rel => exact ⟨1, b2, c2, by omega, by go_num, by rw [← eL], hown2, BB⟩
      case measure => simp [intOf]
    · have eK : (pl9 1).length = 144 := by decide
      rw [eK] at OO ⊢
      have hix : ∀ W, (Instr.index 108 (.agg #[Value.int .i64 8, Value.int .i64 144, Value.int .i64 9, Value.int .i64 112, Value.int .i64 7, Value.int .i64 24, Value.int .i64 8, Value.int .i64 8]) (.int .i64 1)).run Tryd.prog W = .ok (.agg #[.int .i64 9, .int .i64 112]) W := fun W => run_index9 W 108 107 4 2 _ _ 1 .i64 (by omega) Tryd.underlying108 Tryd.underlying107 (by kernel_rfl)
      go_wp2_with fail
      have B1 := below_box8 wr (.cells #[.int .i64 9, .int .i64 112] 107)
      have O1 := own_below OO B1
      generalize wr.alloc (.cells #[.int .i64 9, .int .i64 112] 107) = w1 at *
      refine (prep9 9 112 (by omega) (by omega) w1).mono ?_
      rintro e w2 ⟨rfl, O2, b2⟩
      have O3 := own_below O1 b2
      have S2 : SegZ w2 (some ⟨w1.heap.size, 0, none⟩) (List.replicate 112 9) := own_segZ O2 (fun z hz => by rw [List.eq_of_mem_replicate hz]; omega)
      have hsz : w.heap.size ≤ w2.heap.size := by have := BR.size; have := B1.size; have := b2.size; omega
      have b12 : Below w.heap.size w w2 := (BR.trans (B1.mono BR.size)).trans (b2.mono (by have := BR.size; have := B1.size; omega))
      clear OO O1 BR B1 b2 O2
      go_wp2_with (at_builtin; refine wpList_appZ rfl (.tmp 13) (.tmp 18) 89 rfl w.heap.size 3 i0 (.int .i64 0) 8 Tryd.underlying89 hi hz0 hz1 hz2 rfl O3 S2 (by intro h; cases h) rfl (by rw [List.length_replicate]; rfl) (by rw [List.length_replicate]; omega) (by rw [List.length_replicate]; omega) hsz ?_; intro b2 c2 w3 hown2 hg2 hfr2 hnl2)
      have BB : Below w.heap.size w w3 := b12.grown hg2 hsz (fun k e => own_ge9 O3 e)
      rw [List.length_replicate, ← List.map_append, show pl9 1 ++ List.replicate 112 9 = pl9 2 by decide] at hown2
      have eL : 144 + 112 = (pl9 2).length := by decide
      rw [eL] at hown2
      clear hg2 hfr2 hnl2 O3 S2 b12
      go_roundw
      case rel => exact ⟨2, b2, c2, by omega, by go_num, by rw [← eL], hown2, BB⟩
      case measure => simp [intOf]
    · have eK : (pl9 2).length = 256 := by decide
      rw [eK] at OO ⊢
      have hix : ∀ W, (Instr.index 108 (.agg #[Value.int .i64 8, Value.int .i64 144, Value.int .i64 9, Value.int .i64 112, Value.int .i64 7, Value.int .i64 24, Value.int .i64 8, Value.int .i64 8]) (.int .i64 2)).run Tryd.prog W = .ok (.agg #[.int .i64 7, .int .i64 24]) W := fun W => run_index9 W 108 107 4 2 _ _ 2 .i64 (by omega) Tryd.underlying108 Tryd.underlying107 (by kernel_rfl)
      go_wp2_with fail
      have B1 := below_box8 wr (.cells #[.int .i64 7, .int .i64 24] 107)
      have O1 := own_below OO B1
      generalize wr.alloc (.cells #[.int .i64 7, .int .i64 24] 107) = w1 at *
      refine (prep9 7 24 (by omega) (by omega) w1).mono ?_
      rintro e w2 ⟨rfl, O2, b2⟩
      have O3 := own_below O1 b2
      have S2 : SegZ w2 (some ⟨w1.heap.size, 0, none⟩) (List.replicate 24 7) := own_segZ O2 (fun z hz => by rw [List.eq_of_mem_replicate hz]; omega)
      have hsz : w.heap.size ≤ w2.heap.size := by have := BR.size; have := B1.size; have := b2.size; omega
      have b12 : Below w.heap.size w w2 := (BR.trans (B1.mono BR.size)).trans (b2.mono (by have := BR.size; have := B1.size; omega))
      clear OO O1 BR B1 b2 O2
      go_wp2_with (at_builtin; refine wpList_appZ rfl (.tmp 13) (.tmp 18) 89 rfl w.heap.size 3 i0 (.int .i64 0) 8 Tryd.underlying89 hi hz0 hz1 hz2 rfl O3 S2 (by intro h; cases h) rfl (by rw [List.length_replicate]; rfl) (by rw [List.length_replicate]; omega) (by rw [List.length_replicate]; omega) hsz ?_; intro b2 c2 w3 hown2 hg2 hfr2 hnl2)
      have BB : Below w.heap.size w w3 := b12.grown hg2 hsz (fun k e => own_ge9 O3 e)
      rw [List.length_replicate, ← List.map_append, show pl9 2 ++ List.replicate 24 7 = pl9 3 by decide] at hown2
      have eL : 256 + 24 = (pl9 3).length := by decide
      rw [eL] at hown2
      clear hg2 hfr2 hnl2 O3 S2 b12
      go_roundw
      case rel => exact ⟨3, b2, c2, by omega, by go_num, by rw [← eL], hown2, BB⟩
      case measure => simp [intOf]
    · have eK : (pl9 3).length = 280 := by decide
      rw [eK] at OO ⊢
      have hix : ∀ W, (Instr.index 108 (.agg #[Value.int .i64 8, Value.int .i64 144, Value.int .i64 9, Value.int .i64 112, Value.int .i64 7, Value.int .i64 24, Value.int .i64 8, Value.int .i64 8]) (.int .i64 3)).run Tryd.prog W = .ok (.agg #[.int .i64 8, .int .i64 8]) W := fun W => run_index9 W 108 107 4 2 _ _ 3 .i64 (by omega) Tryd.underlying108 Tryd.underlying107 (by kernel_rfl)
      go_wp2_with fail
      have B1 := below_box8 wr (.cells #[.int .i64 8, .int .i64 8] 107)
      have O1 := own_below OO B1
      generalize wr.alloc (.cells #[.int .i64 8, .int .i64 8] 107) = w1 at *
      refine (prep9 8 8 (by omega) (by omega) w1).mono ?_
      rintro e w2 ⟨rfl, O2, b2⟩
      have O3 := own_below O1 b2
      have S2 : SegZ w2 (some ⟨w1.heap.size, 0, none⟩) (List.replicate 8 8) := own_segZ O2 (fun z hz => by rw [List.eq_of_mem_replicate hz]; omega)
      have hsz : w.heap.size ≤ w2.heap.size := by have := BR.size; have := B1.size; have := b2.size; omega
      have b12 : Below w.heap.size w w2 := (BR.trans (B1.mono BR.size)).trans (b2.mono (by have := BR.size; have := B1.size; omega))
      clear OO O1 BR B1 b2 O2
      go_wp2_with (at_builtin; refine wpList_appZ rfl (.tmp 13) (.tmp 18) 89 rfl w.heap.size 3 i0 (.int .i64 0) 8 Tryd.underlying89 hi hz0 hz1 hz2 rfl O3 S2 (by intro h; cases h) rfl (by rw [List.length_replicate]; rfl) (by rw [List.length_replicate]; omega) (by rw [List.length_replicate]; omega) hsz ?_; intro b2 c2 w3 hown2 hg2 hfr2 hnl2)
      have BB : Below w.heap.size w w3 := b12.grown hg2 hsz (fun k e => own_ge9 O3 e)
      rw [List.length_replicate, ← List.map_append, show pl9 3 ++ List.replicate 8 8 = pl9 4 by decide] at hown2
      have eL : 280 + 8 = (pl9 4).length := by decide
      rw [eL] at hown2
      clear hg2 hfr2 hnl2 O3 S2 b12
      go_roundw
      case rel => exact ⟨4, b2, c2, by omega, by go_num, by rw [← eL], hown2, BB⟩
      case measure => simp [intOf]
    · have e4 : (pl9 4).length = 288 := by decide
      rw [e4] at OO ⊢
      go_wp2_with fail
      refine (prep9 5 32 (by omega) (by omega) wr).mono ?_
      rintro e w2 ⟨rfl, O2, b2⟩
      clear hi hz0 hz1 hz2
      go_wp2_with fail
      go_ret2
      refine ⟨la, lc, wr.heap.size, rfl, own_below OO b2, own_base O2 BR.size, ?_, BR.trans (b2.mono BR.size)⟩
      intro g hg
      obtain ⟨g0, cp, hv, _, _, h⟩ := own_shape OO (by omega)
      injection hv with hv1 _ _
      subst hv1
      simp [Value.ownBlock] at hg
      omega
end Go.Proofs.YtmddnmpldmdllaaDoor

namespace Go.Proofs.YtmddnmpldmdllaaDoor
open Go.RowKit
set_option linter.unusedVariables false

/-! The landed swell: a stream in memory, and its steps. -/
def swA (H : List Bool) (t dl dd hd : Nat) (win lim nx : Int) (last : Bool) : List Value := [.int .u64 (num H : Int), .int .i64 (H.length : Int), .int .i64 (t : Int), .pointer (some ⟨dl, 0, none⟩), .pointer (some ⟨dd, 0, none⟩), .pointer (some ⟨hd, 0, none⟩), .int .i64 win, .int .i64 lim, .int .i64 nx, .bool last, .int .i64 0, .int .i64 0, .int .i64 0, .int .i64 0, .int .i64 0]
def swB (dl dd hd : Nat) (win lim nx : Int) (last : Bool) : List Value := [.pointer (some ⟨dl, 0, none⟩), .pointer (some ⟨dd, 0, none⟩), .pointer (some ⟨hd, 0, none⟩), .int .i64 win, .int .i64 lim, .int .i64 nx, .bool last, .int .i64 0, .int .i64 0, .int .i64 0, .int .i64 0, .int .i64 0]
def swP (g S n : Nat) : List Value := [.slice (some ⟨g, 0, none⟩) S S, .int .i64 (n : Int)]
structure Sw (w : World) (b g S : Nat) (L K : List Int) (H : List Bool) (t dl dd hd : Nat) (win lim nx : Int) (last : Bool) : Prop where
  hp : w.heap[b]? = some (.cells (.slice (some ⟨g, 0, none⟩) S S :: .int .i64 (L.length : Int) :: swA H t dl dd hd win lim nx last).toArray 47 (0, 0))
  hk : w.heap[g]? = some (.cells (K.map (Value.int .u8)).toArray 5 (0, 0))
  rd : Rnd S L K
  ne : b ≠ g
  bd : ∀ z ∈ L, 0 ≤ z ∧ z ≤ 255
  s1 : 1 ≤ S
  s2 : S ≤ 32768
  le : H.length ≤ 64
section
variable {w w' : World} {b g S : Nat} {L K L' K' : List Int} {H H' : List Bool} {t t' dl dd hd : Nat} {win lim nx : Int} {last : Bool} {Q : Nat → Prop}
theorem Sw.ring (h : Sw w b g S L K H t dl dd hd win lim nx last) : RPkO 47 (swA H t dl dd hd win lim nx last) w b g S L K := ⟨h.hp, h.hk, h.rd, h.ne, h.bd, h.s1, h.s2⟩
theorem Sw.rdr (h : Sw w b g S L K H t dl dd hd win lim nx last) : RdO 2 47 (swP g S L.length) (swB dl dd hd win lim nx last) w b H t := ⟨h.hp, h.le, rfl⟩
theorem Sw.ofR (h : Sw w b g S L K H t dl dd hd win lim nx last) (hr : RdO 2 47 (swP g S L.length) (swB dl dd hd win lim nx last) w' b H' t') (hk : Kp (fun k => k = b) w w') : Sw w' b g S L K H' t' dl dd hd win lim nx last :=
  ⟨hr.hp, hk.heap h.hk (fun e => h.ne e.symm), h.rd, h.ne, h.bd, h.s1, h.s2, hr.le⟩
theorem Sw.ofO (h : Sw w b g S L K H t dl dd hd win lim nx last) (hr : RPkO 47 (swA H t dl dd hd win lim nx last) w' b g S L' K') : Sw w' b g S L' K' H t dl dd hd win lim nx last :=
  ⟨hr.hp, hr.hk, hr.rd, hr.ne, hr.bd, hr.s1, hr.s2, h.le⟩
theorem Sw.kp (h : Sw w b g S L K H t dl dd hd win lim nx last) (hk : Kp Q w w') (h1 : ¬ Q b) (h2 : ¬ Q g) : Sw w' b g S L K H t dl dd hd win lim nx last :=
  ⟨hk.heap h.hp h1, hk.heap h.hk h2, h.rd, h.ne, h.bd, h.s1, h.s2, h.le⟩
theorem Sw.old (h : Sw w b g S L K H t dl dd hd win lim nx last) (hb : Below w.heap.size w w') : Sw w' b g S L K H t dl dd hd win lim nx last := h.kp (Q := fun _ => False) (Kp.of_below hb) (fun e => e) (fun e => e)
theorem Sw.b_lt (h : Sw w b g S L K H t dl dd hd win lim nx last) : b < w.heap.size := (Array.getElem?_eq_some_iff.1 h.hp).1
theorem Sw.g_lt (h : Sw w b g S L K H t dl dd hd win lim nx last) : g < w.heap.size := (Array.getElem?_eq_some_iff.1 h.hk).1
theorem Sw.cell (h : Sw w b g S L K H t dl dd hd win lim nx last) (i : Nat) (v : Value) (hv : (Value.slice (some ⟨g, 0, none⟩) S S :: .int .i64 (L.length : Int) :: swA H t dl dd hd win lim nx last)[i]? = some v) : w.cell? ⟨b, i, none⟩ = some v := by
  rw [cell_of_row w b i _ _ _ h.hp]
  simpa using hv
theorem Sw.free (h : Sw w b g S L K H t dl dd hd win lim nx last) (i : Nat) : w.frozen? ⟨b, i, none⟩ = false := cons_free h.hp i
theorem Sw.setNx (h : Sw w b g S L K H t dl dd hd win lim nx last) (v : Int) : Sw (w.setCell ⟨b, 10, none⟩ (.int .i64 v)) b g S L K H t dl dd hd win lim v last :=
  ⟨(mid_set h.hp _).trans rfl, (Kp.set (S := fun k => k = b) rfl _).heap h.hk (fun e => h.ne e.symm), h.rd, h.ne, h.bd, h.s1, h.s2, h.le⟩
theorem Sw.setLast (h : Sw w b g S L K H t dl dd hd win lim nx last) (v : Bool) : Sw (w.setCell ⟨b, 11, none⟩ (.bool v)) b g S L K H t dl dd hd win lim nx v :=
  ⟨(mid_set h.hp _).trans rfl, (Kp.set (S := fun k => k = b) rfl _).heap h.hk (fun e => h.ne e.symm), h.rd, h.ne, h.bd, h.s1, h.s2, h.le⟩
set_option maxRecDepth 100000 in
set_option maxHeartbeats 1000000 in
/-- end, behind the last block. -/
theorem psw_end (h : Sw w b g S L K H t dl dd hd win lim nx true) :
    Calls Tryd.prog 46 #[.pointer (some ⟨b, 0, none⟩)] w fun e w' => e = .returned (.tuple #[]) ∧ Sw w' b g S L K H t dl dd hd win lim 9 true ∧ Kp (fun k => k = b) w w' := by
  have f10 := h.free 10
  have h2 := h.setNx 0
  have c11 := h2.cell 11 _ rfl
  have f2 := h2.free 10
  have h3 := h2.setNx 9
  have HH : Hid (Sw ((w.setCell ⟨b, 10, none⟩ (.int .i64 0)).setCell ⟨b, 10, none⟩ (.int .i64 9)) b g S L K H t dl dd hd win lim 9 true) := h3
  have HK : Hid (Kp (fun k => k = b) w ((w.setCell ⟨b, 10, none⟩ (.int .i64 0)).setCell ⟨b, 10, none⟩ (.int .i64 9))) := (Kp.set (S := fun k => k = b) rfl _).trans (Kp.set (S := fun k => k = b) rfl _) (fun _ _ e => e)
  have c10 := h.cell 10 _ rfl
  have c102 := h2.cell 10 _ rfl
  clear h h2 h3
  go_enter Tryd.func46, Tryd.ntmps46
  go_wp2_with fail
  refine bodyPost_end (results_none rfl _ _ _) rfl ?_
  exact ⟨rfl, HH.out, HK.out⟩
set_option maxRecDepth 100000 in
set_option maxHeartbeats 1000000 in
/-- spare, where some may still come. -/
theorem psw_spare (h : Sw w b g S L K H t dl dd hd win lim nx last) (h1 : 0 ≤ lim ∧ lim ≤ 268435456) (h2 : (L.length : Int) < lim) :
    Calls Tryd.prog 55 #[.pointer (some ⟨b, 0, none⟩)] w fun e w' => e = .returned (.int .i64 (lim - (L.length : Int))) ∧ Below w.heap.size w w' := by
  have c9 : w.drew.cell? ⟨b, 9, none⟩ = some (.int .i64 lim) := h.cell 9 _ rfl
  have CT := ptotal_o h.ring.drew
  have HDR : Hid (Below w.heap.size w w.drew) := (Below.refl _ _).drew
  have iw : IntKind.i64.wrap (lim - (L.length : Int)) = lim - (L.length : Int) := IntWalk.i64_in _ (by omega)
  have hne : ¬ lim - (L.length : Int) = 0 := by omega
  have hnb : (lim - (L.length : Int) == 0) = false := by rw [beq_eq_false_iff_ne]; exact hne
  clear h
  generalize L.length = n at *
  go_enter Tryd.func55, Tryd.ntmps55
  go_wp2_with fail
  go_region_with ((go_at_call 13; refine CT.mono ?_; rintro e w1 ⟨rfl, hw1⟩; subst w1))
  all_goals
    go_wp2_with fail
    go_ret
    exact ⟨rfl, HDR.out⟩
/-- What goes in and comes out. -/
structure Fl (w : World) (bf : Nat) (pa : Option Addr) (np pc tk : Nat) (most : Int) (out : Value) : Prop where
  hp : w.heap[bf]? = some (.cells #[.slice pa np pc, .int .i64 (tk : Int), .int .i64 most, out] 49 (0, 0))
variable {bf np pc tk : Nat} {pa : Option Addr} {most : Int} {out : Value}
theorem Fl.cell (h : Fl w bf pa np pc tk most out) (i : Nat) (v : Value) (hv : ([.slice pa np pc, .int .i64 (tk : Int), .int .i64 most, out] : List Value)[i]? = some v) : w.cell? ⟨bf, i, none⟩ = some v := by
  rw [cell_of_row w bf i _ _ _ h.hp]
  simpa using hv
theorem Fl.free (h : Fl w bf pa np pc tk most out) (i : Nat) : w.frozen? ⟨bf, i, none⟩ = false := cons_free h.hp i
theorem Fl.kp (h : Fl w bf pa np pc tk most out) (hk : Kp Q w w') (hn : ¬ Q bf) : Fl w' bf pa np pc tk most out := ⟨hk.heap h.hp hn⟩
theorem Fl.setTk (h : Fl w bf pa np pc tk most out) (v : Nat) : Fl (w.setCell ⟨bf, 1, none⟩ (.int .i64 (v : Int))) bf pa np pc v most out := ⟨(mid_set h.hp _).trans rfl⟩
theorem Fl.setOut (h : Fl w bf pa np pc tk most out) (v : Value) : Fl (w.setCell ⟨bf, 3, none⟩ v) bf pa np pc tk most v := ⟨(mid_set h.hp _).trans rfl⟩
end
end Go.Proofs.YtmddnmpldmdllaaDoor
