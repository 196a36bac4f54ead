import Derived.Test.YtkjccbihdinlkaaPaq
import Derived.Test.YtkjccbihdinlkaaProg
import Derived.Test.YtkjccbihdinlkaaPac
import Derived.Test.YtkjccbihdinlkaaPas
import Derived.WalkKit
import Derived.WalkSpells
import Derived.WalkLawsBesides
import Derived.Deep.QuietTactic
import Derived.BigQuiet
import Derived.Test.YtkjccbihdinlkaaPaw
namespace Go.Proofs.Ytkjccbihdinlkaa
open Go.RowKit
set_option linter.unusedVariables false

theorem seg_lit {w : World} : SegZ (w.alloc (.cells #[.int .i64 2, .int .i64 1, .int .i64 3, .int .i64 3] 3)) (some ⟨w.heap.size, 0, none⟩) [2, 1, 3, 3] := by
  refine ⟨fun i hi => ⟨w.heap.size, 0, rfl, ?_⟩, getD_bdz (by intro z hz; simp at hz; omega)⟩
  simp only [List.length_cons, List.length_nil] at hi
  match i, hi with
  | 0, _ => simp
  | 1, _ => simp
  | 2, _ => simp
  | 3, _ => simp
set_option maxRecDepth 100000 in
set_option maxHeartbeats 400000 in
theorem first5_any (w : World) : Calls Try.prog 38 #[] w fun e w' => ∃ g, e = .returned (.slice (some ⟨g, 0, none⟩) 4 4) ∧ SegZ w' (some ⟨g, 0, none⟩) [2, 1, 3, 3] ∧ Below w.heap.size w w' := by
  go_enter Try.func38, Try.ntmps38
  go_wp2_with fail
  go_ret
  exact ⟨w.heap.size, rfl, seg_lit, (Below.refl _ _).alloc (Nat.le_refl _) _⟩
theorem ex_ok : errC [2, 1, 3, 3] = 0 := by decide
theorem ex_put2 : errP [2, 1, 3, 3] 2 = 0 ∧ putB [2, 1, 3, 3] 2 = [true, true, false] := by decide
theorem ex_put1 : errP [2, 1, 3, 3] 1 = 0 ∧ putB [2, 1, 3, 3] 1 = [false] := by decide
theorem ex_beg2 : Beg [2, 1, 3, 3] (bN 3 8) 2 := by unfold Beg; decide
theorem ex_beg1 : Beg [2, 1, 3, 3] ((bN 3 8).drop 3) 1 := by unfold Beg; decide
theorem toB_three : toB [true, true, false, false] = [3] := by
  rw [toB_eq (by decide)]
  rw [show ([true, true, false, false] : List Bool).drop 8 = [] from by decide, toB_nil]
  decide
theorem ex_lok : LOk [2, 1, 3, 3] := by unfold LOk; decide

set_option maxRecDepth 100000 in
set_option maxHeartbeats 2000000 in
theorem lives5_any (w : World) : Calls Try.prog 9 #[] w fun e w' => e = .returned (.bool true) ∧ Below w.heap.size w w' := by
  go_enter Try.func9, Try.ntmps9
  go_wp2_with fail
  refine (first5_any w).mono ?_
  rintro e w1 ⟨g1, rfl, s1, B1⟩
  go_wp2_with fail
  refine (newEnc_any (some ⟨g1, 0, none⟩) [2, 1, 3, 3] 4 4 rfl w1 s1 (by intro h; cases h) (by omega)).mono ?_
  rintro e w2 ⟨hE, _, B2⟩
  obtain ⟨be, rfl, hbe, E2⟩ := hE ex_ok
  clear hE
  go_wp2_with fail
  refine (newDec_any 4 (by omega) (by omega) w2).mono ?_
  rintro e w3 ⟨rfl, hw3⟩
  have hd3 : w3.heap[w2.heap.size]? = some (.cells (arr (dl 4 [] Z288)) 95 (0, 0)) := by rw [hw3]; exact heap_alloc_new w2 _
  have B3 : Below w2.heap.size w2 w3 := by rw [hw3]; exact (Below.refl _ _).alloc (Nat.le_refl _) _
  have D3 : De w3 w2.heap.size 4 [] := De.new (by omega) (by omega) hd3
  clear hw3 hd3
  have E3 := E2.old B3
  obtain ⟨bd, hbd⟩ : ∃ bd, bd = w2.heap.size := ⟨_, rfl⟩
  rw [← hbd] at D3 E3 ⊢
  have HBD : Hid (bd = w2.heap.size) := hbd
  clear hbd
  go_wp2_with fail
  refine (first5_any w3).mono ?_
  rintro e w4 ⟨g4, rfl, s4, B4⟩
  have hs23 := B3.size
  have hs34 := B4.size
  have E4 := E3.old (B4.mono (by have := HBD.out; omega))
  have D4 := D3.keep (B4.block bd D3.lt)
  have e1 : errD 4 [2, 1, 3, 3] = 0 := by decide
  go_wp2_with fail
  refine (load_any bd 4 [] (some ⟨g4, 0, none⟩) [2, 1, 3, 3] 4 4 rfl w4 D4 s4 (by omega)).mono ?_
  rintro e w5 ⟨rfl, D5, K5⟩
  rw [e1, if_pos rfl] at D5
  rw [e1]
  clear e1
  have hs45 := K5.size
  have B5 : Below bd w4 w5 := K5.below (fun i e => by omega) (by have := HBD.out; omega)
  have E5 := E4.old B5
  have h6 : WrL (w5.alloc (.cells #[.slice none 0 0, .int .u64 0, .int .i64 0] 47)) w5.heap.size w5.heap.size (.slice none 0 0) [] := WrL.new (heap_new _ _) (by simp)
  have B6 : Below w5.heap.size w5 (w5.alloc (.cells #[.slice none 0 0, .int .u64 0, .int .i64 0] 47)) := (Below.refl _ _).alloc (Nat.le_refl _) _
  go_wp2_with fail
  generalize w5.alloc (.cells #[.slice none 0 0, .int .u64 0, .int .i64 0] 47) = w6 at *
  have hs56 := B6.size
  have E6 := E5.old (B6.mono (by have := HBD.out; omega))
  have D6 := D5.keep (B6.block bd D5.lt)
  obtain ⟨bw, hbw⟩ : ∃ bw, bw = w5.heap.size := ⟨_, rfl⟩
  rw [← hbw] at h6 ⊢
  have HBW : Hid (bw = w5.heap.size) := hbw
  clear hbw
  have hdw : bd < bw := by have := HBW.out; have := D5.lt; omega
  refine (put5_any be bd [2, 1, 3, 3] 2 bw bw _ [] w6 E6 h6 (by simp)).mono ?_
  rw [ex_put2.1, ex_put2.2]
  rintro e w7 ⟨rfl, v7, h7, k7, f7⟩
  have B7 := h6.below k7 (Nat.le_refl _) (Nat.le_refl _)
  have E7 := E6.old (B7.mono (by omega))
  have D7 := D6.keep (B7.block bd hdw)
  go_wp2_with fail
  refine (put5_any be bd [2, 1, 3, 3] 1 bw bw _ _ w7 E7 h7 (by simp)).mono ?_
  rw [ex_put1.1, ex_put1.2]
  rintro e w8 ⟨rfl, v8, h8, k8, f8⟩
  have B8 := h7.below k8 (Nat.le_refl _) (Nat.le_refl _)
  have D8 := D7.keep (B8.block bd hdw)
  have eL : (([] : List Bool) ++ [true, true, false] ++ [false]) = [true, true, false, false] := rfl
  rw [eL] at h8
  clear eL
  go_wp2_with fail
  refine (len_any bw bw _ _ _ h8 (by simp)).mono ?_
  rintro e w9 ⟨rfl, B9⟩
  have h9 : WrL w9 bw bw v8 [true, true, false, false] := h8.kp (S := fun _ => False) (Kp.of_below B9) (by simp) (by simp)
  have D9 := D8.keep (B9.block bd D8.lt)
  have hb9 := h9.b_lt
  have hR : (w9.alloc (.cells #[.int .u64 0, .int .i64 0, .int .i64 0] 63)).heap[w9.heap.size]? = some (.cells #[.int .u64 0, .int .i64 0, .int .i64 0] 63 (0, 0)) := heap_new _ _
  have BA : Below w9.heap.size w9 (w9.alloc (.cells #[.int .u64 0, .int .i64 0, .int .i64 0] 63)) := (Below.refl _ _).alloc (Nat.le_refl _) _
  have hA : WrL (w9.alloc (.cells #[.int .u64 0, .int .i64 0, .int .i64 0] 63)) bw bw v8 [true, true, false, false] := h9.kp (S := fun _ => False) (Kp.of_below BA) (by simp) (by simp)
  have rA := Rd.new hR
  have DA := D9.keep (BA.block bd D9.lt)
  have hlen : (([true, true, false, false] : List Bool).length : Int) = 4 := rfl
  rw [hlen]
  clear hlen hR
  obtain ⟨q, hq⟩ : ∃ q, q = w9.heap.size := ⟨_, rfl⟩
  have HQ : Hid (q = w9.heap.size) := hq
  clear hq
  go_wp2_with fail
  generalize w9.alloc (.cells #[.int .u64 0, .int .i64 0, .int .i64 0] 63) = wA at *
  rw [← HQ.out] at rA ⊢
  refine (bytes_any bw bw _ _ _ hA (by simp)).mono ?_
  rw [toB_three]
  rintro e wB ⟨aB, cB, rfl, ownB, BB⟩
  have rB : Rd wB q [] 0 := rA.kp (S := fun _ => False) (Kp.of_below BB) (by simp)
  have DB := DA.keep (BB.block bd DA.lt)
  obtain ⟨_, a', c', hv, hsB, hxB, hcB, _⟩ := own_seg (zs := [3]) ownB (M := 255) (by decide) (by decide)
  cases hv
  have hqA := rA.b_lt
  go_wp2_with fail
  refine (feed_any q [] 0 aB [3] cB wB rB hsB hcB (fun g off e _ e2 => by have h6 := (hxB _ e).2.2.1; simp at h6; omega) (by simp)).mono ?_
  rintro e wC ⟨rfl, rC, kC⟩
  clear hqA
  have e1 : feedN [] ([3] : List Int).length = 1 := by decide
  have e2 : ([] ++ bB (([3] : List Int).take 1)) = bN 3 8 := by decide
  rw [e1, e2] at rC
  rw [e1]
  clear e1 e2
  have hqd : bd < q := by have := HQ.out; have := D9.lt; omega
  have DC := DB.keep (kC.block bd DB.lt (by omega))
  go_wp2_with fail
  refine (next5_any bd 4 [2, 1, 3, 3] q (bN 3 8) 0 wC DC rC (by omega)).mono ?_
  rintro e wD ⟨hN, kD⟩
  rcases hN with ⟨s, hs, rfl, rD⟩ | ⟨hs, _⟩ | ⟨hs, _⟩
  · obtain rfl := beg_one ex_lok hs ex_beg2
    clear hs
    have eD : (bN 3 8).drop (ln [2, 1, 3, 3] 2) = (bN 3 8).drop 3 := by decide
    have eT : 0 + ln [2, 1, 3, 3] 2 = 3 := by decide
    rw [eD, eT] at rD
    clear eD eT
    have DD := DC.keep (kD.block bd DC.lt (by omega))
    have e2 : ((2 : Nat) : Int) = 2 := rfl
    rw [e2]
    clear e2
    go_wp2_with fail
    refine (next5_any bd 4 [2, 1, 3, 3] q ((bN 3 8).drop 3) 3 wD DD rD (by omega)).mono ?_
    rintro e wE ⟨hN, kE⟩
    rcases hN with ⟨s, hs, rfl, rE⟩ | ⟨hs, _⟩ | ⟨hs, _⟩
    · obtain rfl := beg_one ex_lok hs ex_beg1
      clear hs
      have e2 : ((1 : Nat) : Int) = 1 := rfl
      rw [e2]
      clear e2
      go_wp2
      go_ret
      refine ⟨rfl, ?_⟩
      have hbd := HBD.out
      have hbw := HBW.out
      have hq := HQ.out
      have s1 := B1.size
      have s2 := B2.size
      have s7 := B7.size
      have s8 := B8.size
      have s9 := B9.size
      have sA := BA.size
      have sB := BB.size
      have sC := kC.size
      have sD := kD.size
      have x1 : Below w.heap.size w w2 := B1.trans (B2.mono s1)
      have x2 : Below w.heap.size w w4 := x1.trans ((B3.mono (by omega)).trans (B4.mono (by omega)))
      have x3 : Below w.heap.size w w6 := x2.trans ((B5.mono (by omega)).trans (B6.mono (by omega)))
      have x4 : Below w.heap.size w w8 := x3.trans ((B7.mono (by omega)).trans (B8.mono (by omega)))
      have x5 : Below w.heap.size w wB := x4.trans ((B9.mono (by omega)).trans ((BA.mono (by omega)).trans (BB.mono (by omega))))
      have x6 : Below w.heap.size wB wC := kC.below (fun i e => by omega) (by omega)
      have x7 : Below w.heap.size wC wD := kD.below (fun i e => by omega) (by omega)
      have x8 : Below w.heap.size wD wE := kE.below (fun i e => by omega) (by omega)
      exact x5.trans (x6.trans (x7.trans x8))
    · exact absurd ex_beg1 (hs 1)
    · exact absurd ex_beg1 (hs 1)
  · exact absurd ex_beg2 (hs 2)
  · exact absurd ex_beg2 (hs 2)
end Go.Proofs.Ytkjccbihdinlkaa

namespace Go.Proofs.Ytkjccbihdinlkaa
open Go.RowKit
set_option linter.unusedVariables false

theorem info_u8' : (Try.prog.info? 5).map (fun i => (i.zero, i.size, i.bytes)) = some (some (.int .u8 0), 1, 1) := by kernel_rfl
def lentL (zs : List Int) : List Int := zs ++ [171, 172, 173, 174, 175]

theorem seg_five (w : World) : Seg (w.alloc (.cells #[.int .u8 171, .int .u8 172, .int .u8 173, .int .u8 174, .int .u8 175] 5)) (some ⟨w.heap.size, 0, none⟩) [171, 172, 173, 174, 175] := by
  refine ⟨fun i hi => ⟨w.heap.size, 0, rfl, ?_⟩, by decide, ?_⟩
  · simp only [List.length_cons, List.length_nil] at hi
    match i, hi with
    | 0, _ => simp
    | 1, _ => simp
    | 2, _ => simp
    | 3, _ => simp
    | 4, _ => simp
  · exact getD_bd (by decide) (by intro z hz; simp at hz; omega)

theorem lent_bd {zs : List Int} (h : ∀ z ∈ zs, 0 ≤ z ∧ z ≤ 255) : ∀ z ∈ lentL zs, 0 ≤ z ∧ z ≤ 255 := by
  intro z hz
  unfold lentL at hz
  rw [List.mem_append] at hz
  rcases hz with hz | hz
  · exact h z hz
  · simp at hz; omega

end Go.Proofs.Ytkjccbihdinlkaa

namespace Go.Proofs.Ytkjccbihdinlkaa
open Go.RowKit
set_option linter.unusedVariables false

variable {w w0 w' wP wR : World} {b bx B : Nat} {v v' u u' : Value} {L L' M : List Bool}
theorem WrL.apartR (h1 : WrL w b B v L) (h2 : RwL w bx B u M) (hk : Kp (WS bx u) w w') (hb : b ≠ bx) (hb1 : b < B) (hb2 : bx < B) (hap : Ap v.ownBlock u.ownBlock) : WrL w' b B v L := by
  refine h1.kp hk ?_ ?_
  · rintro (e | e)
    · exact hb e
    · have := (h2.own_lt _ e).1; omega
  · intro k e
    have hk1 := h1.own_lt k e
    rintro (e2 | e2)
    · omega
    · exact hap k e e2
theorem RwL.apartW (h1 : RwL w bx B u M) (h2 : WrL w b B v L) (hk : Kp (WS b v) w w') (hb : b ≠ bx) (hb1 : b < B) (hb2 : bx < B) (hap : Ap v.ownBlock u.ownBlock) : RwL w' bx B u M := by
  refine h1.kp hk ?_ ?_
  · rintro (e | e)
    · exact hb e.symm
    · have := (h2.own_lt _ e).1; omega
  · intro k e
    have hk1 := h1.own_lt k e
    rintro (e2 | e2)
    · omega
    · exact hap k e2 e
theorem Ap.freshR (hap : Ap u.ownBlock v.ownBlock) (h1 : RwL w bx B u M) (hf : Fresh w v v') : Ap u.ownBlock v'.ownBlock := by
  intro k e1 e2
  have := (h1.own_lt k e1).2.1
  rcases hf k e2 with e | e
  · exact hap k e1 e
  · omega
def PS (b bx : Nat) (v u : Value) : Nat → Prop := fun k => WS b v k ∨ WS bx u k
/-- A Writer and the document's Writer beside each other, with the same bits. -/
structure Pair (w : World) (b bx B : Nat) (v u : Value) (L : List Bool) : Prop where
  g : WrL w b B v L
  x : RwL w bx B u L
  ap : Ap v.ownBlock u.ownBlock
/-- Both have gone on. -/
def Done (w w' : World) (b bx B : Nat) (v u : Value) (L : List Bool) : Prop := ∃ v' u', Pair w' b bx B v' u' L ∧ Kp (PS b bx v u) w w' ∧ Fresh w v v' ∧ Fresh w u u'
theorem Fresh.wide (h : Fresh w' v v') (hs : w.heap.size ≤ w'.heap.size) : Fresh w v v' := fun k e => (h k e).imp id (fun e => by omega)
theorem pair_wr (h : Pair w0 b bx B v u L) (hb : b ≠ bx) (hb1 : b < B) (hb2 : bx < B) (gP : WrL wP b B v' L') (kP : Kp (WS b v) w0 wP) (fP : Fresh w0 v v') (gR : RwL wR bx B u' L') (kR : Kp (WS bx u) wP wR) (fR : Fresh wP u u') : Done w0 wR b bx B v u L' := by
  have xP := h.x.apartW h.g kP hb hb1 hb2 h.ap
  have ap1 : Ap u.ownBlock v'.ownBlock := h.ap.symm.freshR h.x fP
  refine ⟨v', u', ⟨gP.apartR xP kR hb hb1 hb2 ap1.symm, gR, ap1.symm.fresh gP fR⟩, ?_, fP, fR.wide kP.size⟩
  exact (kP.mono (S' := PS b bx v u) (fun _ _ e => .inl e)).trans kR (fun _ _ e => .inr e)
theorem pair_rw (h : Pair w0 b bx B v u L) (hb : b ≠ bx) (hb1 : b < B) (hb2 : bx < B) (gR : RwL wR bx B u' L') (kR : Kp (WS bx u) w0 wR) (fR : Fresh w0 u u') (gP : WrL wP b B v' L') (kP : Kp (WS b v) wR wP) (fP : Fresh wR v v') : Done w0 wP b bx B v u L' := by
  have gX := h.g.apartR h.x kR hb hb1 hb2 h.ap
  have ap1 : Ap v.ownBlock u'.ownBlock := h.ap.fresh h.g fR
  refine ⟨v', u', ⟨gP, gR.apartW gX kP hb hb1 hb2 ap1, (ap1.symm.freshR gR fP).symm⟩, ?_, fP.wide kR.size, fR⟩
  exact (kR.mono (S' := PS b bx v u) (fun _ _ e => .inr e)).trans kP (fun _ _ e => .inl e)
theorem Pair.kp {S : Nat → Prop} (h : Pair w b bx B v u L) (hk : Kp S w w') (h1 : ¬ S b) (h2 : ¬ S bx) (h3 : ∀ k, B ≤ k → k < w.heap.size → v.ownBlock = some k ∨ u.ownBlock = some k → ¬ S k) : Pair w' b bx B v u L :=
  ⟨h.g.kp hk h1 (fun k e => h3 k (h.g.own_lt k e).1 (h.g.own_lt k e).2.1 (.inl e)), h.x.kp hk h2 (fun k e => h3 k (h.x.own_lt k e).1 (h.x.own_lt k e).2.1 (.inr e)), h.ap⟩
theorem Pair.old (h : Pair w b bx B v u L) (hb : Below w.heap.size w w') : Pair w' b bx B v u L := h.kp (S := fun _ => False) (Kp.of_below hb) (by simp) (by simp) (by simp)
theorem Pair.done (h : Pair w' b bx B v u L) (hb : Below w.heap.size w w') : Done w w' b bx B v u L := ⟨v, u, h, Kp.of_below hb, Fresh.refl _ _, Fresh.refl _ _⟩
theorem Done.after (hb : Below w.heap.size w w0) (h : Done w0 w' b bx B v u L) (hb1 : b < w.heap.size) : Done w w' b bx B v u L := by
  obtain ⟨v', u', h1, h2, h3, h4⟩ := h
  exact ⟨v', u', h1, (Kp.of_below hb).trans h2 (fun _ _ e => e), h3.wide hb.size, h4.wide hb.size⟩
theorem Done.then_old (h : Done w w0 b bx B v u L) (hb : Below w0.heap.size w0 w') : Done w w' b bx B v u L := by
  obtain ⟨v', u', h1, h2, h3, h4⟩ := h
  exact ⟨v', u', h1.old hb, h2.trans (S' := fun _ => False) (Kp.of_below hb) (fun _ _ e => e.elim), h3, h4⟩

/-- What a call leaves of the bits. -/
def stepL (L : List Bool) (c : Int) (x : Nat) (n : Int) (p : List Int) : List Bool := if c = 0 then putL L x n else if c = 1 then turnL L x n else if c = 2 then alignL L else if c = 3 then alignL L ++ bB p else L

/-- A block of four cells. -/
theorem four_cell {w : World} {b : Nat} {x y z t : Value} {T : TypeId} (h : w.heap[b]? = some (.cells #[x, y, z, t] T (0, 0))) : w.cell? ⟨b, 0, none⟩ = some x ∧ w.cell? ⟨b, 1, none⟩ = some y ∧ w.cell? ⟨b, 2, none⟩ = some z ∧ w.cell? ⟨b, 3, none⟩ = some t := by simp [World.cell?, h]

end Go.Proofs.Ytkjccbihdinlkaa
