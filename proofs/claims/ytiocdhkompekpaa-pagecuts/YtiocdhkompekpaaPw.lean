import Derived.Test.YtiocdhkompekpaaPu
import Derived.Test.YtiocdhkompekpaaPs
import Derived.Test.YtiocdhkompekpaaPa
import Derived.Test.YtiocdhkompekpaaPt
import Derived.Test.YtiocdhkompekpaaPn
import Derived.StillTailTactics
namespace Go.Proofs.Ytiocdhkompekpaa
open Go.RowKit Go.Shelf
set_option linter.unusedVariables false
set_option linter.unusedSimpArgs false

/-! What is read behind bytes that were written (pure). -/
theorem rb22_gen (S : Fs21) (x : Int) (L : List Int) (N : Nat) (hp : 0 < S.pg) (h : ∀ y : Nat, y < N → (sh21 S x (y : Int)).b = ch22 S.pg L y) : rb21 S x 0 (N * S.pg) = (L ++ List.replicate (N * S.pg) 255).take (N * S.pg) := by
  apply List.ext_getElem
  · rw [rb21_len]; simp
  · intro i h1 h2
    rw [rb21_len] at h1
    have hy : i / S.pg < N := Nat.div_lt_of_lt_mul (by rw [Nat.mul_comm]; exact h1)
    have hm : i % S.pg < S.pg := Nat.mod_lt _ hp
    have hi : i / S.pg * S.pg + i % S.pg = i := by rw [Nat.mul_comm]; exact Nat.div_add_mod i S.pg
    simp only [rb21, List.getElem_map, List.getElem_range, Nat.zero_add, pb21]
    rw [h _ hy]
    unfold ch22
    rw [List.getElem_take]
    simp only [List.getD, List.getElem?_take, hm, if_true, List.getElem?_drop, hi]
    by_cases hl : i < L.length
    · rw [List.getElem?_eq_getElem hl, List.getElem_append_left hl]; rfl
    · rw [List.getElem?_eq_none (by omega), List.getElem_append_right (by omega)]
      simp
theorem rb22_same {S S' : Fs21} {x : Int} (hp : S'.pg = S.pg) (h : ∀ y, sh21 S' x y = sh21 S x y) (a n : Nat) : rb21 S' x a n = rb21 S x a n := by
  unfold rb21 pb21
  rw [hp]
  simp only [h]
theorem hp22_rd {S0 S : Fs21} {P : Pw22} {ar : Int} {L : List Int} (h : Hp22 S0 S P ar L) : rb21 S ar 0 (P.pn * S0.pg) = L.take (P.pn * S0.pg) := by
  have hp : 0 < S.pg := by rw [h.pg]; have := h.lt; omega
  have := rb22_gen S ar L P.pn hp (fun y hy => by
    rw [h.sh, if_pos ⟨rfl, by omega, by omega⟩, h.pg]
    show ch22 _ _ _ = _
    congr 1)
  rw [h.pg] at this
  rw [this, List.take_append_of_le_length]
  have := h.pn; omega
theorem hp22_pn {S0 S : Fs21} {P : Pw22} {ar : Int} {L : List Int} (h : Hp22 S0 S P ar L) : L.length / S0.pg = P.pn ∧ L.length / S0.pg * S0.pg = P.pn * S0.pg := by
  have h1 := h.pn
  have h2 := h.lt
  have e : L.length / S0.pg = P.pn := by
    rw [← h1, Nat.add_comm, Nat.add_mul_div_right _ _ (by omega), Nat.div_eq_of_lt h2]; omega
  exact ⟨e, by rw [e]⟩
theorem hp22_oth {S0 S : Fs21} {P : Pw22} {ar : Int} {L : List Int} (h : Hp22 S0 S P ar L) (x : Int) (hx : x ≠ ar) (a n : Nat) : rb21 S x a n = rb21 S0 x a n :=
  rb22_same h.pg (fun y => by rw [h.sh, if_neg (fun q => hx q.1)]) a n
/-- What End leaves. -/
structure He22 (S0 S' : Fs21) (P' : Pw22) (ar : Int) (L : List Int) (N : Nat) : Prop where
  qt : Qt22 S'
  pg : S'.pg = S0.pg
  ps : S'.ps = S0.ps
  ok : Ok21 S'
  pn : P'.pn = N
  ge : L.length ≤ N * S0.pg
  le : N ≤ S0.ps
  rd : rb21 S' ar 0 (N * S0.pg) = L ++ List.replicate (N * S0.pg - L.length) 255
  ot : ∀ x, x ≠ ar → ∀ a n, rb21 S' x a n = rb21 S0 x a n
theorem hp22_end {S0 S : Fs21} {P : Pw22} {ar : Int} {L : List Int} (h : Hp22 S0 S P ar L) (har : ar = 0 ∨ ar = 1) (hL : L.length ≤ S0.pg * S0.ps) :
    edE22 S P = 0 ∧ He22 S0 (edS22 S P) (edP22 S P) ar L ((L.length + S0.pg - 1) / S0.pg) := by
  have h1 := h.pn
  have h2 := h.lt
  have hz : ¬ ((0 : Int) ≠ 0) := by simp
  unfold edE22 edS22 edP22
  rw [h.cl, if_neg hz, if_neg hz, if_neg hz]
  unfold enE22 enS22 enP22
  by_cases hb : 0 < P.bf.length
  · rw [if_pos hb, if_pos hb, if_pos hb]
    have hN : (L.length + S0.pg - 1) / S0.pg = P.pn + 1 := by
      have e : L.length + S0.pg - 1 = (P.bf.length - 1) + (P.pn + 1) * S0.pg := by rw [Nat.succ_mul]; omega
      rw [e, Nat.add_mul_div_right _ _ (by omega), Nat.div_eq_of_lt (by omega)]; omega
    rw [hN]
    have hsm : (P.pn + 1) * S0.pg = P.pn * S0.pg + S0.pg := Nat.succ_mul _ _
    have hlt : P.pn < S0.ps := by
      have h3 : P.pn * S0.pg < S0.ps * S0.pg := by rw [Nat.mul_comm S0.ps]; omega
      exact Nat.lt_of_mul_lt_mul_right h3
    obtain ⟨y1, y2, y3, y4, y5⟩ := ly22_hold (P := P) h.qt (by rw [h.ea]; exact har) (by rw [h.ps]; exact hlt) (by rw [h.pg]; omega) (by rw [h.sh, if_neg (by omega), h.ea]; exact h.wr _)
    have hy := lyS22_pg S P
    have hpg : (lyS22 S P).pg = S0.pg := hy.1.trans h.pg
    rw [if_neg (by rw [y1]; simp)]
    refine ⟨y1, y3, hpg, hy.2.1.trans h.ps, ok22_ly h.ok _, ?_, by omega, by omega, ?_, fun x hx a n => ?_⟩
    · rw [y2]
    · have := rb22_gen (lyS22 S P) ar L (P.pn + 1) (by rw [hpg]; omega) (fun y hy' => by
        rw [y5, hpg, h.ea]
        by_cases e : y = P.pn
        · rw [if_pos ⟨rfl, by omega⟩, e]
          show P.bf = ch22 _ _ _
          unfold ch22
          rw [← h.bf, List.take_of_length_le (by omega)]
        · rw [if_neg (by omega), h.sh, if_pos ⟨rfl, by omega, by omega⟩]
          show ch22 _ _ _ = _
          congr 1)
      rw [hpg] at this
      rw [this, List.take_append, List.take_of_length_le (by omega), List.take_replicate]
      congr 2
      omega
    · exact rb22_same (S := S0) hpg (fun y => by rw [y5, if_neg (fun q => hx (by rw [q.1, h.ea])), h.sh, if_neg (fun q => hx q.1)]) a n
  · rw [if_neg hb, if_neg hb, if_neg hb]
    have hN : (L.length + S0.pg - 1) / S0.pg = P.pn := by
      have e : L.length + S0.pg - 1 = (S0.pg - 1) + P.pn * S0.pg := by omega
      rw [e, Nat.add_mul_div_right _ _ (by omega), Nat.div_eq_of_lt (by omega)]; omega
    rw [hN]
    refine ⟨rfl, h.qt, h.pg, h.ps, h.ok, rfl, by omega, ?_, ?_, fun x hx a n => hp22_oth h x hx a n⟩
    · have h3 : P.pn * S0.pg ≤ S0.ps * S0.pg := by rw [Nat.mul_comm S0.ps]; omega
      exact Nat.le_of_mul_le_mul_right h3 (by omega)
    · rw [hp22_rd h, List.take_of_length_le (by omega), show P.pn * S0.pg - L.length = 0 by omega]; simp
end Go.Proofs.Ytiocdhkompekpaa

namespace Go.Proofs.Ytiocdhkompekpaa
open Go.RowKit Go.Shelf
set_option linter.unusedVariables false
set_option linter.unusedSimpArgs false

/-! The law's awake. -/
theorem Pn22.below {w w' : World} {v s g b N : Nat} {F : Nat → Prop} {S : Fs21} {P : Pw22} (h : Pn22 w w' v s g b F S P) (hF : ∀ k, F k → N ≤ k) (hs : N ≤ s) (hg : N ≤ g) (hN : N ≤ w.heap.size) : ∃ F', Pe22 w' v s g b F' S P ∧ (∀ k, F' k → N ≤ k) ∧ Below N w w' := by
  obtain ⟨F', h1, h2, h3⟩ := h
  refine ⟨F', h1, fun k e => ?_, h3.below (fun i e => ?_) hN⟩
  · rcases h2 k e with q | q
    · exact hF k q
    · omega
  · rcases e with e | e | e
    · exact hF i e
    · omega
    · omega
def sa22 : Fs21 := nw21 64 2 0 [] []
def pa22 : Pw22 := ⟨1, [], 0, 0, 0⟩
theorem awk22 : wrE22 sa22 pa22 (List.replicate 65 0) = 0 ∧ (wrP22 sa22 pa22 (List.replicate 65 0)).wn = 65 ∧ (wrP22 sa22 pa22 (List.replicate 65 0)).pn = 1 ∧ (wrS22 sa22 pa22 (List.replicate 65 0)).lg.length = 2 := by
  refine ⟨by decide +kernel, by decide +kernel, by decide +kernel, by decide +kernel⟩
theorem ok22_tk : ∀ (L : List Int) (S : Fs21) (P : Pw22), Ok21 S → Ok21 (tk22 S P L).1
  | [], S, P, h => h
  | c :: L, S, P, h => by
    rw [tk22]
    split
    · split
      · exact ok22_ly h _
      · exact ok22_tk L _ _ (ok22_ly h _)
    · exact ok22_tk L _ _ h
theorem ok22_wr {S : Fs21} (h : Ok21 S) (P : Pw22) (L : List Int) : Ok21 (wrS22 S P L) := by
  unfold wrS22
  split
  · exact h
  · split
    · exact h
    · exact ok22_tk L S P h
set_option maxRecDepth 100000 in
set_option maxHeartbeats 8000000 in
theorem pawk22 (w : World) : Calls Try.prog 9 #[] w fun e w' => e = .returned (.bool true) ∧ Below w.heap.size w w' := by
  have HN := pnew21 (w := w) 64 2 0 ⟨by omega, by omega⟩ ⟨by omega, by omega⟩ none none [] [] 0 0 0 0 (SegK.nil (by decide) _ _) (SegK.nil (by decide) _ _) rfl rfl (by omega) (by omega)
  have HMK : ∀ W : World, (Instr.makeSlice 26 (.int .i64 65) (.int .i64 65)).run Try.prog W = .ok (.slice (some ⟨W.heap.size, 0, none⟩) 65 65) (W.alloc (.cells ((List.replicate 65 (0 : Int)).map (Value.int .u8)).toArray 5)) := fun W => run_make22 65 (by omega) W
  go_enter Try.func9, Try.ntmps9
  go_wp2_with fail
  refine HN.mono ?_
  rintro e w2 ⟨b2, h2⟩
  rcases h2 with ⟨h2, -⟩ | ⟨-, b, F, rfl, hF, hFw⟩
  · exact absurd h2 (by decide)
  have o1 : Ok21 sa22 := ok21_new 64 2 0 _ _ (by omega) (by omega) (by omega)
  have hFl : Fl21 w2 b F sa22 := hF
  have HW := pnw22 hFl o1
  clear HN hF
  go_wp2_with fail
  refine HW.mono ?_
  rintro e w3 ⟨v, s, g, rfl, q3, b3, z1, z2, z3⟩
  have q3' : Pe22 w3 v s g b F sa22 pa22 := q3
  have b3' : Below w.heap.size w w3 := b2.trans (b3.mono b2.size)
  obtain ⟨w4, hw4⟩ : ∃ w4, w4 = w3.alloc (.cells ((List.replicate 65 (0 : Int)).map (Value.int .u8)).toArray 5) := ⟨_, rfl⟩
  have HW4 : Hid (w3.alloc (.cells ((List.replicate 65 (0 : Int)).map (Value.int .u8)).toArray 5) = w4) := hw4.symm
  have b4 : Below w3.heap.size w3 w4 := by rw [hw4]; exact (Below.refl _ _).alloc (Nat.le_refl _) _
  have hsg : Seg w4 (some ⟨w3.heap.size, 0, none⟩) (List.replicate 65 0) := by rw [hw4]; exact seg_lit21 w3 (List.replicate 65 0) _ _ (by intro z hz; rw [(List.mem_replicate.1 hz).2]; decide)
  have hlt := q3.wr.lt
  have hFs : ∀ k, F k → k < w3.heap.size := by
    obtain ⟨m, c, f, ta, tc, la, lc, V, h1, h2, h3, h4, h5, h6⟩ := q3.fl
    exact h6
  have HWR := pwr22 (q3'.old b4) o1 ⟨by decide, by decide⟩ (by decide) (by decide) (by decide) (by intro _; decide) (some ⟨w3.heap.size, 0, none⟩) (List.replicate 65 0) 65 65 hsg (by show _ = _; simp) (by omega) (by omega) (fun x off e _ => by
    cases e
    refine ⟨fun e => ?_, ?_, ?_⟩
    · have := hFs _ e; omega
    · omega
    · omega)
  obtain ⟨a1, a2, a3, a4⟩ := awk22
  have o2 := ok22_wr o1 pa22 (List.replicate 65 0)
  rw [a1] at HWR
  have b4' : Below w.heap.size w w4 := b3'.trans (b4.mono b3'.size)
  generalize wrS22 sa22 pa22 (List.replicate 65 0) = S5 at *
  generalize wrP22 sa22 pa22 (List.replicate 65 0) = P5 at *
  have HA : Hid (P5.wn = 65 ∧ P5.pn = 1 ∧ S5.lg.length = 2) := ⟨a2, a3, a4⟩
  have HZ : Hid (w.heap.size ≤ s ∧ w.heap.size ≤ g ∧ (∀ k, F k → w.heap.size ≤ k) ∧ w.heap.size ≤ w4.heap.size ∧ Below w.heap.size w w4) := ⟨by have := b2.size; omega, by have := b2.size; omega, hFw, b4'.size, b4'⟩
  clear hw4 b4 hsg a1 a2 a3 a4 HW q3 q3' b3 z1 z2 z3 hlt hFs hFw b4'
  go_wp2_with fail
  rw [← HW4.out] at HWR
  refine HWR.mono ?_
  rintro e w5 ⟨rfl, hn5⟩
  rw [HW4.out] at hn5
  obtain ⟨F5, q5, f5, b5⟩ := hn5.below HZ.out.2.2.1 HZ.out.1 HZ.out.2.1 HZ.out.2.2.2.1
  have HB5 : Hid (Below w.heap.size w w5) := HZ.out.2.2.2.2.trans b5
  have hW := pwn22 q5.wr
  have hP := ppn22 q5.wr
  have hO := pops21 q5.fl o2
  rw [HA.out.1] at hW
  rw [HA.out.2.1] at hP
  rw [HA.out.2.2] at hO
  clear hn5 q5 f5 b5
  go_wp2_with fail
  refine hW.mono ?_
  rintro e w6 ⟨rfl, hw6⟩
  subst w6
  go_wp2_with fail
  refine hP.mono ?_
  rintro e w6 ⟨rfl, hw6⟩
  subst w6
  go_wp2_with fail
  refine hO.mono ?_
  rintro e w6 ⟨rfl, hw6⟩
  subst w6
  go_wp2_with fail
  go_ret
  exact ⟨rfl, HB5.out⟩
set_option maxRecDepth 100000 in
set_option maxHeartbeats 1000000 in
theorem pnum22 (x : Int) (w : World) : Calls Try.prog 8 #[.int .i64 x] w fun e w' => e = .returned (.int .i64 x) ∧ w' = w := by
  go_enter Try.func8, Try.ntmps8
  go_wp2
  go_ret
  exact ⟨rfl, rfl⟩
end Go.Proofs.Ytiocdhkompekpaa

namespace Go.Proofs.Ytiocdhkompekpaa
open Go.RowKit
set_option linter.unusedVariables false

/-- A part: where its bytes lie, the bytes, the capacity. -/
structure Part where
  a : Option Addr
  zs : List Int
  cap : Nat
def Part.val (p : Part) : Value := .slice p.a p.zs.length p.cap
def noPart : Part := ⟨none, [], 0⟩
/-- Parts lie where a slice's address leads, and the bytes of each where it leads. -/
structure Parts (w : World) (a : Option Addr) (ps : List Part) : Prop where
  at_ : ∀ i, i < ps.length → ∃ b off, a = some ⟨b, off, none⟩ ∧ w.cell? ⟨b, off + i, none⟩ = some (ps.getD i noPart).val
  seg : ∀ i, i < ps.length → Seg w (ps.getD i noPart).a (ps.getD i noPart).zs
  len : ∀ i, i < ps.length → (ps.getD i noPart).zs.length ≤ 9223372036854775807
end Go.Proofs.Ytiocdhkompekpaa

namespace Go.Proofs.Ytiocdhkompekpaa
open Go.RowKit Go.Shelf
set_option linter.unusedVariables false
set_option linter.unusedSimpArgs false

/-! PageHolds: what holds at the heads of its loop. -/
theorem still_all22 {P : Program} {id : Nat} {Q : Exit → Act → World → Prop} {a : Act} {w : World} {l : List Oper} (hm : P.follows .mixedOrders = true) (hB : Region.lexB .any l.toArray = true)
    (h : wpStill P l.toArray w.drew (fun a' => Q .normal a' w.drew) l a) : (Code.region id l.toArray true).wp P Q a w := wp_region_still_lit hm hB h
theorem run_conv22 {P : Program} {w : World} {a : Option Addr} {zs : List Int} (cap n : Nat) (hn : zs.length = n) (h : Seg w a zs) (src e dst : TypeId) (hs : P.underlying src = some (.slice e)) (he : P.underlying e = some (.int .u8)) (hd : P.underlying dst = some .string) :
    (convert src dst (.slice a n cap)).run P w = .ok (.string (strOfNums zs)) w := by
  subst hn
  by_cases hz : 0 < zs.length
  · obtain ⟨b, off, rfl, _⟩ := h.at_ 0 hz
    refine run_convert_bytes_arg w src e hs he b off zs.length cap zs rfl (fun i hi => ?_) dst hd
    obtain ⟨b', off', hb, hc⟩ := h.at_ i hi
    cases hb
    exact hc
  · have : zs = [] := List.eq_nil_of_length_eq_zero (by omega)
    subst this
    cases a with
    | none => exact run_convert_bytes_nil w src e hs he _ _ dst hd
    | some x =>
      rw [run_convert_bytes_string w src dst e _ _ cap hs he hd]
      have hl : (loadCells x 0).run P w = .ok (([] : List Int).map (Value.int .u8)).toArray w := by simp [loadCells, loadCellsFrom]
      have := run_bytesToString (P := P) w x 0 cap [] hl
      exact this
structure Hw22 (w wr : World) (v s g f g8 gb : Nat) (p q : Nat) (B0 : List Int) (S0 : Fs21) (ar : Int) (L : List Int) (F : Nat → Prop) (S : Fs21) (P : Pw22) (ra : Option Addr) (rc : Nat) : Prop where
  pe : Pe22 wr v s g f F S P
  hp : Hp22 S0 S P ar L
  wn : P.wn = L.length
  le : L.length ≤ S0.pg * S0.ps
  fN : ∀ k, F k → w.heap.size ≤ k
  sN : w.heap.size ≤ s ∧ w.heap.size ≤ g ∧ w.heap.size ≤ v
  bl : Below w.heap.size w wr
  s8 : wr.heap[g8]? = some (.cells #[.int .i64 (p : Int), .int .i64 (q : Int)] 62 (0, 0))
  n8 : ¬ F g8
  sb : Rw21 wr gb B0
  nb : ¬ F gb ∧ gb ≠ g
  ow : wr.ownsRow w.heap.size 5 1 (.slice ra L.length rc) L.length (L.map (Value.int .u8))
  no : ∀ r, (Value.slice ra L.length rc).ownBlock = some r → ¬ F r ∧ r ≠ g ∧ r ≠ gb
  mL : ∀ z ∈ L, 0 ≤ z ∧ z ≤ 255
section
variable {w wr w' : World} {v s g f g8 gb p q : Nat} {B0 : List Int} {S0 : Fs21} {ar : Int} {L L' : List Int} {F : Nat → Prop} {S S' : Fs21} {P P' : Pw22} {ra : Option Addr} {rc : Nat}
theorem Hw22.ty (h : Hw22 w wr v s g f g8 gb p q B0 S0 ar L F S P ra rc) : g8 ≠ s ∧ g8 ≠ g ∧ gb ≠ s ∧ gb ≠ v ∧ g8 ≠ v ∧ ∀ r, (Value.slice ra L.length rc).ownBlock = some r → r < wr.heap.size ∧ r ≠ s ∧ r ≠ v ∧ r ≠ g8 ∧ w.heap.size ≤ r := by
  obtain ⟨Y, hY, _⟩ := h.pe.wr.hg
  obtain ⟨X, hX⟩ := h.sb
  have hs := h.pe.wr.hs
  have hv := h.pe.wr.hv
  have h8 := h.s8
  have tyne : ∀ (a b : Nat) (ca cb : Array Value) (ta tb : TypeId), wr.heap[a]? = some (Obj.cells ca ta (0, 0)) → wr.heap[b]? = some (Obj.cells cb tb (0, 0)) → ta ≠ tb → a ≠ b := fun a b ca cb ta tb e1 e2 hne e => by
    rw [e, e2] at e1; injection e1 with e1; injection e1 with _ e1 _; exact hne e1.symm
  refine ⟨tyne _ _ _ _ _ _ h8 hs (by decide), tyne _ _ _ _ _ _ h8 hY (by decide), tyne _ _ _ _ _ _ hX hs (by decide), tyne _ _ _ _ _ _ hX hv (by decide), tyne _ _ _ _ _ _ h8 hv (by decide), fun r hr => ?_⟩
  rcases h.ow.2 with ⟨h1, _⟩ | ⟨q', cp, cu, h1, h2, h3, _⟩
  · rw [h1] at hr; cases hr
  · rw [h1] at hr
    simp [Value.ownBlock] at hr
    subst hr
    exact ⟨(Array.getElem?_eq_some_iff.1 h3).1, tyne _ _ _ _ _ _ h3 hs (by decide), tyne _ _ _ _ _ _ h3 hv (by decide), tyne _ _ _ _ _ _ h3 h8 (by decide), h2⟩
theorem own_old22 {N n : Nat} {e : TypeId} {k : Nat} {v : Value} {xs : List Value} (h : wr.ownsRow N e k v n xs) (hk : ∀ r, v.ownBlock = some r → w'.heap[r]? = wr.heap[r]?) : w'.ownsRow N e k v n xs := by
  refine ⟨h.1, ?_⟩
  rcases h.2 with q | ⟨q, cap, cur, q1, q2, q3, q4⟩
  · exact .inl q
  · exact .inr ⟨q, cap, cur, q1, q2, (hk q (by rw [q1]; rfl)).trans q3, q4⟩
theorem Hw22.old (h : Hw22 w wr v s g f g8 gb p q B0 S0 ar L F S P ra rc) (hb : Below wr.heap.size wr w') : Hw22 w w' v s g f g8 gb p q B0 S0 ar L F S P ra rc := by
  obtain ⟨X, hX⟩ := h.sb
  have ht := h.ty
  exact ⟨h.pe.old hb, h.hp, h.wn, h.le, h.fN, h.sN, h.bl.trans (hb.mono h.bl.size), (hb.block _ (Array.getElem?_eq_some_iff.1 h.s8).1).trans h.s8, h.n8, ⟨X, (hb.block _ (Array.getElem?_eq_some_iff.1 hX).1).trans hX⟩, h.nb, own_old22 h.ow (fun r hr => hb.block r (ht.2.2.2.2.2 r hr).1), h.no, h.mL⟩
/-- Behind a call of the writer. -/
theorem Hw22.put (h : Hw22 w wr v s g f g8 gb p q B0 S0 ar L F S P ra rc) (hn : Pn22 wr w' v s g f F S' P') :
    ∃ F', Pe22 w' v s g f F' S' P' ∧ (∀ k, F' k → w.heap.size ≤ k) ∧ Below w.heap.size w w' ∧ w'.heap[g8]? = some (.cells #[.int .i64 (p : Int), .int .i64 (q : Int)] 62 (0, 0)) ∧ ¬ F' g8 ∧ Rw21 w' gb B0 ∧ ¬ F' gb ∧ w'.ownsRow w.heap.size 5 1 (.slice ra L.length rc) L.length (L.map (Value.int .u8)) ∧ ∀ r, (Value.slice ra L.length rc).ownBlock = some r → ¬ F' r ∧ r ≠ g ∧ r ≠ gb := by
  obtain ⟨F', h1, h2, h3⟩ := hn
  obtain ⟨X, hX⟩ := h.sb
  obtain ⟨t1, t2, t3, t4, t5, t6⟩ := h.ty
  have hl8 := (Array.getElem?_eq_some_iff.1 h.s8).1
  have hlb := (Array.getElem?_eq_some_iff.1 hX).1
  have nF : ∀ k, k < wr.heap.size → ¬ F k → ¬ F' k := fun k hk hf e => by rcases h2 k e with q | q; (exact hf q); omega
  refine ⟨F', h1, fun k e => ?_, h.bl.trans (h3.below (fun i e => ?_) h.bl.size), ?_, nF _ hl8 h.n8, ⟨X, ?_⟩, nF _ hlb h.nb.1, own_old22 h.ow (fun r hr => ?_), fun r hr => ⟨nF r (t6 r hr).1 (h.no r hr).1, (h.no r hr).2⟩⟩
  · rcases h2 k e with q | q
    · exact h.fN k q
    · exact Nat.le_trans h.bl.size q
  · rcases e with e | e | e
    · exact h.fN i e
    · rw [e]; exact h.sN.1
    · rw [e]; exact h.sN.2.1
  · exact (h3.block g8 hl8 (by rintro (e | e | e); (exact h.n8 e); (exact t1 e); (exact t2 e))).trans h.s8
  · exact (h3.block gb hlb (by rintro (e | e | e); (exact h.nb.1 e); (exact t3 e); (exact h.nb.2 e))).trans hX
  · exact h3.block r (t6 r hr).1 (by rintro (e | e | e); (exact (h.no r hr).1 e); (exact (t6 r hr).2.1 e); (exact (h.no r hr).2.1 e))
end
end Go.Proofs.Ytiocdhkompekpaa
