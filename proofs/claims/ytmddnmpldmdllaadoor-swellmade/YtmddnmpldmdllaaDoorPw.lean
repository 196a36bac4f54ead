import Derived.Test.YtmddnmpldmdllaaDoorPv
import Derived.Deep.OwnRows
import Derived.Test.YtmddnmpldmdllaaDoorPu
import Derived.Deep.RegionHeld3
import Derived.Test.YtmddnmpldmdllaaDoorPm
namespace Go.Proofs.YtmddnmpldmdllaaDoor
open Go.RowKit
set_option linter.unusedVariables false

theorem RwL.far {w : World} {b B N : Nat} {v : Value} {L : List Bool} (h : RwL w b B v L) (h1 : N ≤ b) (h2 : N ≤ B) {g : Nat} (hg : g < N) : ¬ WS b v g := by
  rintro (e | e)
  · omega
  · have := (h.own_lt g e).1; omega
theorem RwL.below {w w' : World} {b B N : Nat} {v : Value} {L : List Bool} (h : RwL w b B v L) (hk : Kp (WS b v) w w') (h1 : N ≤ b) (h2 : N ≤ B) : Below N w w' :=
  hk.below (fun i e => by
    rcases e with e | e
    · omega
    · have := (h.own_lt i e).1; omega) (by have := h.b_lt; omega)

def accB (L : List Bool) (i : Nat) : List Int := (List.range ((L.length + 7) / 8)).map fun j => (num (((L.take i).drop (8 * j)).take 8) : Int)
theorem accB_len (L : List Bool) (i : Nat) : (accB L i).length = (L.length + 7) / 8 := by simp [accB]
theorem accB_get (L : List Bool) (i j : Nat) (h : j < (L.length + 7) / 8) : (accB L i)[j]? = some (num (((L.take i).drop (8 * j)).take 8) : Int) := by simp [accB, h]
theorem accB_end (L : List Bool) : accB L L.length = toB L := by
  apply List.ext_getElem?
  intro j
  by_cases h : j < (L.length + 7) / 8
  · rw [accB_get _ _ _ h, toB_get _ _ (by rw [toB_len]; exact h), List.take_length]
  · rw [List.getElem?_eq_none (by rw [accB_len]; omega), List.getElem?_eq_none (by rw [toB_len]; omega)]
theorem accB_zero (L : List Bool) : accB L 0 = List.replicate ((L.length + 7) / 8) 0 := by
  apply List.ext_getElem?
  intro j
  by_cases h : j < (L.length + 7) / 8
  · rw [accB_get _ _ _ h]
    simp [num, h]
  · rw [List.getElem?_eq_none (by rw [accB_len]; omega), List.getElem?_eq_none (by simp; omega)]
theorem accB_bd (L : List Bool) (i : Nat) : ∀ z ∈ accB L i, 0 ≤ z ∧ z ≤ 255 := by
  intro z hz
  simp only [accB, List.mem_map] at hz
  obtain ⟨j, _, rfl⟩ := hz
  have h1 := num_lt (((L.take i).drop (8 * j)).take 8)
  have h2 : (2 : Nat) ^ (((L.take i).drop (8 * j)).take 8).length ≤ 2 ^ 8 := Nat.pow_le_pow_right (by decide) (by simp; omega)
  omega
theorem piece_same (L : List Bool) (i j : Nat) (hi : i < L.length) (hj : j ≠ i / 8) : ((L.take (i + 1)).drop (8 * j)).take 8 = ((L.take i).drop (8 * j)).take 8 := by
  rw [List.take_succ_eq_append_getElem hi]
  by_cases h : 8 * j ≤ i
  · have h8 : 8 * j + 8 ≤ i := by omega
    rw [List.drop_append_of_le_length (by simp; omega), List.take_append_of_le_length (by simp; omega)]
  · rw [List.drop_of_length_le (by simp; omega), List.drop_of_length_le (by simp; omega)]
theorem piece_next (L : List Bool) (i : Nat) (hi : i < L.length) : num (((L.take (i + 1)).drop (8 * (i / 8))).take 8) = num (((L.take i).drop (8 * (i / 8))).take 8) + 2 ^ (i % 8) * (L[i]).toNat ∧ (((L.take i).drop (8 * (i / 8))).take 8).length = i % 8 := by
  have hl : (((L.take i).drop (8 * (i / 8))).take 8).length = i % 8 := by simp; omega
  refine ⟨?_, hl⟩
  rw [List.take_succ_eq_append_getElem hi, List.drop_append_of_le_length (by simp; omega)]
  rw [List.take_of_length_le (by simp; omega), ← List.take_of_length_le (l := (L.take i).drop (8 * (i / 8))) (i := 8) (by simp; omega), num_snoc, hl, List.take_take, Nat.min_self]
theorem accB_next (L : List Bool) (i : Nat) (hi : i < L.length) (z : Int) (hz : z = (num (((L.take i).drop (8 * (i / 8))).take 8) : Int)) : accB L (i + 1) = (accB L i).set (i / 8) (z + ((2 ^ (i % 8) * (L[i]).toNat : Nat) : Int)) := by
  apply List.ext_getElem?
  intro j
  by_cases h : j < (L.length + 7) / 8
  · rw [accB_get _ _ _ h]
    by_cases hj : j = i / 8
    · subst hj
      rw [List.getElem?_set_self (by rw [accB_len]; exact h), (piece_next L i hi).1, hz]
      simp
    · rw [List.getElem?_set_ne (by omega), accB_get _ _ _ h, piece_same L i j hi hj]
  · rw [List.getElem?_eq_none (by rw [accB_len]; omega), List.getElem?_eq_none (by rw [List.length_set, accB_len]; omega)]
theorem accB_same (L : List Bool) (i : Nat) (hi : i < L.length) (hb : L[i] = false) : accB L (i + 1) = accB L i := by
  apply List.ext_getElem?
  intro j
  by_cases h : j < (L.length + 7) / 8
  · rw [accB_get _ _ _ h, accB_get _ _ _ h]
    by_cases hj : j = i / 8
    · subst hj
      rw [(piece_next L i hi).1, hb]
      simp
    · rw [piece_same L i j hi hj]
  · rw [List.getElem?_eq_none (by rw [accB_len]; omega), List.getElem?_eq_none (by rw [accB_len]; omega)]
theorem add_bit8 {z r : Nat} (hz : z < 2 ^ r) (hr : r < 8) : IntKind.u8.wrap ((z : Int) + IntKind.u8.wrap (2 ^ r)) = ((z + 2 ^ r : Nat) : Int) ∧ ((z : Int) + 2 ^ r) % 256 = ((z + 2 ^ r : Nat) : Int) := by
  have h1 : 2 ^ r ≤ 2 ^ 7 := Nat.pow_le_pow_right (by decide) (by omega)
  rw [show (2 : Int) ^ r = ((2 ^ r : Nat) : Int) by simp]
  generalize 2 ^ r = p at *
  rw [IntKind.wrap_u8, IntKind.wrap_u8]
  constructor <;> omega

theorem info_u8y : (Tryd.prog.info? 5).map (fun i => (i.zero, i.size, i.bytes)) = some (some (.int .u8 0), 1, 1) := by kernel_rfl
theorem made_noughts (n : Nat) : madeCells #[.int .u8 0] n = ((List.replicate n (0 : Int)).map (Value.int .u8)).toArray := by
  apply Array.toList_inj.1
  rw [toList_madeCells_one]
  simp
theorem run_make_noughts (n : Nat) (h : n ≤ 140737488355328) (w : World) :
    (Instr.makeSlice 22 (.int .i64 (n : Int)) (.int .i64 (n : Int))).run Tryd.prog w = .ok (.slice (some ⟨w.heap.size, 0, none⟩) n n) (w.alloc (.cells ((List.replicate n (0 : Int)).map (Value.int .u8)).toArray 5)) := by
  rw [← made_noughts]
  exact run_make_row' 22 5 (.int .u8 0) 1 Tryd.underlying22 info_u8y rfl .i64 .i64 n (by omega) (by omega) w
theorem made_row (w : World) (zs : List Int) (e : TypeId) (h : zs.length ≤ 140737488355328) : (w.alloc (.cells (zs.map (Value.int .u8)).toArray e)).ownsRow w.heap.size e 1 (.slice (some ⟨w.heap.size, 0, none⟩) zs.length zs.length) zs.length (zs.map (Value.int .u8)) := by
  refine ⟨by simp, .inr ⟨w.heap.size, zs.length, (zs.map (Value.int .u8)).toArray, rfl, Nat.le_refl _, heap_alloc_new w _, Nat.le_refl _, ?_, by simp, ?_⟩⟩
  · unfold maxLen
    omega
  · simp only [Nat.mul_one]
    exact List.take_of_length_le (by simp)

end Go.Proofs.YtmddnmpldmdllaaDoor

namespace Go.Proofs.YtmddnmpldmdllaaDoor
open Go.RowKit
set_option linter.unusedVariables false

/-- Bits that lie somewhere, behind a row. -/
theorem wpList_appB {P : Program} {ops : Array Oper} {rest : List Oper} {o : Oper} {a : Act} {Q : Exit → Act → World → Prop} (hgd : o.guard = none) (s x : Operand) (t : TypeId)
    (ho : o.op = .call { callee := .builtin .append, args := #[s, x], argTypes := #[t, t] })
    (base : Nat) (e : TypeId) (i : TypeInfo) (z : Value) (bytes : Nat) (ht : P.underlying t = some (.slice e)) (hi : P.info? e = some i) (hz : i.zero = some z)
    (hsize : i.size = 1) (hby : i.bytes = bytes) (hzs : z.cells.size = 1)
    {w : World} {ra : Option Addr} {rc : Nat} {n : Nat} {xs : List Value} (hown : w.ownsRow base e 1 (.slice ra n rc) n xs) {ao : Option Addr} {zs : List Bool} {cap : Nat} (hseg : SegB w ao zs) (hnil : ao = none → cap = 0)
    (hs : a.eval s = .slice ra n rc) (hx : a.eval x = .slice ao zs.length cap)
    (h63 : n + zs.length ≤ 140737488355328) (hbytes : (n + zs.length) * bytes ≤ 140737488355328) (hbase : base ≤ w.heap.size)
    (h : ∀ (b : Option Addr) (c : Nat) (w' : World), w'.ownsRow base e 1 (.slice b (n + zs.length) c) (n + zs.length) (xs ++ zs.map Value.bool) → w.grownBy w' (Value.slice ra n rc).ownBlock → Fresh w (.slice ra n rc) (.slice b (n + zs.length) c) → wpList P ops Q rest (a.put o.dst (.slice b (n + zs.length) c)) w') : wpList P ops Q (o :: rest) a w := by
  cases ao with
  | none =>
    have hz : zs = [] := by
      cases zs with
      | nil => rfl
      | cons z r => obtain ⟨b, off, hx, _⟩ := hseg.at_ 0 (by simp); cases hx
    subst hz
    rw [hnil rfl] at hx
    refine wpList_append_own_none hgd s x t ho base e i 1 ht hi _ n xs hs hown hx ?_
    have := h ra rc w (by simpa using hown) (World.grownBy.refl _ _) (fun k hk => .inl hk)
    simpa using this
  | some ad =>
    exact wpList_app hgd s x t ho base e i z bytes ht hi hz hsize hby hzs hown (by simp) (segB_cells hseg) (bools_oneCell _) hs hx h63 hbytes hbase (fun b c w' h1 h2 h3 _ => h b c w' h1 h2 h3)
theorem RB.set1 {w : World} {b B : Nat} {T : TypeId} {x : Value} {a : Option Addr} {cap : Nat} {L : List Bool} (h : RB w b B T [x] a cap L) (u : Value) : RB (w.setCell ⟨b, 1, none⟩ u) b B T [u] a cap L ∧ Kp (fun j => j = b) w (w.setCell ⟨b, 1, none⟩ u) := by
  have hk : Kp (fun j => j = b) w (w.setCell ⟨b, 1, none⟩ u) := Kp.set (S := fun j => j = b) rfl _
  refine ⟨⟨?_, own_kp h.own hk (fun j e1 e2 => h.ne (e2 ▸ e1)), h.ne, Nat.le_trans h.bB hk.size⟩, hk⟩
  have hp : w.heap[b]? = some (.cells #[.slice a L.length cap, x] T (0, 0)) := h.hp
  exact two_set1 hp u
/-- A row that was made anew is laid into the first cell, and a number into the second. -/
theorem RB.renew {w w2 : World} {b B : Nat} {T : TypeId} {x : Value} {a a' : Option Addr} {cap cap' : Nat} {L M : List Bool} {o : Obj} (h : RB w b B T [x] a cap L) (u : Value)
    (hown : w2.ownsRow w.heap.size 4 1 (.slice a' (0 + M.length) cap') (0 + M.length) ([] ++ M.map Value.bool)) (hg : (w.alloc o).grownBy w2 (some w.heap.size)) (hf : Fresh (w.alloc o) (.slice (some ⟨w.heap.size, 0, none⟩) 0 0) (.slice a' (0 + M.length) cap')) :
    RB ((w2.setCell ⟨b, 0, none⟩ (.slice a' M.length cap')).setCell ⟨b, 1, none⟩ u) b B T [u] a' cap' M ∧ Kp (WS b (.slice a L.length cap)) w ((w2.setCell ⟨b, 0, none⟩ (.slice a' M.length cap')).setCell ⟨b, 1, none⟩ u) ∧ Fresh w (.slice a L.length cap) (.slice a' M.length cap') := by
  rw [Nat.zero_add] at hown hf
  have hk : Kp (fun k => (Value.slice a L.length cap).ownBlock = some k) w w2 := by
    have h1 : Kp (fun k => w.heap.size ≤ k) w w2 := (Kp.alloc w o).trans (Kp.grown (S := fun k => w.heap.size ≤ k) hg (by intro i e; cases e; exact Nat.le_refl _)) (fun _ _ e => e)
    exact h1.mono (fun i hi e => by omega)
  have hf2 : Fresh w (.slice a L.length cap) (.slice a' M.length cap') := by
    intro k e
    right
    rcases hf k e with e | e
    · cases e; exact Nat.le_refl _
    · simp at e; omega
  have hs := h.store hk (own_base (by simpa using hown) h.bB) hf2
  have h1 := hs.1.set1 u
  exact ⟨h1.1, hs.2.1.trans h1.2 (fun j _ e => .inl e), hf2⟩

end Go.Proofs.YtmddnmpldmdllaaDoor

namespace Go.Proofs.YtmddnmpldmdllaaDoor
open Go.RowKit
set_option linter.unusedVariables false

theorem seg_bool1 (w : World) (y : Bool) : SegB (w.alloc (.cells #[.bool y] 4)) (some ⟨w.heap.size, 0, none⟩) [y] := by
  refine ⟨fun i hi => ⟨w.heap.size, 0, rfl, ?_⟩⟩
  simp only [List.length_cons, List.length_nil] at hi
  match i, hi with
  | 0, _ => simp
theorem and_oneI (v : Nat) : bits .and .i64 (v : Int) 1 = ((v % 2 : Nat) : Int) := by
  have h1 : (BitVec.ofInt 64 1).toNat = 2 ^ 1 - 1 := by decide
  have key : (BitVec.ofInt 64 (v : Int) &&& BitVec.ofInt 64 1).toNat = ((v : Int) % ((2 ^ 64 : Nat) : Int)).toNat % 2 ^ 1 := by
    rw [BitVec.toNat_and, BitVec.toNat_ofInt, h1, Nat.and_two_pow_sub_one_eq_mod]
  show IntKind.i64.wrap ((BitVec.ofInt 64 (v : Int) &&& BitVec.ofInt 64 1).toNat : Nat) = ((v % 2 : Nat) : Int)
  rw [key, IntKind.wrap_i64]
  omega
theorem costV_in {zs : List Int} {k : Nat} (hk : k < zs.length) : costV zs k = zs.getD k 0 := by
  unfold costV
  rw [if_pos ⟨by omega, by omega⟩, Int.toNat_natCast]
theorem putB_in {zs : List Int} (h : errC zs = 0) {k : Nat} (hk : k < zs.length) : putB zs k = (bN (cd zs k) (ln zs k)).reverse := by
  have hL := (errS_zero (errC_zero h).1)
  have HLN := hL.2.ln k
  unfold putB
  rw [costV_in hk, HLN.1, Int.toNat_natCast]
  by_cases hz : ln zs k = 0
  · rw [if_pos (by omega), hz]; rfl
  · rw [if_neg (by omega)]; rfl
theorem putB_out {zs : List Int} {s : Int} (h : s < 0 ∨ (zs.length : Int) ≤ s) : putB zs s = [] := by
  have h0 : costV zs s = 0 := by unfold costV; rw [if_neg (by omega)]
  unfold putB
  rw [if_pos h0]
theorem putB_cost {zs : List Int} (h : errC zs = 0) (s : Int) : costV zs s = ((putB zs s).length : Int) := by
  by_cases hs : 0 ≤ s ∧ s < zs.length
  · obtain ⟨k, rfl⟩ : ∃ k : Nat, s = k := ⟨s.toNat, by omega⟩
    rw [putB_in h (by omega), rev_len]
    unfold costV
    rw [if_pos hs, Int.toNat_natCast]
    exact ((errS_zero (errC_zero h).1).2.ln k).1
  · rw [putB_out (by omega)]
    unfold costV
    rw [if_neg hs]
    rfl
theorem putB_err {zs : List Int} (h : errC zs = 0) (s : Int) : errP zs s = if (putB zs s).length = 0 then 53 else 0 := by
  unfold errP
  rw [putB_cost h]
  by_cases hz : (putB zs s).length = 0
  · rw [if_pos (by omega), if_pos hz]
  · rw [if_neg (by omega), if_neg hz]
theorem putB_le {zs : List Int} (h : errC zs = 0) (s : Int) : (putB zs s).length ≤ 15 := by
  by_cases hs : 0 ≤ s ∧ s < zs.length
  · obtain ⟨k, rfl⟩ : ∃ k : Nat, s = k := ⟨s.toNat, by omega⟩
    rw [putB_in h (by omega), rev_len]
    exact ((errS_zero (errC_zero h).1).2.ln k).2
  · rw [putB_out (by omega)]
    simp

def EncF (w : World) (zs : List Int) (e : Ending) (w' : World) : Prop := (errC zs = 0 → ∃ b, e = .returned (.tuple #[.pointer (some ⟨b, 0, none⟩), .int .i64 0]) ∧ w.heap.size ≤ b ∧ En w' b w'.heap.size zs ∧ ∀ W, Kp (fun k => k < w.heap.size) w' W → En W b w'.heap.size zs) ∧ (errC zs ≠ 0 → e = .returned (.tuple #[.pointer none, .int .i64 (errC zs)])) ∧ Below w.heap.size w w'
end Go.Proofs.YtmddnmpldmdllaaDoor

namespace Go.Proofs.YtmddnmpldmdllaaDoor
open Go.RowKit
set_option linter.unusedVariables false

theorem seg_lit {w : World} : SegZ (w.alloc (.cells #[.int .i64 2, .int .i64 1, .int .i64 3, .int .i64 3] 3)) (some ⟨w.heap.size, 0, none⟩) [2, 1, 3, 3] := by
  refine ⟨fun i hi => ⟨w.heap.size, 0, rfl, ?_⟩, getD_bdz (by intro z hz; simp at hz; omega)⟩
  simp only [List.length_cons, List.length_nil] at hi
  match i, hi with
  | 0, _ => simp
  | 1, _ => simp
  | 2, _ => simp
  | 3, _ => simp
theorem ex_ok : errC [2, 1, 3, 3] = 0 := by decide
theorem ex_put2 : errP [2, 1, 3, 3] 2 = 0 ∧ putB [2, 1, 3, 3] 2 = [true, true, false] := by decide
theorem ex_put1 : errP [2, 1, 3, 3] 1 = 0 ∧ putB [2, 1, 3, 3] 1 = [false] := by decide
theorem ex_beg2 : Beg [2, 1, 3, 3] (bN 3 8) 2 := by unfold Beg; decide
theorem ex_beg1 : Beg [2, 1, 3, 3] ((bN 3 8).drop 3) 1 := by unfold Beg; decide
theorem toB_three : toB [true, true, false, false] = [3] := by
  rw [toB_eq (by decide)]
  rw [show ([true, true, false, false] : List Bool).drop 8 = [] from by decide, toB_nil]
  decide
theorem ex_lok : LOk [2, 1, 3, 3] := by unfold LOk; decide

end Go.Proofs.YtmddnmpldmdllaaDoor

namespace Go.Proofs.YtmddnmpldmdllaaDoor
open Go.RowKit
set_option linter.unusedVariables false

/-- The bits of symbols, one behind the other. -/
def PB (zs ps : List Int) : List Bool := ps.flatMap (putB zs)
theorem PB_nil (zs : List Int) : PB zs [] = [] := rfl
theorem PB_append (zs ps qs : List Int) : PB zs (ps ++ qs) = PB zs ps ++ PB zs qs := by simp [PB]
theorem PB_snoc (zs ps : List Int) (s : Int) : PB zs (ps ++ [s]) = PB zs ps ++ putB zs s := by rw [PB_append]; simp [PB]
theorem PB_len {zs : List Int} (h : errC zs = 0) : ∀ ps : List Int, (PB zs ps).length ≤ 15 * ps.length
  | [] => by simp [PB]
  | s :: ps => by
    have h1 := PB_len h ps
    have h2 := putB_le h s
    have : PB zs (s :: ps) = putB zs s ++ PB zs ps := by simp [PB]
    rw [this, List.length_append, List.length_cons]
    omega
theorem putB_lenIn {zs : List Int} (h : errC zs = 0) {k : Nat} (hk : k < zs.length) : (putB zs k).length = ln zs k := by rw [putB_in h hk, rev_len]
theorem putB_vB {zs : List Int} (h : errC zs = 0) {k : Nat} (hk : k < zs.length) : vB (putB zs k) (ln zs k) = cd zs k := by
  rw [putB_in h hk]
  unfold vB
  rw [List.take_of_length_le (by rw [rev_len]; exact Nat.le_refl _), List.reverse_reverse, num_bN_lt (cd_small h hk).1]
theorem vB_same {H c : List Bool} {l : Nat} (h : H.take l = c.take l) : vB H l = vB c l := by unfold vB; rw [h]
/-- What is held, and what comes behind it, are the symbol's bits and those behind. -/
theorem held_split {zs P : List Int} {i fed : Nat} {H : List Bool} (hi : i < P.length) (hH : PB zs (P.take i) ++ H = bB ((toB (PB zs P)).take fed)) :
    ∃ Y, H ++ bB ((toB (PB zs P)).drop fed) = putB zs (P.getD i 0) ++ Y := by
  obtain ⟨k, _, hB⟩ := bB_toB (L := PB zs P)
  have h1 : bB (toB (PB zs P)) = PB zs (P.take i) ++ H ++ bB ((toB (PB zs P)).drop fed) := by
    rw [hH, ← bB_append, List.take_append_drop]
  have h2 : PB zs P = PB zs (P.take i) ++ (putB zs (P.getD i 0) ++ PB zs (P.drop (i + 1))) := by
    rw [← List.append_assoc, ← PB_snoc, ← take_snocZ hi, ← PB_append, List.take_append_drop]
  refine ⟨PB zs (P.drop (i + 1)) ++ List.replicate k false, ?_⟩
  rw [hB] at h1
  have h3 : PB zs (P.take i) ++ (H ++ bB ((toB (PB zs P)).drop fed)) = PB zs (P.take i) ++ (putB zs (P.getD i 0) ++ (PB zs (P.drop (i + 1)) ++ List.replicate k false)) := by
    rw [← List.append_assoc, ← h1]
    generalize bB ((toB (PB zs P)).drop fed) = Z at *
    rw [h2]
    simp only [List.append_assoc]
  exact List.append_cancel_left h3
theorem held_beg {zs P : List Int} {i fed k : Nat} {H : List Bool} (hok : errC zs = 0) (hi : i < P.length) (hs : P.getD i 0 = (k : Int)) (hk : k < zs.length) (hk0 : zs.getD k 0 ≠ 0) (hH : PB zs (P.take i) ++ H = bB ((toB (PB zs P)).take fed)) (hl : ln zs k ≤ H.length) :
    Beg zs H k ∧ PB zs (P.take (i + 1)) ++ H.drop (ln zs k) = bB ((toB (PB zs P)).take fed) ∧ (PB zs (P.take (i + 1))).length = (PB zs (P.take i)).length + ln zs k := by
  obtain ⟨Y, hY⟩ := held_split hi hH
  rw [hs] at hY
  have hpl := putB_lenIn hok hk
  have h1 := congrArg (List.take (ln zs k)) hY
  rw [List.take_append_of_le_length hl, List.take_left' hpl] at h1
  have h2 : PB zs (P.take (i + 1)) = PB zs (P.take i) ++ putB zs k := by rw [take_snocZ hi, PB_snoc, hs]
  refine ⟨⟨hk, hk0, hl, ?_⟩, ?_, ?_⟩
  · rw [vB_same (c := putB zs k) (by rw [h1, List.take_of_length_le (by rw [hpl]; exact Nat.le_refl _)]), putB_vB hok hk]
  · rw [h2, ← h1, List.append_assoc, List.take_append_drop, hH]
  · rw [h2, List.length_append, hpl]
theorem held_may {zs P : List Int} {i fed k : Nat} {H : List Bool} (hok : errC zs = 0) (hi : i < P.length) (hs : P.getD i 0 = (k : Int)) (hk : k < zs.length) (hk0 : zs.getD k 0 ≠ 0) (hH : PB zs (P.take i) ++ H = bB ((toB (PB zs P)).take fed)) (hl : H.length < ln zs k) :
    (∀ s, ¬ Beg zs H s) ∧ May zs H ∧ fed < (toB (PB zs P)).length := by
  obtain ⟨Y, hY⟩ := held_split hi hH
  rw [hs] at hY
  have hpl := putB_lenIn hok hk
  have hlok := (errS_zero (errC_zero hok).1).2
  have h1 := congrArg (List.take H.length) hY
  rw [List.take_left' rfl, List.take_append_of_le_length (by omega)] at h1
  have hv : ∀ l, l ≤ H.length → vB H l = cd zs k / 2 ^ (ln zs k - l) := by
    intro l hle
    have e1 : H.take l = (putB zs k).take l := by
      have := congrArg (List.take l) h1
      rw [List.take_take, Nat.min_eq_left hle] at this
      exact this
    rw [vB_same e1, ← vB_div (putB zs k) (a := l) (b := ln zs k) (by omega) (by omega), putB_vB hok hk]
  refine ⟨fun s hb => ?_, ⟨k, hk, hk0, hl, (hv _ (Nat.le_refl _)).symm⟩, ?_⟩
  · obtain ⟨b1, b2, b3, b4⟩ := hb
    rw [hv _ b3] at b4
    have := cd_apart hlok b1 hk b2 (by omega) b4
    subst this
    omega
  · rcases Nat.lt_or_ge fed (toB (PB zs P)).length with h | h
    · exact h
    · exfalso
      rw [List.drop_eq_nil_of_le h] at hY
      have := congrArg List.length hY
      simp only [bB, List.append_nil, List.length_append, hpl] at this
      omega
end Go.Proofs.YtmddnmpldmdllaaDoor

namespace Go.Proofs.YtmddnmpldmdllaaDoor
open Go.RowKit
set_option linter.unusedVariables false

/-! A reader of lengths as a machine: one part at a time. -/
structure S8 where
  nx : Nat
  lit : Nat
  dist : Nat
  told : Nat
  sized : Nat
  sym : Nat
  sz : List Int
  out : List Int
def ini8 : S8 := ⟨0, 0, 0, 0, 0, 0, List.replicate 19 0, []⟩
/-- The counts are there. -/
def cts8 (s : S8) (v : Nat) : S8 := { s with lit := 257 + v % 32, dist := 1 + v / 32 % 32, told := 4 + v / 1024, nx := if 286 < 257 + v % 32 ∨ 30 < 1 + v / 32 % 32 then 5 else 1 }
/-- A size more. -/
def ssz8 (s : S8) (v : Nat) : List Int := s.sz.set (ordL.getD s.sized 0).toNat (v : Int)
def siz8 (s : S8) (v : Nat) : S8 := { s with sz := ssz8 s v, sized := s.sized + 1, nx := if s.sized + 1 = s.told then (if (∀ z ∈ ssz8 s v, z = 0) ∨ errC (ssz8 s v) ≠ 0 then 5 else 2) else s.nx }
/-- What a symbol stands for. -/
def vls8 (s : S8) : Int := if s.sym = 16 then s.out.getLastD 0 else if 16 < s.sym then 0 else (s.sym : Int)
def lay8 (s : S8) (k : Nat) : S8 :=
  if s.lit + s.dist < s.out.length + k then { s with nx := 5 } else
  { s with out := s.out ++ List.replicate k (vls8 s), nx := if s.out.length + k = s.lit + s.dist then (if tld8 errC ((s.out ++ List.replicate k (vls8 s)).take s.lit) ((s.out ++ List.replicate k (vls8 s)).drop s.lit) then 4 else 5) else 2 }
def sym8 (s : S8) (x : Nat) : S8 :=
  if x = 16 ∧ s.out = [] then { s with sym := x, nx := 5 } else if 16 ≤ x then { s with sym := x, nx := 3 } else lay8 { s with sym := x } 1
/-- One part, of the bits that are held; so many bits go. -/
inductive One8 : S8 → List Bool → S8 → Nat → Prop
  | cts {s : S8} {H : List Bool} : s.nx = 0 → 14 ≤ H.length → One8 s H (cts8 s (num (H.take 14))) 14
  | siz {s : S8} {H : List Bool} : s.nx = 1 → 3 ≤ H.length → One8 s H (siz8 s (num (H.take 3))) 3
  | sym {s : S8} {H : List Bool} {x : Nat} : s.nx = 2 → Beg s.sz H x → One8 s H (sym8 s x) (ln s.sz x)
  | bad {s : S8} {H : List Bool} : s.nx = 2 → (∀ x, ¬ Beg s.sz H x) → ¬ May s.sz H → One8 s H { s with nx := 5 } 0
  | mor {s : S8} {H : List Bool} : s.nx = 3 → mor8 s.sym ≤ H.length → One8 s H (lay8 s ((lst8 s.sym).toNat + num (H.take (mor8 s.sym)))) (mor8 s.sym)
/-- It waits for more bits, or it is at its end. -/
def Wait8 (s : S8) (H : List Bool) : Prop := (s.nx = 0 ∧ H.length < 14) ∨ (s.nx = 1 ∧ H.length < 3) ∨ (s.nx = 2 ∧ (∀ x, ¬ Beg s.sz H x) ∧ May s.sz H) ∨ (s.nx = 3 ∧ H.length < mor8 s.sym) ∨ 4 ≤ s.nx
inductive Run8 : S8 → List Bool → S8 → Nat → Prop
  | nil {s : S8} {H : List Bool} : Run8 s H s 0
  | cons {s s1 s2 : S8} {H : List Bool} {n m : Nat} : One8 s H s1 n → Run8 s1 (H.drop n) s2 m → Run8 s H s2 (n + m)
theorem One8.le {s s' : S8} {H : List Bool} {n : Nat} (h : One8 s H s' n) : n ≤ H.length := by
  cases h with
  | cts _ h => exact h
  | siz _ h => exact h
  | sym _ h => exact h.2.2.1
  | bad => omega
  | mor _ h => exact h
theorem Run8.le {s s' : S8} {H : List Bool} {n : Nat} (h : Run8 s H s' n) : n ≤ H.length := by
  induction h with
  | nil => omega
  | cons h _ ih => have := h.le; rw [List.length_drop] at ih; omega
theorem Run8.trans {s s1 s2 : S8} {H : List Bool} {n m : Nat} (h : Run8 s H s1 n) (h2 : Run8 s1 (H.drop n) s2 m) : Run8 s H s2 (n + m) := by
  induction h with
  | nil => simpa using h2
  | cons h _ ih => rw [Nat.add_assoc]; exact .cons h (ih (by rw [List.drop_drop]; exact h2))
theorem vB_app {H : List Bool} (X : List Bool) {n : Nat} (h : n ≤ H.length) : vB (H ++ X) n = vB H n := by
  unfold vB
  rw [List.take_append_of_le_length h]
theorem Beg.app {zs : List Int} {H : List Bool} {x : Nat} (h : Beg zs H x) (X : List Bool) : Beg zs (H ++ X) x :=
  ⟨h.1, h.2.1, by rw [List.length_append]; have := h.2.2.1; omega, by rw [vB_app X h.2.2.1]; exact h.2.2.2⟩
end Go.Proofs.YtmddnmpldmdllaaDoor

namespace Go.Proofs.YtmddnmpldmdllaaDoor
open Go.RowKit
set_option linter.unusedVariables false

theorem num_take_app {H : List Bool} (X : List Bool) {n : Nat} (h : n ≤ H.length) : (H ++ X).take n = H.take n := List.take_append_of_le_length h
theorem none_app8 {zs : List Int} {H : List Bool} (h1 : ∀ x, ¬ Beg zs H x) (h2 : ¬ May zs H) (X : List Bool) : (∀ x, ¬ Beg zs (H ++ X) x) ∧ ¬ May zs (H ++ X) := by
  refine ⟨fun x hb => ?_, ?_⟩
  · by_cases hl : ln zs x ≤ H.length
    · exact h1 x ⟨hb.1, hb.2.1, hl, by rw [← vB_app X hl]; exact hb.2.2.2⟩
    · refine h2 ⟨x, hb.1, hb.2.1, by omega, ?_⟩
      rw [← hb.2.2.2, vB_div (H ++ X) (a := H.length) (by omega) hb.2.2.1, vB_app X (Nat.le_refl _)]
  · rintro ⟨x, a, b, c, d⟩
    rw [List.length_append] at c d
    refine h2 ⟨x, a, b, by omega, ?_⟩
    have e : cd zs x / 2 ^ (ln zs x - H.length) = cd zs x / 2 ^ (ln zs x - (H.length + X.length)) / 2 ^ X.length := by
      rw [Nat.div_div_eq_div_mul, ← Nat.pow_add]
      congr 2
      omega
    rw [e, d, ← vB_app X (Nat.le_refl _), ← vB_div (H ++ X) (a := H.length) (b := H.length + X.length) (by omega) (by simp)]
    congr 2
    omega
theorem One8.app {s s' : S8} {H : List Bool} {n : Nat} (h : One8 s H s' n) (X : List Bool) : One8 s (H ++ X) s' n := by
  cases h with
  | cts h0 h => rw [← num_take_app X h]; exact .cts h0 (by rw [List.length_append]; omega)
  | siz h0 h => rw [← num_take_app X h]; exact .siz h0 (by rw [List.length_append]; omega)
  | sym h0 h => exact .sym h0 (h.app X)
  | bad h0 h1 h2 => exact .bad h0 (none_app8 h1 h2 X).1 (none_app8 h1 h2 X).2
  | mor h0 h => rw [← num_take_app X h]; exact .mor h0 (by rw [List.length_append]; omega)
theorem Run8.app {s s' : S8} {H : List Bool} {n : Nat} (h : Run8 s H s' n) (X : List Bool) : Run8 s (H ++ X) s' n := by
  induction h with
  | nil => exact .nil
  | cons h _ ih => exact .cons (h.app X) (by rw [List.drop_append_of_le_length h.le]; exact ih)
/-- What holds of a reader at every step. -/
structure Ok8 (s : S8) : Prop where
  szl : s.sz.length = 19
  szb : ∀ z ∈ s.sz, 0 ≤ z ∧ z ≤ 7
  ob : ∀ z ∈ s.out, 0 ≤ z ∧ z ≤ 15
  ld : s.lit ≤ 288 ∧ s.dist ≤ 32
  ol : s.out.length ≤ 316
  td : s.sized ≤ 19 ∧ s.told ≤ 19
  at0 : s.nx = 0 → s.sized = 0 ∧ s.out = []
  at1 : s.nx = 1 → s.sized < s.told ∧ 257 ≤ s.lit ∧ s.lit ≤ 286 ∧ s.dist ≤ 30 ∧ s.out = []
  at2 : s.nx = 2 ∨ s.nx = 3 → errC s.sz = 0 ∧ 257 ≤ s.lit ∧ s.lit ≤ 286 ∧ s.dist ≤ 30 ∧ s.out.length < s.lit + s.dist
  at3 : s.nx = 3 → 16 ≤ s.sym ∧ s.sym ≤ 18 ∧ (s.sym = 16 → s.out ≠ [])
  at4 : s.nx = 4 → s.out.length = s.lit + s.dist ∧ tld8 errC (s.out.take s.lit) (s.out.drop s.lit)
  top : s.nx ≤ 5
theorem ini8_ok : Ok8 ini8 := ⟨by simp [ini8], by simp [ini8], by simp [ini8], by simp [ini8], by simp [ini8], by simp [ini8], fun _ => ⟨rfl, rfl⟩, by simp [ini8], by simp [ini8], by simp [ini8], by simp [ini8], by simp [ini8]⟩
theorem One8.det {s a b : S8} {H : List Bool} {n m : Nat} (ok : Ok8 s) (h1 : One8 s H a n) (h2 : One8 s H b m) : a = b ∧ n = m := by
  cases h1 with
  | cts h0 h => cases h2 <;> first | exact ⟨rfl, rfl⟩ | (exfalso; omega)
  | siz h0 h => cases h2 <;> first | exact ⟨rfl, rfl⟩ | (exfalso; omega)
  | mor h0 h => cases h2 <;> first | exact ⟨rfl, rfl⟩ | (exfalso; omega)
  | sym h0 h =>
    cases h2 with
    | sym _ k =>
      have := beg_one (errS_zero (errC_zero (ok.at2 (.inl h0)).1).1).2 h k
      subst this
      exact ⟨rfl, rfl⟩
    | bad _ k _ => exact absurd h (k _)
    | cts k => exfalso; omega
    | siz k => exfalso; omega
    | mor k => exfalso; omega
  | bad h0 h k =>
    cases h2 with
    | sym _ k => exact absurd k (h _)
    | bad => exact ⟨rfl, rfl⟩
    | cts k => exfalso; omega
    | siz k => exfalso; omega
    | mor k => exfalso; omega
theorem One8.wait {s s' : S8} {H : List Bool} {n : Nat} (h : One8 s H s' n) : ¬ Wait8 s H := by
  unfold Wait8
  cases h with
  | cts h0 h => omega
  | siz h0 h => omega
  | mor h0 h => omega
  | sym h0 h =>
    rintro (e | e | e | e | e)
    · omega
    · omega
    · exact e.2.1 _ h
    · omega
    · omega
  | bad h0 h k =>
    rintro (e | e | e | e | e)
    · omega
    · omega
    · exact k e.2.2
    · omega
    · omega
end Go.Proofs.YtmddnmpldmdllaaDoor
