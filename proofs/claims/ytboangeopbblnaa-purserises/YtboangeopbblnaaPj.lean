import Derived.Test.YtboangeopbblnaaPi
import Derived.Test.YtboangeopbblnaaProg
import Derived.Test.YtboangeopbblnaaPe
import Derived.WalkKit
import Derived.WalkSpells
import Derived.BigQuiet
import Derived.Deep.QuietTactic
import Derived.WalkLawsBesides
import Derived.Deep.OwnRows
import Derived.Laws.BitsAllLaws
import Derived.Laws.ShiftsVarLaws
import Derived.Test.YtboangeopbblnaaPc
import Derived.Deep.RegionHeld3
import Derived.Deep.AppendLies
import Derived.Deep.RegionLaw
import Derived.Deep.SlicePairs
namespace Go.Proofs.Ytboangeopbblnaa
open Go.RowKit
set_option linter.unusedVariables false
def errR (zs : List Int) : Int := if 32768 < spc zs then 51 else if spc zs = 32768 ∨ tot zs = 0 ∨ (tot zs = 1 ∧ cC zs 1 = 1) then 0 else 52
def errC (zs : List Int) : Int := if errS zs = 0 then errR zs else errS zs
end Go.Proofs.Ytboangeopbblnaa

namespace Go.Proofs.Ytboangeopbblnaa
open Go.RowKit
set_option linter.unusedVariables false
/-- Each symbol's code. -/
def cds (zs : List Int) : List Int := (List.range zs.length).map fun s => (cd zs s : Int)
theorem cd_nxt {zs : List Int} {j z : Nat} (h : zs.getD j 0 = (z : Int)) (h0 : 0 < z) : (cd zs j : Int) = (cF zs z : Int) + (cC (zs.take j) z : Int) := by
  unfold cd ln rk
  rw [h, if_neg (by omega), cC_pos _ h0, Int.toNat_natCast]
  omega
end Go.Proofs.Ytboangeopbblnaa

namespace Go.Proofs.Ytboangeopbblnaa
open Go.RowKit
set_option linter.unusedVariables false
theorem pow_le_64 {k : Nat} (h : k ≤ 64) : 2 ^ k ≤ 18446744073709551616 := Nat.pow_le_pow_right (n := 2) (j := 64) (by decide) h
/-- How many bits a Flip turns. -/
def cnt (n : Int) : Nat := (min n 64).toNat
end Go.Proofs.Ytboangeopbblnaa

namespace Go.Proofs.Ytboangeopbblnaa
open Go.RowKit
set_option linter.unusedVariables false
/-- A Writer in a block of its own: full bytes in a row of its own, and bits behind them. -/
structure Wr (w : World) (b B : Nat) (a : Option Addr) (cap : Nat) (ws : List Int) (r c : Nat) : Prop where
  hp : w.heap[b]? = some (.cells #[.slice a ws.length cap, .int .u64 (r : Int), .int .i64 (c : Int)] 179 (0, 0))
  own : w.ownsRow B 5 1 (.slice a ws.length cap) ws.length (ws.map (Value.int .u8))
  nil : ws = [] → a = none
  bd : ∀ z ∈ ws, 0 ≤ z ∧ z ≤ 255
  ne : (Value.slice a ws.length cap).ownBlock ≠ some b
  bB : B ≤ w.heap.size
  lt : r < 2 ^ c
theorem Wr.b_lt {w : World} {b B : Nat} {a : Option Addr} {cap : Nat} {ws : List Int} {r c : Nat} (h : Wr w b B a cap ws r c) : b < w.heap.size := (Array.getElem?_eq_some_iff.1 h.hp).1
theorem Wr.kp {w w' : World} {b B : Nat} {a : Option Addr} {cap : Nat} {ws : List Int} {r c : Nat} {S : Nat → Prop} (h : Wr w b B a cap ws r c) (hk : Kp S w w') (h1 : ¬ S b) (h2 : ∀ k, (Value.slice a ws.length cap).ownBlock = some k → ¬ S k) : Wr w' b B a cap ws r c :=
  ⟨hk.heap h.hp h1, own_kp h.own hk h2, h.nil, h.bd, h.ne, Nat.le_trans h.bB hk.size, h.lt⟩

def cellN (w : World) (b i : Nat) : Nat := (intOf ((w.cell? ⟨b, i, none⟩).getD (.int .i64 0))).toNat
/-- The blocks of a Writer. -/
def WS (b : Nat) (v : Value) : Nat → Prop := fun k => k = b ∨ v.ownBlock = some k

theorem Fresh.trans {w wr : World} {v v1 v2 : Value} (h : Fresh w v v1) (k : Fresh wr v1 v2) (hs : w.heap.size ≤ wr.heap.size) : Fresh w v v2 := by
  intro j e
  rcases k j e with e | e
  · exact h j e
  · exact .inr (by omega)
end Go.Proofs.Ytboangeopbblnaa

namespace Go.Proofs.Ytboangeopbblnaa
open Go.RowKit
set_option linter.unusedVariables false
/-- A Writer that has these bits; v: its row. -/
def WrL (w : World) (b B : Nat) (v : Value) (L : List Bool) : Prop := ∃ a cap ws r c, v = .slice a ws.length cap ∧ Wr w b B a cap ws r c ∧ c < 8 ∧ L = bB ws ++ bN r c
theorem WrL.kp {w w' : World} {b B : Nat} {v : Value} {L : List Bool} {S : Nat → Prop} (h : WrL w b B v L) (hk : Kp S w w') (h1 : ¬ S b) (h2 : ∀ k, v.ownBlock = some k → ¬ S k) : WrL w' b B v L := by
  obtain ⟨a, cap, ws, r, c, rfl, h, r⟩ := h
  exact ⟨a, cap, ws, _, c, rfl, h.kp hk h1 h2, r⟩
theorem WrL.b_lt {w : World} {b B : Nat} {v : Value} {L : List Bool} (h : WrL w b B v L) : b < w.heap.size := by
  obtain ⟨a, cap, ws, r, c, rfl, h, r⟩ := h
  exact h.b_lt
theorem WrL.own_lt {w : World} {b B : Nat} {v : Value} {L : List Bool} (h : WrL w b B v L) : ∀ k, v.ownBlock = some k → B ≤ k ∧ k < w.heap.size ∧ k ≠ b := by
  obtain ⟨a, cap, ws, r, c, rfl, h, r⟩ := h
  intro k e
  exact ⟨(h.own.lt k e).1, (h.own.lt k e).2, fun e2 => h.ne (e2 ▸ e)⟩
end Go.Proofs.Ytboangeopbblnaa

namespace Go.Proofs.Ytboangeopbblnaa
open Go.RowKit
set_option linter.unusedVariables false
/-- An encoder of these lengths, all of it below block N. -/
structure En (w : World) (b N : Nat) (zs : List Int) : Prop where
  ok : errC zs = 0
  lt : b < N
  row : ∃ la lc ca cc, w.heap[b]? = some (.cells #[.bool true, .slice la zs.length lc, .slice ca zs.length cc] 179 (0, 0)) ∧ SegZ w la zs ∧ SegZ w ca (cds zs) ∧ (∀ x, la = some x → x.block < N) ∧ (∀ x, ca = some x → x.block < N)
theorem En.old {w w' : World} {b N : Nat} {zs : List Int} (h : En w b N zs) (hb : Below N w w') : En w' b N zs := by
  obtain ⟨la, lc, ca, cc, h1, h2, h3, h4, h5⟩ := h.row
  refine ⟨h.ok, h.lt, la, lc, ca, cc, (hb.block b h.lt).trans h1, ?_, ?_, h4, h5⟩
  · exact h2.of_cells fun b' off i v _ ha hc => by
      have := h4 _ ha
      exact (hb.cell (p := ⟨b', off + i, none⟩) this).trans hc
  · exact h3.of_cells fun b' off i v _ ha hc => by
      have := h5 _ ha
      exact (hb.cell (p := ⟨b', off + i, none⟩) this).trans hc
end Go.Proofs.Ytboangeopbblnaa

namespace Go.Proofs.Ytboangeopbblnaa
open Go.RowKit
set_option linter.unusedVariables false
theorem En.cells {w : World} {b N : Nat} {zs : List Int} (h : En w b N zs) : ∃ la lc ca cc, w.cell? ⟨b, 0, none⟩ = some (.bool true) ∧ w.cell? ⟨b, 1, none⟩ = some (.slice la zs.length lc) ∧ w.cell? ⟨b, 2, none⟩ = some (.slice ca zs.length cc) ∧ SegZ w la zs ∧ SegZ w ca (cds zs) := by
  obtain ⟨la, lc, ca, cc, h1, h2, h3, _, _⟩ := h.row
  exact ⟨la, lc, ca, cc, three_cell0 h1, three_cell1 h1, three_cell2 h1, h2, h3⟩

end Go.Proofs.Ytboangeopbblnaa

namespace Go.Proofs.Ytboangeopbblnaa
open Go.RowKit
set_option linter.unusedVariables false
/-- What a decoder's block holds. -/
def tbl (zs S : List Int) : List Int := cnts zs ++ S ++ [(tot zs : Int)]
def dl (most : Int) (zs S : List Int) : List Int := most :: tbl zs S
def Z288 : List Int := List.replicate 288 0
theorem Z288_len : Z288.length = 288 := List.length_replicate ..
theorem built_dec (n : Int) : (Try.prog.built 121 [(0, Value.int .i64 n)]).getD #[] = arr (dl n [] Z288) := by kernel_rfl
theorem tbl_len {zs S : List Int} (h : S.length = 288) : (tbl zs S).length = 305 := by simp [tbl, cnts_len, h]
set_option maxRecDepth 100000 in
set_option maxHeartbeats 1000000 in
theorem newDec_any (n : Nat) (h1 : 1 ≤ n) (h2 : n ≤ 288) (w : World) :
    Calls Try.prog 48 #[.int .i64 (n : Int)] w fun e w' => e = .returned (.tuple #[.pointer (some ⟨w.heap.size, 0, none⟩), .int .i64 0]) ∧ w' = w.alloc (.cells (arr (dl n [] Z288)) 121) := by
  have h1i : ¬ (n : Int) < 1 := by omega
  have h2i : ¬ (288 : Int) < (n : Int) := by omega
  go_enter Try.func48, Try.ntmps48
  go_wp2_with (refine wpList_build rfl _ _ rfl (by kernel_rfl) ?_)
  go_ret2
  exact ⟨rfl, by rw [built_dec]⟩
/-- Where each symbol with a code stands. -/
def SymOk (zs S : List Int) (j : Nat) : Prop := ∀ s, s < j → zs.getD s 0 ≠ 0 → S.getD (cS zs (ln zs s) + rk zs s) 0 = (s : Int)
/-- A decoder with room for so many symbols, a code loaded. -/
structure De (w : World) (b most : Nat) (zs : List Int) : Prop where
  ok : errC zs = 0
  mo : 1 ≤ most ∧ most ≤ 288
  row : ∃ S, S.length = 288 ∧ SymOk zs S zs.length ∧ w.heap[b]? = some (.cells (arr (dl most zs S)) 121 (0, 0))
theorem errC_nil : errC [] = 0 := by decide
theorem De.new {w : World} {b n : Nat} (h1 : 1 ≤ n) (h2 : n ≤ 288) (h : w.heap[b]? = some (.cells (arr (dl n [] Z288)) 121 (0, 0))) : De w b n [] :=
  ⟨errC_nil, ⟨h1, h2⟩, Z288, Z288_len, fun s hs => by simp at hs, h⟩
theorem De.lt {w : World} {b n : Nat} {zs : List Int} (h : De w b n zs) : b < w.heap.size := by
  obtain ⟨S, _, _, h⟩ := h.row
  exact (Array.getElem?_eq_some_iff.1 h).1
theorem De.keep {w w' : World} {b n : Nat} {zs : List Int} (h : De w b n zs) (hb : w'.heap[b]? = w.heap[b]?) : De w' b n zs := by
  obtain ⟨S, h1, h2, h3⟩ := h.row
  exact ⟨h.ok, h.mo, S, h1, h2, hb.trans h3⟩

set_option maxRecDepth 100000 in
set_option maxHeartbeats 1000000 in
theorem room_any (b n : Nat) (zs : List Int) (w : World) (h : De w b n zs) :
    Calls Try.prog 51 #[.pointer (some ⟨b, 0, none⟩)] w fun e w' => e = .returned (.int .i64 (8 * (n : Int) + 256)) ∧ w' = w := by
  obtain ⟨S, h1, h2, h3⟩ := h.row
  have c0 := arr_cell h3 (i := 0) (by simp [dl])
  have e0 : (dl n zs S).getD 0 0 = (n : Int) := rfl
  rw [e0] at c0
  have hm := h.mo
  have hn0 : ¬ (n : Int) = 0 := by omega
  clear e0
  go_enter Try.func51, Try.ntmps51
  go_wp2_with fail
  go_ret
  exact ⟨rfl, rfl⟩
end Go.Proofs.Ytboangeopbblnaa
