import Derived.RangeFuncNested
import Derived.RangeFuncBound
import Derived.RangeFuncCalls
import Derived.RangeFuncLeaves
import Derived.Shelf.Abstract
import Derived.WalkKit
import Derived.OwnWalkIn
import Derived.TacticsInMore
import Derived.LoopNIn
import Derived.LoopIn
import Derived.Test.YtmpbaabmpcejdaaProg
import Derived.Test.YtmpbaabmpcejdaaTellC
namespace Go.Proofs.Ytmpbaabmpcejdaa
open Go.RowKit Go.Shelf
set_option linter.unusedVariables false
attribute [local go_sem] Oper.semAt_some

theorem decode_is' (a : Option Addr) (zs : List Int) (n cap : Nat) (v m e : Int) (w : World) (hs : Seg w a zs) (hn : zs.length = n) (hl : n ≤ 140737488355328) (hd : decL 0 0 zs = (v, m, e)) :
    Calls Try.prog 21 #[.slice a n cap] w fun x w' => x = .returned (.tuple #[.int .u64 v, .int .i64 m, .int .i64 e]) ∧ Below w.heap.size w w' := by
  subst hn
  have := decode_any a zs cap w hs hl
  rw [hd] at this
  exact this

theorem eql_yield_nil (l : Nat) (W : World) : (binOp .eql 59 (.func (.yield l) #[] #[]) .nilFunc).run Try.prog W = .ok (.bool false) W := by kernel_rfl
theorem eql_all_nil (Bs : Nat) (W : World) : (binOp .eql 50 (.func (.func 35) #[] #[.pointer (some ⟨Bs, 0, none⟩)]) .nilFunc).run Try.prog W = .ok (.bool false) W := by kernel_rfl

/-- Below n₀ nothing has turned, but for one block. -/
structure KeepB (n₀ Bx : Nat) (W W' : World) : Prop where
  size : W.heap.size ≤ W'.heap.size
  block : ∀ k, k < n₀ → k ≠ Bx → W'.heap[k]? = W.heap[k]?
theorem KeepB.trans {n₀ Bx : Nat} {A B C : World} (h : KeepB n₀ Bx A B) (k : KeepB n₀ Bx B C) : KeepB n₀ Bx A C := ⟨Nat.le_trans h.size k.size, fun i hi hn => (k.block i hi hn).trans (h.block i hi hn)⟩
theorem KeepB.of_below {n₀ Bx : Nat} {A B : World} (h : Below n₀ A B) : KeepB n₀ Bx A B := ⟨h.size, fun k hk _ => h.block k hk⟩
theorem KeepB.cell {n₀ Bx : Nat} {A B : World} (h : KeepB n₀ Bx A B) {p : Addr} (hp : p.block < n₀) (hn : p.block ≠ Bx) : B.cell? p = A.cell? p := World.cell?_of_block (w := A) (h.block p.block hp hn)
theorem keepB_b {n₀ Bx : Nat} {w : World} (hn : n₀ ≤ w.heap.size) (W : World) (l : Nat) (o o' : Obj) (hl : w.heap.size ≤ l) (h : W.heap[l]? = some o) (h1 : o.isCells = false) (h2 : o.isWalk = false) : KeepB n₀ Bx W (W.putObj l o') := .of_below (belowK_b hn W l o o' hl h h1 h2)

set_option maxRecDepth 100000 in
set_option maxHeartbeats 2000000 in
theorem tell1_in (n : Nat) (hn : 2 ≤ n) (l Bs n₀ Bx : Nat) (a : Option Addr) (zs : List Int) (cap : Nat) (hl : zs.length ≤ 1048576) (hcap : zs.length ≤ cap) (hlt0 : ∀ b off, a = some ⟨b, off, none⟩ → 0 < zs.length → b < n₀ ∧ b ≠ Bx) (hBn : Bs < n₀) (hBx : Bs ≠ Bx) (J Jx : List (Int × Int) → World → Prop)
    (hJ : ∀ pre W W', J pre W → Below W.heap.size W W' → J pre W')
    (hY : ∀ pre x W, J pre W → pre.length < zs.length → YieldAt Fence.wide (n - 1) Try.prog l #[.int .i64 x.1, .int .u64 x.2] W fun e W' =>
      (e = .returned (.bool true) ∧ J (pre ++ [x]) W' ∧ KeepB n₀ Bx W W') ∨ (e = .returned (.bool false) ∧ Jx (pre ++ [x]) W'))
    (W : World) (hn₀ : n₀ ≤ W.heap.size) (hBs : W.cell? ⟨Bs, 0, none⟩ = some (.slice a zs.length cap)) (hs : Seg W a zs) (h0 : J [] W) :
    CallsIn Fence.wide n Try.prog 35 #[.func (.yield l) #[] #[], .pointer (some ⟨Bs, 0, none⟩)] W fun e W' => (∃ v, e = .returned v) ∧
      ((∃ ys, ys = tells zs ∧ J ys W') ∨ (∃ pre, pre <+: tells zs ∧ Jx pre W')) := by
  refine callsIn_of_wp Try.func35 rfl trivial ?_ rfl
  simp only [Try.ntmps35, List.size_toArray, List.length_cons, List.length_nil, Nat.reduceAdd, Nat.reduceSub, Array.replicate_succ, Array.replicate_zero, List.push_toArray, List.append_toArray, List.nil_append, List.cons_append]
  have hq := eql_yield_nil l
  gi_wp2
  gi_loopw [3] (fun t wr => ∃ (pre : List (Int × Int)) (p : Nat), t = .int .i64 p ∧ Told zs pre p ∧ J pre wr ∧ KeepB n₀ Bx W wr) (fun t _ => zs.length - (intOf t).toNat)
  case atStart => exact ⟨[], 0, rfl, Told.start zs, h0, .of_below (Below.refl _ _)⟩
  case round =>
    obtain ⟨pre, p, rfl, htold, hJs, hb⟩ := hrel
    have hp := htold.le
    have hpl := htold.len
    have hsr : Seg wr a zs := hs.of_cells (fun b off i v hi e hc => (hb.cell (hlt0 b off e (by omega)).1 (hlt0 b off e (by omega)).2).trans hc)
    have hBr : wr.cell? ⟨Bs, 0, none⟩ = some (.slice a zs.length cap) := (hb.cell (p := ⟨Bs, 0, none⟩) hBn hBx).trans hBs
    have hszr := hb.size
    by_cases hlt : p < zs.length
    · have hlti : (p : Int) < (zs.length : Int) := by omega
      have hlc : (p : Int) < (cap : Int) := by omega
      obtain ⟨b, off, rfl, _⟩ := hsr.at_ p hlt
      have hdr := hsr.drop p
      have hdl : (zs.drop p).length = zs.length - p := List.length_drop
      obtain ⟨V, N, E, hD⟩ : ∃ V N E, decL 0 0 (zs.drop p) = (V, N, E) := ⟨_, _, _, rfl⟩
      by_cases hE : E = 0
      · subst hE
        obtain ⟨m, hm1, hm2, rfl, hV0, hV1, _⟩ := decI_ok (zs.drop p) V N (fun z hz' => hs.mem z (List.mem_of_mem_drop hz')) hD
        have hstep := htold.step hm1 hm2 hD
        have HR : Hid (Calls Try.prog 21 #[.slice (some ⟨b, off + p, none⟩) (zs.length - p) (cap - p)] wr fun e w' => e = .returned (.tuple #[.int .u64 V, .int .i64 m, .int .i64 0]) ∧ Below wr.heap.size wr w') := decode_is' _ _ _ _ _ _ _ wr hdr hdl (by omega) hD
        rw [hdl] at hm2
        clear hD hdl
        gi_wp2_with fail
        refine ⟨trivial, fun _ => by omega, ?_⟩
        refine (callsIn_wide.2 HR.out).mono ?_
        rintro e w1 ⟨rfl, hb1⟩
        have hJ1 := hJ pre wr w1 hJs hb1
        have hbn1 := hb1.mono (Nat.le_trans hn₀ hszr)
        obtain ⟨fn, tmps, assign, body, hy, hR⟩ := hY pre ((p : Int), V) w1 hJ1 (by omega)
        dsimp only at hy
        clear hdr hsr HR
        gi_wp2
        refine ⟨fun _ => by omega, ?_⟩
        refine hR.mono ?_
        rintro e W3 (⟨rfl, hJ3, hk3⟩ | ⟨rfl, hJx3⟩)
        · gi_wp2
          go_roundw
          case rel => exact ⟨pre ++ [((p : Int), V)], p + m, by go_num, hstep, hJ3, hb.trans ((KeepB.of_below hbn1).trans hk3)⟩
          case measure => simp [intOf]; omega
        · gi_wp2
          refine bodyPost_ret (results_none rfl _ _ _) rfl ?_
          exact ⟨⟨_, rfl⟩, .inr ⟨pre ++ [((p : Int), V)], hstep.all, hJx3⟩⟩
      · have hstop := htold.stop (by rw [hD]; exact hE)
        have hne : (E != 0) = true := by simp [hE]
        have HR : Hid (Calls Try.prog 21 #[.slice (some ⟨b, off + p, none⟩) (zs.length - p) (cap - p)] wr fun e w' => e = .returned (.tuple #[.int .u64 V, .int .i64 N, .int .i64 E]) ∧ Below wr.heap.size wr w') := decode_is' _ _ _ _ _ _ _ wr hdr hdl (by omega) hD
        have HS : Hid (tells zs = pre) := hstop
        clear hD hdl hstop
        gi_wp2_with fail
        refine ⟨trivial, fun _ => by omega, ?_⟩
        refine (callsIn_wide.2 HR.out).mono ?_
        rintro e w1 ⟨rfl, hb1⟩
        have hJ1 := hJ pre wr w1 hJs hb1
        clear hdr hsr HR
        gi_wp2
        all_goals
          refine ⟨fun _ h => (by cases h), ?_⟩
          gi_wp2
          refine bodyPost_ret (results_none rfl _ _ _) rfl ?_
          exact ⟨⟨_, rfl⟩, .inl ⟨pre, HS.out.symm, hJ1⟩⟩
    · obtain rfl : p = zs.length := by omega
      have hstop := htold.stop (tell_end zs _ (Nat.le_refl _))
      have HS : Hid (tells zs = pre) := hstop
      clear hstop hlt
      gi_wp2
      go_end0
      exact ⟨⟨_, rfl⟩, .inl ⟨pre, HS.out.symm, hJs⟩⟩

/-- The iterator of num.All: it tells what the document tells, whatever the loop's body does elsewhere. -/
theorem tell_stops (n : Nat) (hn : 2 ≤ n) (Bs n₀ Bx : Nat) (a : Option Addr) (zs : List Int) (cap : Nat) (hl : zs.length ≤ 1048576) (hcap : zs.length ≤ cap) (w : World) (hlt0 : ∀ b off, a = some ⟨b, off, none⟩ → 0 < zs.length → b < n₀ ∧ b ≠ Bx) (hBn : Bs < n₀) (hBx : Bs ≠ Bx) (hn₀ : n₀ ≤ w.heap.size)
    (hBs : w.cell? ⟨Bs, 0, none⟩ = some (.slice a zs.length cap)) (hs : Seg w a zs) :
    SeqStopsK Fence.wide n Try.prog 35 #[.pointer (some ⟨Bs, 0, none⟩)] (fun x : Int × Int => #[Value.int .i64 x.1, Value.int .u64 x.2]) (KeepB n₀ Bx) (fun ys => ys = tells zs) (fun pre => pre <+: tells zs) zs.length w := fun l J Jx W hW hJ _ hY h0 => by
  refine tell1_in n hn l Bs n₀ Bx a zs cap hl hcap hlt0 hBn hBx J Jx ?_ hY W (Nat.le_trans hn₀ hW.size) ((hW.cell (p := ⟨Bs, 0, none⟩) (Nat.lt_of_lt_of_le hBn hn₀)).trans hBs) (hs.old hW) h0
  intro pre A B hA hb
  exact hJ pre A B none hA ⟨hb.os, hb.tape, hb.output, hb.size, fun k hk _ => hb.block k hk⟩ (fun r e => by cases e)
end Go.Proofs.Ytmpbaabmpcejdaa
