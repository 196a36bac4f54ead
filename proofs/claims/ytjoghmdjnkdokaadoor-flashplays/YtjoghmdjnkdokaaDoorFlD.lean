
import Derived.Test.YtjoghmdjnkdokaaDoorFlC
import Derived.Laws.MathBits
import Derived.Laws.Externs
namespace Go.Proofs.YtjoghmdjnkdokaaDoor
open Go.RowKit
set_option linter.unusedVariables false
set_option linter.unusedSimpArgs false

/-! bytes.Repeat of one byte. -/
set_option maxRecDepth 100000 in
set_option maxHeartbeats 1000000 in
theorem pmul64_21 (n : Nat) (hn : n ≤ 33554432) (w : World) : Calls Tryd.prog 85 #[.int .u64 1, .int .u64 (n : Int)] w fun e w' => e = .returned (.tuple #[.int .u64 0, .int .u64 (n : Int)]) ∧ w' = w := by
  have a1 : bits .and .u64 1 4294967295 = 1 := by rw [_root_.Go.and_low32 1 (by omega) (by omega)]; rfl
  have a0 : bits .and .u64 0 4294967295 = 0 := by rw [_root_.Go.and_low32 0 (by omega) (by omega)]; rfl
  have an : bits .and .u64 (n : Int) 4294967295 = (n : Int) := by rw [_root_.Go.and_low32 _ (by omega) (by omega)]; omega
  have wn : IntKind.u64.wrap (n : Int) = (n : Int) := IntWalk.u64_in _ (by omega)
  have w0 : IntKind.u64.wrap 0 = 0 := IntWalk.u64_in _ (by omega)
  have qn : (n : Int) / 4294967296 = 0 := by omega
  go_enter Tryd.func85, Tryd.ntmps85
  go_wp2
  go_ret2
  exact ⟨by simp [a1, a0, an, wn, w0, qn], rfl⟩
set_option maxRecDepth 100000 in
set_option maxHeartbeats 1000000 in
theorem pmul21 (n : Nat) (hn : n ≤ 33554432) (w : World) : Calls Tryd.prog 76 #[.int .u64 1, .int .u64 (n : Int)] w fun e w' => e = .returned (.tuple #[.int .u64 0, .int .u64 (n : Int)]) ∧ w' = w := by
  have HM := pmul64_21 n hn
  go_enter Tryd.func76, Tryd.ntmps76
  go_wp2_with fail
  refine (HM _).mono ?_
  rintro e w1 ⟨rfl, hw⟩
  subst hw
  go_wp2_with fail
  go_ret2
  exact ⟨rfl, rfl⟩
theorem digits21 : ∀ (n t : Nat) (L : List Int), ∃ X : List Int, X.length = n ∧ Extern.BytealgMakeNoZero.digits n t (L.map (Value.int .u8)).toArray = ((L ++ X).map (Value.int .u8)).toArray
  | 0, _, L => ⟨[], rfl, by simp [Extern.BytealgMakeNoZero.digits]⟩
  | n + 1, t, L => by
    obtain ⟨X, h1, h2⟩ := digits21 n (t / 256) (L ++ [Int.ofNat (t % 256)])
    refine ⟨Int.ofNat (t % 256) :: X, by simp [h1], ?_⟩
    rw [Extern.BytealgMakeNoZero.digits]
    have e : (L.map (Value.int .u8)).toArray.push (.int .u8 (Int.ofNat (t % 256))) = ((L ++ [Int.ofNat (t % 256)]).map (Value.int .u8)).toArray := by simp
    rw [e, h2]
    simp
/-- The entry MakeNoZero: a new row of some bytes. -/
theorem run_mnz21 (n : Nat) (hn : n ≤ 281474976710656) (w : World) :
    ∃ X : List Int, n ≤ X.length ∧ (callFunc 77 #[.int .i64 (n : Int)]).run Tryd.prog w = .ok (.value (.slice (some ⟨w.heap.size, 0, none⟩) n X.length)) ((w.alloc (.cells (X.map (Value.int .u8)).toArray 5)).drewN 2) := by
  have hdef : Extern.BytealgMakeNoZero.makeNoZero #[3] #[22] #[.int .i64 n] =
      (do
        let .slice elem ← underlying 22 | stuck "bytealg.MakeNoZero: slice type expected"
        if (n : Int) < 0 || (n : Int) > 2 ^ 48 then runtimePanic (.error "makeslice: len out of range")
        let cap ← choose (.appendCap (n : Int).toNat 0 elem)
        askRoom cap
        let bytes ← choose (.extern "internal/bytealg.MakeNoZero.bytes" 0)
        let a ← newRow elem (Extern.BytealgMakeNoZero.digits cap bytes #[])
        pure (.slice (some a) (n : Int).toNat cap)) := rfl
  obtain ⟨X, hX, hd⟩ := digits21 (grownCap w n 0 5) ((Question.extern "internal/bytealg.MakeNoZero.bytes" 0).cut (w.tape (w.drawn + 1) (.extern "internal/bytealg.MakeNoZero.bytes" 0))) []
  refine ⟨X, by rw [hX]; exact grownCap_ge w n 0 _, ?_⟩
  rw [run_callFunc_extern Tryd.func77 (by kernel_rfl) (by kernel_rfl) (by kernel_rfl) (e := Extern.BytealgMakeNoZero.makeNoZero #[3] #[22]) (by kernel_rfl), hdef]
  have h1 : ¬ (n : Int) < 0 := by omega
  have h2 : ¬ (281474976710656 : Int) < (n : Int) := by omega
  simp only [List.map_nil, List.nil_append] at hd
  simp [run_underlying Tryd.underlying22, h1, h2, Question.forced, newRow, Lib.size_digits, grownCap] at hX hd ⊢
  rw [hd]
  simp [hX]
  rfl
/-- copy in a drawn region. -/
theorem step_copy21 {P : Program} {ops : Array Oper} {o : Oper} {a : Act} {w : World} {K : Act → World → Prop} {Q : Exit → Act → World → Prop} {E : Prop} (hgd : o.guard = none) (d s : Operand) (dT sT : TypeId)
    (ho : o.op = .call { callee := .builtin .copy, args := #[d, s], argTypes := #[dT, sT] }) (elem : TypeId) (hu : P.underlying dT = some (.slice elem)) (hsz : (P.info? elem).map (·.size) = some 1)
    {dp sp : Option Addr} {dLen dCap sLen sCap : Nat} (hd : a.eval d = .slice dp dLen dCap) (hs : a.eval s = .slice sp sLen sCap)
    (g off : Nat) (X : List Int) (t : TypeId) (hg : w.heap[g]? = some (.cells (X.map (Value.int .u8)).toArray t (0, 0))) (cs : List Int) (m : Nat) (hm : cs.length = m) (hn : m = Nat.min sLen dLen)
    (hpos : 0 < cs.length → dp = some ⟨g, off, none⟩ ∧ Seg w sp cs) (hfit : off + m ≤ X.length)
    (h : ∀ w', Hid (w'.heap[g]? = some (.cells ((sp21 X off cs).map (Value.int .u8)).toArray t (0, 0))) → Kp (fun k => k = g) w w' → K (a.put o.dst (.int .i64 (m : Int))) w') :
    if Region.wanted o (yielded ops a.tmps) = true then Oper.wp P o a w K Q else E := by
  have hw : Region.wanted o (yielded ops a.tmps) = true := by simp [Region.wanted, hgd]
  rw [if_pos hw]
  subst hm
  obtain ⟨w', hrun, h1, h2⟩ := run_copy21 (P := P) (w := w) dT sT o.type elem hu hsz dp sp dLen dCap sLen sCap g off X t hg cs hn hpos hfit
  unfold Oper.wp
  simp [execOp, ho, resolve, invoke, builtin, hd, hs, hrun, Result.andThen]
  exact h w' h1 h2
end Go.Proofs.YtjoghmdjnkdokaaDoor
