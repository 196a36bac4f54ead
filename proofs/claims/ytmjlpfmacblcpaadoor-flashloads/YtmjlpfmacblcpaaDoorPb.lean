import Derived.Test.YtmjlpfmacblcpaaDoorPa
import Derived.Lib.SliceRun
import Derived.Lib.MakeNoZero
import Derived.Laws.CopyOwn
import Derived.Laws.MathBits
import Derived.Laws.Externs
namespace Go.Proofs.YtmjlpfmacblcpaaDoor
open Go.RowKit
set_option linter.unusedVariables false
set_option linter.unusedSimpArgs false
theorem info_y21 : (Tryd.prog.info? 5).map (fun i => (i.zero, i.size, i.bytes)) = some (some (.int .u8 0), 1, 1) := by kernel_rfl
theorem size_y21 : (Tryd.prog.info? 5).map (·.size) = some 1 := by kernel_rfl
def sp21 (X : List Int) (off : Nat) (cs : List Int) : List Int := X.take off ++ cs ++ X.drop (off + cs.length)
theorem sp21_len (X : List Int) (off : Nat) (cs : List Int) (h : off + cs.length ≤ X.length) : (sp21 X off cs).length = X.length := by
  simp [sp21]; omega
theorem kp_setRow21 {Q : Nat → Prop} {g : Nat} (hg : Q g) (w : World) (cs : Array Value) : Kp Q w (w.setRow g cs) :=
  ⟨rfl, rfl, rfl, by simp [World.setRow], fun k hk hn => setRow_other w g k cs (fun e => hn (e ▸ hg))⟩
theorem run_copy21 {P : Program} {w : World} (dT sT ty elem : TypeId) (hu : P.underlying dT = some (.slice elem)) (hsz : (P.info? elem).map (·.size) = some 1)
    (dp sp : Option Addr) (dLen dCap sLen sCap : Nat) (g off : Nat) (X : List Int) (t : TypeId) (hg : w.heap[g]? = some (.cells (X.map (Value.int .u8)).toArray t (0, 0))) (cs : List Int) (hn : cs.length = Nat.min sLen dLen)
    (hpos : 0 < cs.length → dp = some ⟨g, off, none⟩ ∧ Seg w sp cs) (hfit : off + cs.length ≤ X.length) :
    ∃ w', (Builtin.copy_ #[dT, sT] ty #[.slice dp dLen dCap, .slice sp sLen sCap]).run P w = .ok (.int .i64 (cs.length : Int)) w' ∧ w'.heap[g]? = some (.cells ((sp21 X off cs).map (Value.int .u8)).toArray t (0, 0)) ∧ Kp (fun k => k = g) w w' := by
  by_cases h0 : cs.length = 0
  · obtain rfl : cs = [] := List.eq_nil_of_length_eq_zero h0
    refine ⟨w, ?_, ?_, Kp.refl _ _⟩
    · exact run_copy_none (P := P) w dT sT ty elem dp sp dLen dCap sLen sCap hu hsz (by simpa using hn.symm)
    · simpa [sp21] using hg
  · obtain ⟨rfl, hs⟩ := hpos (by omega)
    obtain ⟨sg, soff, rfl, _⟩ := hs.at_ 0 (by omega)
    have hrun := run_copy_row P w dT sT ty elem g off dLen dCap ⟨sg, soff, none⟩ sLen sCap _ t (cs.map (Value.int .u8)) hu hsz hg (by simpa using hn) (seg_cells hs) (by simpa using hfit) (ints_oneCell _ _)
    refine ⟨_, by simpa [goInt] using hrun, ?_, kp_setRow21 (Q := fun k => k = g) rfl _ _⟩
    rw [setRow_heap w g _ _ t _ hg]
    simp [splice, sp21, List.map_take, List.map_drop]
/-- copy in a plain region. -/
theorem wpList_copy21 {P : Program} {ops : Array Oper} {rest : List Oper} {o : Oper} {a : Act} {Q : Exit → Act → World → Prop} {w : World} (hgd : o.guard = none) (d s : Operand) (dT sT : TypeId)
    (ho : o.op = .call { callee := .builtin .copy, args := #[d, s], argTypes := #[dT, sT] }) (elem : TypeId) (hu : P.underlying dT = some (.slice elem)) (hsz : (P.info? elem).map (·.size) = some 1)
    {dp sp : Option Addr} {dLen dCap sLen sCap : Nat} (hd : a.eval d = .slice dp dLen dCap) (hs : a.eval s = .slice sp sLen sCap)
    (g off : Nat) (X : List Int) (t : TypeId) (hg : w.heap[g]? = some (.cells (X.map (Value.int .u8)).toArray t (0, 0))) (cs : List Int) (m : Nat) (hm : cs.length = m) (hn : m = Nat.min sLen dLen)
    (hpos : 0 < cs.length → dp = some ⟨g, off, none⟩ ∧ Seg w sp cs) (hfit : off + m ≤ X.length)
    (h : ∀ w', Hid (w'.heap[g]? = some (.cells ((sp21 X off cs).map (Value.int .u8)).toArray t (0, 0))) → Kp (fun k => k = g) w w' → wpList P ops Q rest (a.put o.dst (.int .i64 (m : Int))) w') : wpList P ops Q (o :: rest) a w := by
  subst hm
  obtain ⟨w', hrun, h1, h2⟩ := run_copy21 (P := P) (w := w) dT sT o.type elem hu hsz dp sp dLen dCap sLen sCap g off X t hg cs hn hpos hfit
  refine wpList_plain hgd fun K hK => ?_
  unfold Oper.wp execOp
  simp only [ho, resolve, invoke, builtin, Sem.run_bind, Sem.run_pure, Result.andThen_ok, List.map_toArray, List.map_cons, List.map_nil, hd, hs, hrun]
  exact hK _ _ (h w' h1 h2)
/-- A row of bytes that is known whole, as bytes that lie there. -/
theorem seg_row21 {w : World} {g : Nat} {X : List Int} {t : TypeId} (hg : w.heap[g]? = some (.cells (X.map (Value.int .u8)).toArray t (0, 0))) (hb : ∀ y ∈ X, 0 ≤ y ∧ y ≤ 255) : Seg w (some ⟨g, 0, none⟩) X := by
  refine ⟨fun i hi => ⟨g, 0, rfl, ?_⟩, by decide, getD_bd (by decide) hb⟩
  simp [World.cell?, hg, List.getD, hi]
/-- A Clone of bytes. -/
def Cl21 (w : World) (a : Option Addr) (zs : List Int) (cap : Nat) (N : Nat) : Prop := Seg w a zs ∧ (a = none ∨ ∃ k, a = some ⟨k, 0, none⟩ ∧ N ≤ k ∧ k < w.heap.size) ∧ (a = none → cap = 0) ∧ zs.length ≤ cap
set_option maxRecDepth 100000 in
set_option maxHeartbeats 1000000 in
theorem pcl21 (a : Option Addr) (zs : List Int) (n cap : Nat) (w : World) (hs : Seg w a zs) (hn : Hid (zs.length = n)) (hnil : a = none → cap = 0) (hl : n ≤ 140737488351232) :
    Calls Tryd.prog 67 #[.slice a n cap] w fun e w' => (∃ ra rc, e = .returned (.slice ra n rc) ∧ Cl21 w' ra zs rc w.heap.size) ∧ Below w.heap.size w w' := by
  obtain ⟨i0, hi, hz0, hz1, hz2⟩ := info_parts info_y21
  cases a with
  | none =>
    have h0 : zs = [] := by
      cases zs with
      | nil => rfl
      | cons z r => obtain ⟨b, off, hx, _⟩ := hs.at_ 0 (by simp); cases hx
    subst h0
    obtain rfl : n = 0 := hn.out.symm
    obtain rfl := hnil rfl
    clear hnil hn hs
    have HE := Go.Lib.run_eql_slice_nil (P := Tryd.prog) w 22 5 none 0 0 0 0 Tryd.underlying22
    go_enter Tryd.func67, Tryd.ntmps67
    go_wp2_with fail
    go_ret
    exact ⟨⟨none, 0, rfl, SegK.nil (by decide) _ _, .inl rfl, fun _ => rfl, by simp⟩, Below.refl _ _⟩
  | some ad =>
    have hm0 : (w.alloc (.cells #[] 5)).ownsRow w.heap.size 5 1 (.slice (some ⟨w.heap.size, 0, none⟩) 0 0) 0 [] := World.ownsRow_made w #[] 0 (Nat.le_refl _) (by decide) rfl
    have hb0 : Below w.heap.size w (w.alloc (.cells #[] 5)) := (Below.refl _ _).alloc (Nat.le_refl _) _
    have hs1 := hs.alloc (.cells #[] 5)
    have hmem := hs.mem
    have e0 := hn.out
    subst e0
    clear hn hnil hs
    have HE := fun c => Go.Lib.run_eql_slice_nil (P := Tryd.prog) w 22 5 (some ad) zs.length c 0 0 Tryd.underlying22
    go_enter Tryd.func67, Tryd.ntmps67
    go_wp2_with (first
      | (at_builtin; refine wpList_appS rfl (.tmp 5) (.tmp 6) 22 rfl w.heap.size 5 i0 (.int .u8 0) 1 Tryd.underlying22 hi hz0 hz1 hz2 rfl hm0 hs1 (by intro h; cases h) rfl rfl (by omega) (by omega) (by have := hb0.size; omega) ?_; intro a1 c1 w1 hown1 hg1 hf1 hn1; have hb1 := hb0.trans (below_own hm0 hg1 (by have := hb0.size; omega)); clear hf1 hg1; rw [Nat.zero_add, List.nil_append] at hown1))
    go_ret
    refine ⟨⟨a1, c1, by simp, ?_⟩, hb1⟩
    obtain ⟨-, a', cap', hv, hsg, hx, hcp, -⟩ := own_seg (M := 255) hown1 (by decide) hmem
    simp only [Value.slice.injEq] at hv
    obtain ⟨rfl, -, rfl⟩ := hv
    refine ⟨hsg, ?_, ?_, hcp⟩
    · cases a1 with
      | none => exact .inl rfl
      | some x =>
        obtain ⟨h1, h2, h3, h4⟩ := hx x rfl
        refine .inr ⟨x.block, ?_, h3, h4⟩
        cases x; simp at h1 h2; simp [h1, h2]
    · intro h
      subst h
      rcases hown1.2 with ⟨h1, h2⟩ | ⟨g, cp, cur, hv, _⟩
      · simp at h1; exact h1.2
      · simp at hv
end Go.Proofs.YtmjlpfmacblcpaaDoor

namespace Go.Proofs.YtmjlpfmacblcpaaDoor
open Go.RowKit
set_option linter.unusedVariables false
set_option linter.unusedSimpArgs false
set_option maxRecDepth 100000 in
set_option maxHeartbeats 1000000 in
theorem pmul64_21 (n : Nat) (hn : n ≤ 33554432) (w : World) : Calls Tryd.prog 123 #[.int .u64 1, .int .u64 (n : Int)] w fun e w' => e = .returned (.tuple #[.int .u64 0, .int .u64 (n : Int)]) ∧ w' = w := by
  have a1 : bits .and .u64 1 4294967295 = 1 := by rw [_root_.Go.and_low32 1 (by omega) (by omega)]; rfl
  have a0 : bits .and .u64 0 4294967295 = 0 := by rw [_root_.Go.and_low32 0 (by omega) (by omega)]; rfl
  have an : bits .and .u64 (n : Int) 4294967295 = (n : Int) := by rw [_root_.Go.and_low32 _ (by omega) (by omega)]; omega
  have wn : IntKind.u64.wrap (n : Int) = (n : Int) := IntWalk.u64_in _ (by omega)
  have w0 : IntKind.u64.wrap 0 = 0 := IntWalk.u64_in _ (by omega)
  have qn : (n : Int) / 4294967296 = 0 := by omega
  go_enter Tryd.func123, Tryd.ntmps123
  go_wp2
  go_ret2
  exact ⟨by simp [a1, a0, an, wn, w0, qn], rfl⟩
set_option maxRecDepth 100000 in
set_option maxHeartbeats 1000000 in
theorem pmul21 (n : Nat) (hn : n ≤ 33554432) (w : World) : Calls Tryd.prog 105 #[.int .u64 1, .int .u64 (n : Int)] w fun e w' => e = .returned (.tuple #[.int .u64 0, .int .u64 (n : Int)]) ∧ w' = w := by
  have HM := pmul64_21 n hn
  go_enter Tryd.func105, Tryd.ntmps105
  go_wp2_with fail
  refine (HM _).mono ?_
  rintro e w1 ⟨rfl, hw⟩
  subst hw
  go_wp2_with fail
  go_ret2
  exact ⟨rfl, rfl⟩
theorem digits21 : ∀ (n t : Nat) (L : List Int), ∃ X : List Int, X.length = n ∧ Extern.BytealgMakeNoZero.digits n t (L.map (Value.int .u8)).toArray = ((L ++ X).map (Value.int .u8)).toArray
  | 0, _, L => ⟨[], rfl, by simp [Extern.BytealgMakeNoZero.digits]⟩
  | n + 1, t, L => by
    obtain ⟨X, h1, h2⟩ := digits21 n (t / 256) (L ++ [Int.ofNat (t % 256)])
    refine ⟨Int.ofNat (t % 256) :: X, by simp [h1], ?_⟩
    rw [Extern.BytealgMakeNoZero.digits]
    have e : (L.map (Value.int .u8)).toArray.push (.int .u8 (Int.ofNat (t % 256))) = ((L ++ [Int.ofNat (t % 256)]).map (Value.int .u8)).toArray := by simp
    rw [e, h2]
    simp
/-- The entry MakeNoZero: a new row of some bytes. -/
theorem run_mnz21 (n : Nat) (hn : n ≤ 281474976710656) (w : World) :
    ∃ X : List Int, n ≤ X.length ∧ (callFunc 106 #[.int .i64 (n : Int)]).run Tryd.prog w = .ok (.value (.slice (some ⟨w.heap.size, 0, none⟩) n X.length)) ((w.alloc (.cells (X.map (Value.int .u8)).toArray 5)).drewN 2) := by
  have hdef : Extern.BytealgMakeNoZero.makeNoZero #[3] #[22] #[.int .i64 n] =
      (do
        let .slice elem ← underlying 22 | stuck "bytealg.MakeNoZero: slice type expected"
        if (n : Int) < 0 || (n : Int) > 2 ^ 48 then runtimePanic (.error "makeslice: len out of range")
        let cap ← choose (.appendCap (n : Int).toNat 0 elem)
        askRoom cap
        let bytes ← choose (.extern "internal/bytealg.MakeNoZero.bytes" 0)
        let a ← newRow elem (Extern.BytealgMakeNoZero.digits cap bytes #[])
        pure (.slice (some a) (n : Int).toNat cap)) := rfl
  obtain ⟨X, hX, hd⟩ := digits21 (grownCap w n 0 5) ((Question.extern "internal/bytealg.MakeNoZero.bytes" 0).cut (w.tape (w.drawn + 1) (.extern "internal/bytealg.MakeNoZero.bytes" 0))) []
  refine ⟨X, by rw [hX]; exact grownCap_ge w n 0 _, ?_⟩
  rw [run_callFunc_extern Tryd.func106 (by kernel_rfl) (by kernel_rfl) (by kernel_rfl) (e := Extern.BytealgMakeNoZero.makeNoZero #[3] #[22]) (by kernel_rfl), hdef]
  have h1 : ¬ (n : Int) < 0 := by omega
  have h2 : ¬ (281474976710656 : Int) < (n : Int) := by omega
  simp only [List.map_nil, List.nil_append] at hd
  simp [run_underlying Tryd.underlying22, h1, h2, Question.forced, newRow, Lib.size_digits, grownCap] at hX hd ⊢
  rw [hd]
  simp [hX]
  rfl
/-- copy in a drawn region. -/
theorem step_copy21 {P : Program} {ops : Array Oper} {o : Oper} {a : Act} {w : World} {K : Act → World → Prop} {Q : Exit → Act → World → Prop} {E : Prop} (hgd : o.guard = none) (d s : Operand) (dT sT : TypeId)
    (ho : o.op = .call { callee := .builtin .copy, args := #[d, s], argTypes := #[dT, sT] }) (elem : TypeId) (hu : P.underlying dT = some (.slice elem)) (hsz : (P.info? elem).map (·.size) = some 1)
    {dp sp : Option Addr} {dLen dCap sLen sCap : Nat} (hd : a.eval d = .slice dp dLen dCap) (hs : a.eval s = .slice sp sLen sCap)
    (g off : Nat) (X : List Int) (t : TypeId) (hg : w.heap[g]? = some (.cells (X.map (Value.int .u8)).toArray t (0, 0))) (cs : List Int) (m : Nat) (hm : cs.length = m) (hn : m = Nat.min sLen dLen)
    (hpos : 0 < cs.length → dp = some ⟨g, off, none⟩ ∧ Seg w sp cs) (hfit : off + m ≤ X.length)
    (h : ∀ w', Hid (w'.heap[g]? = some (.cells ((sp21 X off cs).map (Value.int .u8)).toArray t (0, 0))) → Kp (fun k => k = g) w w' → K (a.put o.dst (.int .i64 (m : Int))) w') :
    if Region.wanted o (yielded ops a.tmps) = true then Oper.wp P o a w K Q else E := by
  have hw : Region.wanted o (yielded ops a.tmps) = true := by simp [Region.wanted, hgd]
  rw [if_pos hw]
  subst hm
  obtain ⟨w', hrun, h1, h2⟩ := run_copy21 (P := P) (w := w) dT sT o.type elem hu hsz dp sp dLen dCap sLen sCap g off X t hg cs hn hpos hfit
  unfold Oper.wp
  simp [execOp, ho, resolve, invoke, builtin, hd, hs, hrun, Result.andThen]
  exact h w' h1 h2
end Go.Proofs.YtmjlpfmacblcpaaDoor

namespace Go.Proofs.YtmjlpfmacblcpaaDoor
open Go.RowKit
set_option linter.unusedVariables false
set_option linter.unusedSimpArgs false
/-- Block g begins with the bytes zs. -/
def Rw21 (w : World) (g : Nat) (zs : List Int) : Prop := ∃ X : List Int, w.heap[g]? = some (.cells ((zs ++ X).map (Value.int .u8)).toArray 5 (0, 0))
theorem sp21_app (zs X : List Int) (off : Nat) (cs : List Int) (h : off + cs.length ≤ zs.length) : sp21 (zs ++ X) off cs = sp21 zs off cs ++ X := by
  unfold sp21
  rw [List.take_append_of_le_length (by omega), List.drop_append_of_le_length (by omega)]
  simp
theorem sp21_rep (k m : Nat) (x : Int) (Y : List Int) (h : m ≤ Y.length) : sp21 (List.replicate k x ++ Y) k (List.replicate m x) = List.replicate (k + m) x ++ Y.drop m := by
  unfold sp21
  have e1 : (List.replicate k x ++ Y).take k = List.replicate k x := by rw [List.take_append_of_le_length (by simp)]; simp
  have e2 : (List.replicate k x ++ Y).drop (k + (List.replicate m x).length) = Y.drop m := by
    rw [List.drop_append]
    simp
  rw [e1, e2, ← List.replicate_append_replicate]
theorem seg_rep21 {w : World} {g : Nat} {x : Int} {k m : Nat} {Y : List Int} (hg : w.heap[g]? = some (.cells ((List.replicate k x ++ Y).map (Value.int .u8)).toArray 5 (0, 0))) (hx : 0 ≤ x ∧ x ≤ 255) (hm : m ≤ k) : Seg w (some ⟨g, 0, none⟩) (List.replicate m x) := by
  refine ⟨fun i hi => ⟨g, 0, rfl, ?_⟩, by decide, getD_bd (by decide) (fun y hy => by rw [List.eq_of_mem_replicate hy]; exact hx)⟩
  have hi' : i < m := by simpa using hi
  have hk : i < k := by omega
  simp [World.cell?, hg, List.getD, hi', List.getElem?_append, hk]
def RpI21 (g n T : Nat) (x : Int) (w0 w : World) (k : Nat) : Prop := ∃ Y : List Int, k + Y.length = T ∧ w.heap[g]? = some (.cells ((List.replicate k x ++ Y).map (Value.int .u8)).toArray 5 (0, 0)) ∧ Below g w0 w
theorem RpI21.step {g n T k m : Nat} {x : Int} {w0 w w' : World} {Y : List Int} (hY : k + Y.length = T) (hB : Below g w0 w) (hm : m ≤ Y.length) (h1 : w'.heap[g]? = some (.cells ((sp21 (List.replicate k x ++ Y) k (List.replicate m x)).map (Value.int .u8)).toArray 5 (0, 0))) (h2 : Kp (fun j => j = g) w w') (hg : g ≤ w.heap.size) : RpI21 g n T x w0 w' (k + m) := by
  rw [sp21_rep k m x Y hm] at h1
  exact ⟨Y.drop m, by simp; omega, h1, hB.trans (h2.below (fun i e => by omega) hg)⟩
set_option maxRecDepth 100000 in
set_option maxHeartbeats 4000000 in
theorem prep21 (a : Option Addr) (c n : Nat) (x : Int) (w : World) (hs : Seg w a [x]) (hn : n ≤ 16777216) :
    Calls Tryd.prog 72 #[.slice a 1 c, .int .i64 (n : Int)] w fun e w' => e = .returned (.slice (some ⟨w.heap.size, 0, none⟩) n n) ∧ Rw21 w' w.heap.size (List.replicate n x) ∧ Below w.heap.size w w' := by
  by_cases h0 : n = 0
  · subst h0
    have HB : Below w.heap.size w (w.alloc (.cells #[] 5)) := (Below.refl _ _).alloc (Nat.le_refl _) _
    have HH : (w.alloc (.cells #[] 5)).heap[w.heap.size]? = some (.cells #[] 5 (0, 0)) := heap_alloc_new w _
    go_enter Tryd.func72, Tryd.ntmps72
    go_wp2_with fail
    go_ret
    exact ⟨rfl, ⟨[], by simpa using HH⟩, HB⟩
  · have hx : 0 ≤ x ∧ x ≤ 255 := hs.mem x (by simp)
    obtain ⟨X, hXn, hrun⟩ := run_mnz21 n (by omega) w
    obtain ⟨g, hg⟩ : ∃ g, g = w.heap.size := ⟨_, rfl⟩
    obtain ⟨w1, hw1⟩ : ∃ w1, w1 = (w.alloc (.cells (X.map (Value.int .u8)).toArray 5)).drewN 2 := ⟨_, rfl⟩
    have hh1 : w1.heap[g]? = some (.cells (X.map (Value.int .u8)).toArray 5 (0, 0)) := by rw [hw1, hg]; exact heap_alloc_new w _
    have hb1 : Below g w w1 := by rw [hw1, hg]; exact below_drewN21 ((Below.refl _ _).alloc (Nat.le_refl _) _) _
    have hs1 : Seg w1 a [x] := by rw [hw1]; exact (hs.alloc _).drewN _
    have hsz : g ≤ w1.heap.size := by rw [hg]; exact hb1.size
    rw [← hw1, ← hg] at hrun
    rw [← hg]
    have HM := pmul21 n (by omega)
    have wn : IntKind.u64.wrap (n : Int) = (n : Int) := IntWalk.u64_in _ (by omega)
    have wi : IntKind.i64.wrap (n : Int) = (n : Int) := IntWalk.i64_in _ (by omega)
    have n0 : ¬ (n : Int) = 0 := by omega
    have n0' : ((n : Int) == 0) = false := by simp; omega
    have n1 : ¬ (n : Int) < 0 := by omega
    have n2 : ¬ (9223372036854775807 : Int) < (n : Int) := by omega
    have n3 : (n : Int) ≤ (X.length : Int) := by omega
    have hHg : Hid (g = w.heap.size) := hg
    have hHX : Hid (n ≤ X.length) := hXn
    obtain ⟨XL, hXL⟩ : ∃ XL, XL = X.length := ⟨_, rfl⟩
    rw [← hXL] at hrun n3
    clear hs hg hw1
    go_enter Tryd.func72, Tryd.ntmps72
    go_wp2_with fail
    refine (HM _).mono ?_
    rintro e w2 ⟨rfl, hw⟩
    subst hw
    by_cases hbig : 8192 < n
    · have hb8 : (8192 : Int) < (n : Int) := by omega
      go_wp2_with (first
        | (refine wpList_copy21 rfl (.tmp 58) (.tmp 59) 22 22 rfl 5 Tryd.underlying22 size_y21 rfl rfl g 0 X 5 hh1 [x] 1 rfl (by show 1 = min _ _; omega) (fun _ => ⟨rfl, hs1⟩) (by omega) ?_; intro w3 h3 k3))
      have HI : RpI21 g n X.length x w2 w3 1 := ⟨X.drop 1, by simp; omega, by have e : sp21 X 0 [x] = List.replicate 1 x ++ X.drop 1 := by simp [sp21]
                                                                              rw [← e]; exact h3.out, hb1.trans (k3.below (fun i e => by omega) hsz)⟩
      clear h3 k3 hrun hh1 hs1 hb1 hsz n0' n3 wn wi
      go_loopw [10] (fun tb wr => ∃ k : Nat, 1 ≤ k ∧ k ≤ n ∧ tb = .int .i64 (k : Int) ∧ RpI21 g n X.length x w2 wr k) (fun tb _ => n - (intOf tb).toNat)
      case atStart => exact ⟨1, by omega, by omega, rfl, HI⟩
      case round =>
        obtain ⟨k, hk1, hkn, rfl, hI⟩ := hrel
        obtain ⟨Y, hY, hh, hB⟩ := hI
        have hgs : g ≤ wr.heap.size := Nat.le_of_lt (Array.getElem?_eq_some_iff.1 hh).1
        by_cases hlt : k < n
        · have hlti : (k : Int) < (n : Int) := by omega
          obtain ⟨m, hm⟩ : ∃ m, m = min k 8192 := ⟨_, rfl⟩
          have hmin : (if (8192 : Int) < (k : Int) then (8192 : Int) else (k : Int)) = (m : Int) := by split <;> omega
          have hmn : m ≤ n := by omega
          have hmni : (m : Int) ≤ (n : Int) := by omega
          obtain ⟨q, hq⟩ : ∃ q, q = min m (n - k) := ⟨_, rfl⟩
          have hkq : IntKind.i64.wrap ((k : Int) + (q : Int)) = ((k + q : Nat) : Int) := by rw [IntWalk.i64_in _ (by omega)]; omega
          have hkm : ¬ n = k := by omega
          have HQ : Hid (q = min m (n - k)) := hq
          have HM2 : Hid (m = min k 8192) := hm
          have HY : Hid (k + Y.length = X.length) := hY
          have hqY : q ≤ Y.length := by omega
          have hmk : m ≤ k := by omega
          have hqk : q ≤ k := by omega
          have hq0 : 1 ≤ q := by omega
          have hqn : k + q ≤ n := by omega
          clear hq hm hY HI hXL n1 n2
          go_wp2_with fail
          go_region_held3 (fun _ => True) (trivial)
            (first | (refine step_copy21 rfl (.tmp 70) (.tmp 73) 22 22 rfl 5 Tryd.underlying22 size_y21 rfl rfl g k (List.replicate k x ++ Y) 5 (by exact hh) (List.replicate q x) q (by simp) (by have h1 := HQ.out; have h2 := HM2.out; show q = min _ _; omega) (fun _ => ⟨by first | rfl | (simp; done) | (rw [if_neg hkm]; simp), (seg_rep21 hh hx hqk).drew⟩) (by simp; omega) ?_; intro w4 h4 k4))
          all_goals
            go_wp2_with fail
            go_roundw
            case rel => exact ⟨k + q, by omega, hqn, by go_num, RpI21.step HY.out hB hqY h4.out ⟨k4.os, k4.tape, k4.output, k4.size, k4.block⟩ hgs⟩
            case measure => simp [intOf]; omega
        · obtain rfl : k = n := by omega
          have hlti : ¬ (k : Int) < (k : Int) := by omega
          clear HI hlt
          go_wp2_with fail
          go_ret
          exact ⟨rfl, ⟨Y, hh⟩, hHg.out ▸ hB⟩
    · have hb8 : ¬ (8192 : Int) < (n : Int) := by omega
      go_wp2_with (first
        | (refine wpList_copy21 rfl (.tmp 58) (.tmp 59) 22 22 rfl 5 Tryd.underlying22 size_y21 rfl rfl g 0 X 5 hh1 [x] 1 rfl (by show 1 = min _ _; omega) (fun _ => ⟨rfl, hs1⟩) (by omega) ?_; intro w3 h3 k3))
      have HI : RpI21 g n X.length x w2 w3 1 := ⟨X.drop 1, by simp; omega, by have e : sp21 X 0 [x] = List.replicate 1 x ++ X.drop 1 := by simp [sp21]
                                                                              rw [← e]; exact h3.out, hb1.trans (k3.below (fun i e => by omega) hsz)⟩
      clear h3 k3 hrun hh1 hs1 hb1 hsz n0' n3 wn wi
      go_loopw [10] (fun tb wr => ∃ k : Nat, 1 ≤ k ∧ k ≤ n ∧ tb = .int .i64 (k : Int) ∧ RpI21 g n X.length x w2 wr k) (fun tb _ => n - (intOf tb).toNat)
      case atStart => exact ⟨1, by omega, by omega, rfl, HI⟩
      case round =>
        obtain ⟨k, hk1, hkn, rfl, hI⟩ := hrel
        obtain ⟨Y, hY, hh, hB⟩ := hI
        have hgs : g ≤ wr.heap.size := Nat.le_of_lt (Array.getElem?_eq_some_iff.1 hh).1
        by_cases hlt : k < n
        · have hlti : (k : Int) < (n : Int) := by omega
          obtain ⟨m, hm⟩ : ∃ m, m = min k n := ⟨_, rfl⟩
          have hmin : (if (n : Int) < (k : Int) then (n : Int) else (k : Int)) = (m : Int) := by split <;> omega
          have hmn : m ≤ n := by omega
          have hmni : (m : Int) ≤ (n : Int) := by omega
          obtain ⟨q, hq⟩ : ∃ q, q = min m (n - k) := ⟨_, rfl⟩
          have hkq : IntKind.i64.wrap ((k : Int) + (q : Int)) = ((k + q : Nat) : Int) := by rw [IntWalk.i64_in _ (by omega)]; omega
          have hkm : ¬ n = k := by omega
          have HQ : Hid (q = min m (n - k)) := hq
          have HM2 : Hid (m = min k n) := hm
          have HY : Hid (k + Y.length = X.length) := hY
          have hqY : q ≤ Y.length := by omega
          have hmk : m ≤ k := by omega
          have hqk : q ≤ k := by omega
          have hq0 : 1 ≤ q := by omega
          have hqn : k + q ≤ n := by omega
          clear hq hm hY HI hXL n1 n2
          go_wp2_with fail
          go_region_held3 (fun _ => True) (trivial)
            (first | (refine step_copy21 rfl (.tmp 70) (.tmp 73) 22 22 rfl 5 Tryd.underlying22 size_y21 rfl rfl g k (List.replicate k x ++ Y) 5 (by exact hh) (List.replicate q x) q (by simp) (by have h1 := HQ.out; have h2 := HM2.out; show q = min _ _; omega) (fun _ => ⟨by first | rfl | (simp; done) | (rw [if_neg hkm]; simp), (seg_rep21 hh hx hqk).drew⟩) (by simp; omega) ?_; intro w4 h4 k4))
          all_goals
            go_wp2_with fail
            go_roundw
            case rel => exact ⟨k + q, by omega, hqn, by go_num, RpI21.step HY.out hB hqY h4.out ⟨k4.os, k4.tape, k4.output, k4.size, k4.block⟩ hgs⟩
            case measure => simp [intOf]; omega
        · obtain rfl : k = n := by omega
          have hlti : ¬ (k : Int) < (k : Int) := by omega
          clear HI hlt
          go_wp2_with fail
          go_ret
          exact ⟨rfl, ⟨Y, hh⟩, hHg.out ▸ hB⟩
end Go.Proofs.YtmjlpfmacblcpaaDoor

namespace Go.Proofs.YtmjlpfmacblcpaaDoor
open Go.RowKit Go.Shelf
set_option linter.unusedVariables false
set_option linter.unusedSimpArgs false
theorem kp_set3_21 (w : World) (g : Nat) (x y z : Value) : Kp (fun k => k = g) w (((w.setCell ⟨g, 0, none⟩ x).setCell ⟨g, 1, none⟩ y).setCell ⟨g, 2, none⟩ z) :=
  ((Kp.set (S := fun k => k = g) rfl _).trans (Kp.set (S := fun k => k = g) rfl _) (fun _ _ e => e)).trans (Kp.set (S := fun k => k = g) rfl _) (fun _ _ e => e)
def shv21 (v : Option Value) (x : Int) : Value := v.getD (.agg #[.slice none 0 0, .bool (x == 2), .int .i64 0])
set_option maxRecDepth 100000 in
set_option maxHeartbeats 4000000 in
theorem psht21 (b m c : Nat) (f : Int → Int → Option Value) (x y : Int) (hx : In21 x) (hy : In21 y) (w : World) (c5 : w.cell? ⟨b, 5, none⟩ = some (.map (some m))) (hm : Mv21 w m c f)
    (hv : ∀ v, f x y = some v → ∃ a n cap er wr, v = .agg #[.slice a n cap, .bool er, .int .i64 wr]) :
    Calls Tryd.prog 50 #[.pointer (some ⟨b, 0, none⟩), .agg #[.int .i64 x, .int .i64 y]] w fun e w' => e = .returned (shv21 (f x y) x) ∧ Below w.heap.size w w' := by
  have hlt : b < w.heap.size := World.block_lt_of_cell? w _ c5
  have HL : Hid (∀ W : World, Below w.heap.size w W → (Instr.lookup 91 (.map (some m)) (.agg #[.int .i64 x, .int .i64 y]) true).run Tryd.prog W = .ok (.tuple #[(f x y).getD zs21, .bool (f x y).isSome]) W) := fun W h => (hm.block (h.block m hm.lt)).look hx hy
  have hb1 : Below w.heap.size w ((w.alloc (.cells #[.int .i64 x, .int .i64 y] 98)).alloc (.cells #[.slice none 0 0, .bool false, .int .i64 0] 89)) := ((Below.refl _ _).alloc (Nat.le_refl _) _).alloc (by simp) _
  have HLV : ∃ A N C E R, (f x y).getD zs21 = .agg #[.slice A N C, .bool E, .int .i64 R] := by
    cases hfx : f x y with
    | none => exact ⟨_, _, _, _, _, rfl⟩
    | some v => obtain ⟨a, n, cap, er, wr, rfl⟩ := hv v hfx; exact ⟨_, _, _, _, _, rfl⟩
  obtain ⟨A, N, C, E, R, hA⟩ := HLV
  have HQ : Hid (shv21 (f x y) x = if (f x y).isSome then .agg #[.slice A N C, .bool E, .int .i64 R] else .agg #[.slice none 0 0, .bool (x == 2), .int .i64 0]) := by
    show shv21 (f x y) x = _
    cases hfx : f x y with
    | none => rfl
    | some v => rw [hfx] at hA; simpa [shv21] using hA
  rw [hA] at HL
  rw [HQ.out]
  generalize (f x y).isSome = T at *
  have HX : Hid (∀ W : World, Below w.heap.size w W → (Instr.lookup 91 (.map (some m)) (.agg #[.int .i64 x, .int .i64 y]) true).run Tryd.prog W = .ok (.tuple #[.agg #[.slice A N C, .bool E, .int .i64 R], .bool T]) W) := HL
  clear HL HQ hA hv hm hx hy
  obtain ⟨g, hg⟩ : ∃ g, g = w.heap.size := ⟨_, rfl⟩
  obtain ⟨w1, hw1⟩ : ∃ w1, w1 = (w.alloc (.cells #[.int .i64 x, .int .i64 y] 98)).alloc (.cells #[.slice none 0 0, .bool false, .int .i64 0] 89) := ⟨_, rfl⟩
  have HW : Hid ((w.alloc (.cells #[.int .i64 x, .int .i64 y] 98)).alloc (.cells #[.slice none 0 0, .bool false, .int .i64 0] 89) = w1 ∧ w.heap.size = g) := ⟨hw1.symm, hg.symm⟩
  obtain ⟨u, hu⟩ : ∃ u, u = w1.drew := ⟨_, rfl⟩
  have HU : Hid (w1.drew = u) := hu.symm
  have q0 : w1.heap[g]? = some (.cells #[.int .i64 x, .int .i64 y] 98 (0, 0)) := by rw [hw1, hg, heap_alloc_old _ _ (by simp)]; exact heap_alloc_new w _
  have q1 : w1.heap[g + 1]? = some (.cells #[.slice none 0 0, .bool false, .int .i64 0] 89 (0, 0)) := by
    have e : (w.alloc (.cells #[.int .i64 x, .int .i64 y] 98)).heap.size = g + 1 := by rw [hg]; simp
    rw [hw1, ← e]; exact heap_alloc_new _ _
  have hbu : Below g w u := by rw [hu, hg, hw1]; exact hb1.drew
  have hsz : u.heap.size = g + 2 := by rw [hu, hw1, hg]; simp [World.drew]
  have HX1 : ∀ V : World, Below g w V → V.heap[g]? = some (.cells #[.int .i64 x, .int .i64 y] 98 (0, 0)) → Hid (V.cell? ⟨b, 5, none⟩ = some (.map (some m)) ∧ V.cell? ⟨g, 0, none⟩ = some (.int .i64 x) ∧ V.cell? ⟨g, 1, none⟩ = some (.int .i64 y) ∧ (Instr.lookup 91 (.map (some m)) (.agg #[.int .i64 x, .int .i64 y]) true).run Tryd.prog V = .ok (.tuple #[.agg #[.slice A N C, .bool E, .int .i64 R], .bool T]) V) := fun V hV hq => ⟨(hV.cell (p := ⟨b, 5, none⟩) (by show b < g; omega)).trans c5, two_cell0 hq, two_cell1 hq, HX.out V (by rw [← hg]; exact hV)⟩
  have H1 := HX1 u hbu (by rw [hu]; exact q0)
  obtain ⟨u2, hu2⟩ : ∃ u2, u2 = u.alloc (.cells #[.slice none 0 0, .bool false, .int .i64 0] 89) := ⟨_, rfl⟩
  have hb2 : Below g w u2 := by rw [hu2]; exact hbu.alloc (by omega) _
  have H2 := HX1 u2 hb2 (by rw [hu2, heap_alloc_old _ _ (by omega), hu]; exact q0)
  have HU2 : Hid (u.alloc (.cells #[.slice none 0 0, .bool false, .int .i64 0] 89) = u2) := hu2.symm
  have p2 : u2.heap[g + 2]? = some (.cells #[.slice none 0 0, .bool false, .int .i64 0] 89 (0, 0)) := by rw [hu2, ← hsz]; exact heap_alloc_new _ _
  have c20 := three_cell0 p2
  have c21 := three_cell1 p2
  have c22 := three_cell2 p2
  have f20 := three_free p2 0
  have f21 := three_free p2 1
  have f22 := three_free p2 2
  obtain ⟨g2, hg2⟩ : ∃ g2, g2 = u.heap.size := ⟨_, rfl⟩
  have HG2 : Hid (u.heap.size = g2 ∧ g2 = g + 2) := ⟨hg2.symm, by omega⟩
  rw [← HG2.out.2] at c20 c21 c22 f20 f21 f22 p2
  obtain ⟨u3, hu3⟩ : ∃ u3, u3 = ((u2.setCell ⟨g2, 0, none⟩ (.slice A N C)).setCell ⟨g2, 1, none⟩ (.bool E)).setCell ⟨g2, 2, none⟩ (.int .i64 R) := ⟨_, rfl⟩
  have HU3 : Hid (((u2.setCell ⟨g2, 0, none⟩ (.slice A N C)).setCell ⟨g2, 1, none⟩ (.bool E)).setCell ⟨g2, 2, none⟩ (.int .i64 R) = u3) := hu3.symm
  have p3 : u3.heap[g2]? = some (.cells #[.slice A N C, .bool E, .int .i64 R] 89 (0, 0)) := by rw [hu3]; exact three_set2 (three_set1 (three_set0 p2 _) _) _
  have k3 : Kp (fun k => k = g2) u2 u3 := by
    rw [hu3]
    exact ((Kp.set (S := fun k => k = g2) rfl _).trans (Kp.set (S := fun k => k = g2) rfl _) (fun _ _ e => e)).trans (Kp.set (S := fun k => k = g2) rfl _) (fun _ _ e => e)
  have hb3 : Below g w u3 := hb2.trans (k3.below (fun i e => by have := HG2.out.2; omega) (by have := hb2.size; have := HW.out.2; omega))
  have H3 := HX1 u3 hb3 (by rw [k3.block g (by have := HG2.out.2; have := (Array.getElem?_eq_some_iff.1 p2).1; omega) (by have := HG2.out.2; show ¬ g = g2; omega), ← HU2.out, heap_alloc_old _ _ (by rw [HG2.out.1]; have := HG2.out.2; omega), ← HU.out]; exact q0)
  have q3 : u3.heap[g + 1]? = some (.cells #[.slice none 0 0, .bool false, .int .i64 0] 89 (0, 0)) := by
    rw [k3.block (g + 1) (by have := HG2.out.2; have := (Array.getElem?_eq_some_iff.1 p2).1; omega) (by have := HG2.out.2; show ¬ g + 1 = g2; omega), ← HU2.out, heap_alloc_old _ _ (by rw [HG2.out.1]; have := HG2.out.2; omega), ← HU.out]; exact q1
  have d30 := three_cell0 p3
  have d31 := three_cell1 p3
  have d32 := three_cell2 p3
  have d40 := three_cell0 q3
  have d41 := three_cell1 q3
  have d42 := three_cell2 q3
  have f40 := three_free q3 0
  have f41 := three_free q3 1
  have f42 := three_free q3 2
  have e30 := H3.out.2.1
  clear hw1 hu hg hu2 hg2 HX HX1 hsz hu3 q0 q1
  cases T
  · go_enter Tryd.func50, Tryd.ntmps50
    go_wp2_with fail
    (try rw [HW.out.1])
    (try rw [HW.out.2])
    refine plain_region16 (fun V => V.cell? ⟨b, 5, none⟩ = some (.map (some m)) ∧ V.cell? ⟨g, 0, none⟩ = some (.int .i64 x) ∧ V.cell? ⟨g, 1, none⟩ = some (.int .i64 y) ∧ (Instr.lookup 91 (.map (some m)) (.agg #[.int .i64 x, .int .i64 y]) true).run Tryd.prog V = .ok (.tuple #[.agg #[.slice A N C, .bool E, .int .i64 R], .bool false]) V) 12 (by kernel_rfl) (by rw [HU.out]; exact H1.out) (fun hHeld => ?_)
    rw [HU.out] at hHeld ⊢
    refine wpAnyK_take (i := 0) (v := .pointer (some ⟨b, 0, none⟩)) rfl (by kernel_rfl) (by kernel_rfl) (by kernel_rfl) (by kernel_rfl) (fun _ _ _ h => h) (Or.inl ⟨by rfl, fun w hSw => by go_simp⟩) hHeld ?_
    simp only [List.getElem_toArray, List.getElem_cons_zero, Act.put, List.setIfInBounds_toArray, List.set_cons_zero, List.set_cons_succ]
    refine wpAnyK_take (i := 1) (v := .pointer (some ⟨b, 0, none⟩)) rfl (by kernel_rfl) (by kernel_rfl) (by kernel_rfl) (by kernel_rfl) (fun _ _ _ h => h) (Or.inl ⟨by rfl, fun w hSw => by go_simp⟩) hHeld ?_
    simp only [List.getElem_toArray, List.getElem_cons_zero, List.getElem_cons_succ, Act.put, List.setIfInBounds_toArray, List.set_cons_zero, List.set_cons_succ]
    refine wpAnyK_take (i := 2) (v := .pointer (some ⟨b, 5, none⟩)) rfl (by kernel_rfl) (by kernel_rfl) (by kernel_rfl) (by kernel_rfl) (fun _ _ _ h => h) (Or.inl ⟨by rfl, fun w hSw => by go_simp⟩) hHeld ?_
    simp only [List.getElem_toArray, List.getElem_cons_zero, List.getElem_cons_succ, Act.put, List.setIfInBounds_toArray, List.set_cons_zero, List.set_cons_succ]
    refine wpAnyK_take (i := 3) (v := .map (some m)) rfl (by kernel_rfl) (by kernel_rfl) (by kernel_rfl) (by kernel_rfl) (fun _ _ _ h => h) (Or.inl ⟨by rfl, fun w hSw => by go_simp⟩) hHeld ?_
    simp only [List.getElem_toArray, List.getElem_cons_zero, List.getElem_cons_succ, Act.put, List.setIfInBounds_toArray, List.set_cons_zero, List.set_cons_succ]
    refine wpAnyK_take (i := 4) (v := .agg #[.int .i64 x, .int .i64 y]) rfl (by kernel_rfl) (by kernel_rfl) (by kernel_rfl) (by kernel_rfl) (fun _ _ _ h => h) (Or.inl ⟨by rfl, fun w hSw => by go_simp⟩) hHeld ?_
    simp only [List.getElem_toArray, List.getElem_cons_zero, List.getElem_cons_succ, Act.put, List.setIfInBounds_toArray, List.set_cons_zero, List.set_cons_succ]
    refine wpAnyK_take (i := 5) (v := .tuple #[.agg #[.slice A N C, .bool E, .int .i64 R], .bool false]) rfl (by kernel_rfl) (by kernel_rfl) (by kernel_rfl) (by kernel_rfl) (fun _ _ _ h => h) (Or.inl ⟨by rfl, fun w hSw => by go_simp⟩) hHeld ?_
    simp only [List.getElem_toArray, List.getElem_cons_zero, List.getElem_cons_succ, Act.put, List.setIfInBounds_toArray, List.set_cons_zero, List.set_cons_succ]
    refine wpAnyK_take (i := 6) (v := .tuple #[.agg #[.slice A N C, .bool E, .int .i64 R], .bool false]) rfl (by kernel_rfl) (by kernel_rfl) (by kernel_rfl) (by kernel_rfl) (fun _ _ _ h => h) (Or.inl ⟨by rfl, fun w hSw => by go_simp⟩) hHeld ?_
    simp only [List.getElem_toArray, List.getElem_cons_zero, List.getElem_cons_succ, Act.put, List.setIfInBounds_toArray, List.set_cons_zero, List.set_cons_succ]
    refine wpAnyK_take (i := 7) (v := .agg #[.slice A N C, .bool E, .int .i64 R]) rfl (by kernel_rfl) (by kernel_rfl) (by kernel_rfl) (by kernel_rfl) (fun _ _ _ h => h) (Or.inl ⟨by rfl, fun w hSw => by go_simp⟩) hHeld ?_
    simp only [List.getElem_toArray, List.getElem_cons_zero, List.getElem_cons_succ, Act.put, List.setIfInBounds_toArray, List.set_cons_zero, List.set_cons_succ]
    refine wpAnyK_take (i := 8) (v := .bool false) rfl (by kernel_rfl) (by kernel_rfl) (by kernel_rfl) (by kernel_rfl) (fun _ _ _ h => h) (Or.inl ⟨by rfl, fun w hSw => by go_simp⟩) hHeld ?_
    simp only [List.getElem_toArray, List.getElem_cons_zero, List.getElem_cons_succ, Act.put, List.setIfInBounds_toArray, List.set_cons_zero, List.set_cons_succ]
    refine wpAnyK_one (i := 9) (by kernel_rfl) rfl (fun K hK => ?_)
    (try simp only [List.getElem_toArray, List.getElem_cons_zero, List.getElem_cons_succ, Act.put, List.setIfInBounds_toArray, List.set_cons_zero, List.set_cons_succ])
    go_simp
    rw [HU2.out, HG2.out.1]
    refine hK.out _ _ (fun _ => H2.out) (fun hHeld0 => ?_)
    have hHeld := hHeld0 (by decide)
    clear hHeld0 hK K
    (try simp only [List.getElem_toArray, List.getElem_cons_zero, List.getElem_cons_succ, Act.put, List.setIfInBounds_toArray, List.set_cons_zero, List.set_cons_succ])
    refine wpAnyK_one (i := 10) (by kernel_rfl) rfl (fun K hK => ?_)
    (try simp only [List.getElem_toArray, List.getElem_cons_zero, List.getElem_cons_succ, Act.put, List.setIfInBounds_toArray, List.set_cons_zero, List.set_cons_succ])
    go_simp
    rw [HU3.out]
    refine hK.out _ _ (fun _ => H3.out) (fun hHeld0 => ?_)
    have hHeld := hHeld0 (by decide)
    clear hHeld0 hK K
    (try simp only [List.getElem_toArray, List.getElem_cons_zero, List.getElem_cons_succ, Act.put, List.setIfInBounds_toArray, List.set_cons_zero, List.set_cons_succ])
    refine wpAnyK_take (i := 11) (v := .bool false) rfl (by kernel_rfl) (by kernel_rfl) (by kernel_rfl) (by kernel_rfl) (fun _ _ _ h => h) (Or.inl ⟨by rfl, fun w hSw => by go_simp⟩) hHeld ?_
    simp only [List.getElem_toArray, List.getElem_cons_zero, List.getElem_cons_succ, Act.put, List.setIfInBounds_toArray, List.set_cons_zero, List.set_cons_succ]
    refine wpAnyK_done (by kernel_rfl) ?_ _
    go_wp2_with fail
    have hq := three_set2 (three_set1 (three_set0 q3 (.slice none 0 0)) (.bool (x == 2))) (.int .i64 0)
    refine bodyPost_ret (v := .agg #[.slice none 0 0, .bool (x == 2), .int .i64 0]) (results_cell_row (fn := Tryd.f50) (p := 4) (ty := 89) rfl _ _ (g + 1) _ _ _ _ rfl hq Tryd.underlying89 rfl (by kernel_rfl)) rfl ?_
    refine ⟨rfl, ?_⟩
    rw [HW.out.2]
    exact hb3.trans ((kp_set3_21 u3 (g + 1) _ _ _).below (fun i e => by omega) (by have := hb3.size; have := HW.out.2; omega))
  · go_enter Tryd.func50, Tryd.ntmps50
    go_wp2_with fail
    (try rw [HW.out.1])
    (try rw [HW.out.2])
    refine plain_region16 (fun V => V.cell? ⟨b, 5, none⟩ = some (.map (some m)) ∧ V.cell? ⟨g, 0, none⟩ = some (.int .i64 x) ∧ V.cell? ⟨g, 1, none⟩ = some (.int .i64 y) ∧ (Instr.lookup 91 (.map (some m)) (.agg #[.int .i64 x, .int .i64 y]) true).run Tryd.prog V = .ok (.tuple #[.agg #[.slice A N C, .bool E, .int .i64 R], .bool true]) V) 12 (by kernel_rfl) (by rw [HU.out]; exact H1.out) (fun hHeld => ?_)
    rw [HU.out] at hHeld ⊢
    refine wpAnyK_take (i := 0) (v := .pointer (some ⟨b, 0, none⟩)) rfl (by kernel_rfl) (by kernel_rfl) (by kernel_rfl) (by kernel_rfl) (fun _ _ _ h => h) (Or.inl ⟨by rfl, fun w hSw => by go_simp⟩) hHeld ?_
    simp only [List.getElem_toArray, List.getElem_cons_zero, Act.put, List.setIfInBounds_toArray, List.set_cons_zero, List.set_cons_succ]
    refine wpAnyK_take (i := 1) (v := .pointer (some ⟨b, 0, none⟩)) rfl (by kernel_rfl) (by kernel_rfl) (by kernel_rfl) (by kernel_rfl) (fun _ _ _ h => h) (Or.inl ⟨by rfl, fun w hSw => by go_simp⟩) hHeld ?_
    simp only [List.getElem_toArray, List.getElem_cons_zero, List.getElem_cons_succ, Act.put, List.setIfInBounds_toArray, List.set_cons_zero, List.set_cons_succ]
    refine wpAnyK_take (i := 2) (v := .pointer (some ⟨b, 5, none⟩)) rfl (by kernel_rfl) (by kernel_rfl) (by kernel_rfl) (by kernel_rfl) (fun _ _ _ h => h) (Or.inl ⟨by rfl, fun w hSw => by go_simp⟩) hHeld ?_
    simp only [List.getElem_toArray, List.getElem_cons_zero, List.getElem_cons_succ, Act.put, List.setIfInBounds_toArray, List.set_cons_zero, List.set_cons_succ]
    refine wpAnyK_take (i := 3) (v := .map (some m)) rfl (by kernel_rfl) (by kernel_rfl) (by kernel_rfl) (by kernel_rfl) (fun _ _ _ h => h) (Or.inl ⟨by rfl, fun w hSw => by go_simp⟩) hHeld ?_
    simp only [List.getElem_toArray, List.getElem_cons_zero, List.getElem_cons_succ, Act.put, List.setIfInBounds_toArray, List.set_cons_zero, List.set_cons_succ]
    refine wpAnyK_take (i := 4) (v := .agg #[.int .i64 x, .int .i64 y]) rfl (by kernel_rfl) (by kernel_rfl) (by kernel_rfl) (by kernel_rfl) (fun _ _ _ h => h) (Or.inl ⟨by rfl, fun w hSw => by go_simp⟩) hHeld ?_
    simp only [List.getElem_toArray, List.getElem_cons_zero, List.getElem_cons_succ, Act.put, List.setIfInBounds_toArray, List.set_cons_zero, List.set_cons_succ]
    refine wpAnyK_take (i := 5) (v := .tuple #[.agg #[.slice A N C, .bool E, .int .i64 R], .bool true]) rfl (by kernel_rfl) (by kernel_rfl) (by kernel_rfl) (by kernel_rfl) (fun _ _ _ h => h) (Or.inl ⟨by rfl, fun w hSw => by go_simp⟩) hHeld ?_
    simp only [List.getElem_toArray, List.getElem_cons_zero, List.getElem_cons_succ, Act.put, List.setIfInBounds_toArray, List.set_cons_zero, List.set_cons_succ]
    refine wpAnyK_take (i := 6) (v := .tuple #[.agg #[.slice A N C, .bool E, .int .i64 R], .bool true]) rfl (by kernel_rfl) (by kernel_rfl) (by kernel_rfl) (by kernel_rfl) (fun _ _ _ h => h) (Or.inl ⟨by rfl, fun w hSw => by go_simp⟩) hHeld ?_
    simp only [List.getElem_toArray, List.getElem_cons_zero, List.getElem_cons_succ, Act.put, List.setIfInBounds_toArray, List.set_cons_zero, List.set_cons_succ]
    refine wpAnyK_take (i := 7) (v := .agg #[.slice A N C, .bool E, .int .i64 R]) rfl (by kernel_rfl) (by kernel_rfl) (by kernel_rfl) (by kernel_rfl) (fun _ _ _ h => h) (Or.inl ⟨by rfl, fun w hSw => by go_simp⟩) hHeld ?_
    simp only [List.getElem_toArray, List.getElem_cons_zero, List.getElem_cons_succ, Act.put, List.setIfInBounds_toArray, List.set_cons_zero, List.set_cons_succ]
    refine wpAnyK_take (i := 8) (v := .bool true) rfl (by kernel_rfl) (by kernel_rfl) (by kernel_rfl) (by kernel_rfl) (fun _ _ _ h => h) (Or.inl ⟨by rfl, fun w hSw => by go_simp⟩) hHeld ?_
    simp only [List.getElem_toArray, List.getElem_cons_zero, List.getElem_cons_succ, Act.put, List.setIfInBounds_toArray, List.set_cons_zero, List.set_cons_succ]
    refine wpAnyK_one (i := 9) (by kernel_rfl) rfl (fun K hK => ?_)
    (try simp only [List.getElem_toArray, List.getElem_cons_zero, List.getElem_cons_succ, Act.put, List.setIfInBounds_toArray, List.set_cons_zero, List.set_cons_succ])
    go_simp
    rw [HU2.out, HG2.out.1]
    refine hK.out _ _ (fun _ => H2.out) (fun hHeld0 => ?_)
    have hHeld := hHeld0 (by decide)
    clear hHeld0 hK K
    (try simp only [List.getElem_toArray, List.getElem_cons_zero, List.getElem_cons_succ, Act.put, List.setIfInBounds_toArray, List.set_cons_zero, List.set_cons_succ])
    refine wpAnyK_one (i := 10) (by kernel_rfl) rfl (fun K hK => ?_)
    (try simp only [List.getElem_toArray, List.getElem_cons_zero, List.getElem_cons_succ, Act.put, List.setIfInBounds_toArray, List.set_cons_zero, List.set_cons_succ])
    go_simp
    rw [HU3.out]
    refine hK.out _ _ (fun _ => H3.out) (fun hHeld0 => ?_)
    have hHeld := hHeld0 (by decide)
    clear hHeld0 hK K
    (try simp only [List.getElem_toArray, List.getElem_cons_zero, List.getElem_cons_succ, Act.put, List.setIfInBounds_toArray, List.set_cons_zero, List.set_cons_succ])
    refine wpAnyK_take (i := 11) (v := .bool true) rfl (by kernel_rfl) (by kernel_rfl) (by kernel_rfl) (by kernel_rfl) (fun _ _ _ h => h) (Or.inl ⟨by rfl, fun w hSw => by go_simp⟩) hHeld ?_
    simp only [List.getElem_toArray, List.getElem_cons_zero, List.getElem_cons_succ, Act.put, List.setIfInBounds_toArray, List.set_cons_zero, List.set_cons_succ]
    refine wpAnyK_done (by kernel_rfl) ?_ _
    go_wp2_with fail
    have hq := three_set2 (three_set1 (three_set0 q3 (.slice A N C)) (.bool E)) (.int .i64 R)
    refine bodyPost_ret (v := .agg #[.slice A N C, .bool E, .int .i64 R]) (results_cell_row (fn := Tryd.f50) (p := 4) (ty := 89) rfl _ _ (g + 1) _ _ _ _ rfl hq Tryd.underlying89 rfl (by kernel_rfl)) rfl ?_
    refine ⟨rfl, ?_⟩
    rw [HW.out.2]
    exact hb3.trans ((kp_set3_21 u3 (g + 1) _ _ _).below (fun i e => by omega) (by have := hb3.size; have := HW.out.2; omega))
end Go.Proofs.YtmjlpfmacblcpaaDoor

namespace Go.Proofs.YtmjlpfmacblcpaaDoor
open Go.RowKit Go.Shelf
set_option linter.unusedVariables false
set_option linter.unusedSimpArgs false
def la21 (pg : Nat) (L1 L2 : List Int) : List Int := sp21 (sp21 (List.replicate pg 255) 0 L2) 0 L1
theorem la21_len (pg : Nat) (L1 L2 : List Int) (h1 : L1.length ≤ pg) (h2 : L2.length ≤ pg) : (la21 pg L1 L2).length = pg := by
  unfold la21
  have e : (sp21 (List.replicate pg 255) 0 L2).length = pg := by rw [sp21_len _ _ _ (by simp; omega)]; simp
  rw [sp21_len _ _ _ (by rw [e]; omega), e]
theorem sp21_mem {X cs : List Int} {off : Nat} {z : Int} (h : z ∈ sp21 X off cs) : z ∈ X ∨ z ∈ cs := by
  unfold sp21 at h
  rcases List.mem_append.1 h with h | h
  · rcases List.mem_append.1 h with h | h
    · exact .inl (List.mem_of_mem_take h)
    · exact .inr h
  · exact .inl (List.mem_of_mem_drop h)
theorem la21_bd (pg : Nat) (L1 L2 : List Int) (h1 : ∀ y ∈ L1, 0 ≤ y ∧ y ≤ 255) (h2 : ∀ y ∈ L2, 0 ≤ y ∧ y ≤ 255) : ∀ y ∈ la21 pg L1 L2, 0 ≤ y ∧ y ≤ 255 := by
  intro y hy
  rcases sp21_mem hy with h | h
  · rcases sp21_mem h with h | h
    · rw [List.eq_of_mem_replicate h]; decide
    · exact h2 y h
  · exact h1 y h
set_option maxRecDepth 100000 in
set_option maxHeartbeats 4000000 in
theorem plaid21 (b pg : Nat) (w : World) (c0 : w.cell? ⟨b, 0, none⟩ = some (.int .i64 (pg : Int))) (hpg : pg ≤ 4096) (a1 a2 : Option Addr) (L1 L2 : List Int) (k1 k2 n1 n2 : Nat) (er : Bool) (wr : Int)
    (s1 : Seg w a1 L1) (s2 : Seg w a2 L2) (e1 : Hid (L1.length = n1)) (e2 : Hid (L2.length = n2)) (l1 : n1 ≤ pg) (l2 : n2 ≤ pg) :
    Calls Tryd.prog 95 #[.pointer (some ⟨b, 0, none⟩), .slice a1 n1 k1, .agg #[.slice a2 n2 k2, .bool er, .int .i64 wr]] w fun e w' => (∃ g, e = .returned (.slice (some ⟨g, 0, none⟩) pg pg) ∧ w.heap.size ≤ g ∧ Rw21 w' g (la21 pg L1 L2)) ∧ Below w.heap.size w w' := by
  have hlt : b < w.heap.size := World.block_lt_of_cell? w _ c0
  obtain ⟨w1, hw1⟩ : ∃ w1, w1 = (w.alloc (.cells #[.slice a2 n2 k2, .bool er, .int .i64 wr] 89)).alloc (.cells #[.int .u8 255] 5) := ⟨_, rfl⟩
  have HW : Hid ((w.alloc (.cells #[.slice a2 n2 k2, .bool er, .int .i64 wr] 89)).alloc (.cells #[.int .u8 255] 5) = w1) := hw1.symm
  have hb1 : Below w.heap.size w w1 := by rw [hw1]; exact ((Below.refl _ _).alloc (Nat.le_refl _) _).alloc (by simp) _
  have hsz : w1.heap.size = w.heap.size + 2 := by rw [hw1]; simp
  have q0 : w1.heap[w.heap.size]? = some (.cells #[.slice a2 n2 k2, .bool er, .int .i64 wr] 89 (0, 0)) := by rw [hw1, heap_alloc_old _ _ (by simp)]; exact heap_alloc_new w _
  have q1 : w1.heap[w.heap.size + 1]? = some (.cells #[.int .u8 255] 5 (0, 0)) := by
    have e : (w.alloc (.cells #[.slice a2 n2 k2, .bool er, .int .i64 wr] 89)).heap.size = w.heap.size + 1 := by simp
    rw [hw1, ← e]; exact heap_alloc_new _ _
  have sq : Seg w1 (some ⟨w.heap.size + 1, 0, none⟩) [255] := seg_row21 (X := [255]) (by simpa using q1) (by simp)
  have HR := prep21 (some ⟨w.heap.size + 1, 0, none⟩) 1 pg 255 w1 sq (by omega)
  obtain ⟨g, hg⟩ : ∃ g, g = w1.heap.size := ⟨_, rfl⟩
  have HG : Hid (g = w.heap.size + 2) := by show g = _; omega
  rw [← hg] at HR
  have s1' := s1.old hb1
  have s2' := s2.old hb1
  have z1 : ∀ V : World, Below g w1 V → Seg V a1 L1 := fun V hV => s1'.old (by rw [← hg]; exact hV)
  have z2 : ∀ V : World, Below g w1 V → Seg V a2 L2 := fun V hV => s2'.old (by rw [← hg]; exact hV)
  have z3 : ∀ V : World, Below g w1 V → V.cell? ⟨w.heap.size, 0, none⟩ = some (.slice a2 n2 k2) := fun V hV => three_cell0 ((hV.block _ (by have := HG.out; omega)).trans q0)
  have HZ1 : Hid (∀ V : World, Below g w1 V → Seg V a1 L1) := z1
  have HZ2 : Hid (∀ V : World, Below g w1 V → Seg V a2 L2) := z2
  have HZ3 : Hid (∀ V : World, Below g w1 V → V.cell? ⟨w.heap.size, 0, none⟩ = some (.slice a2 n2 k2)) := z3
  have HB : Hid (Below w.heap.size w w1) := hb1
  have r1 : (sp21 (List.replicate pg 255) 0 L2).length = pg := by rw [sp21_len _ _ _ (by rw [e2.out]; simp; omega)]; simp
  have HR1 : Hid ((sp21 (List.replicate pg 255) 0 L2).length = pg) := r1
  have HGS : Hid (g = w1.heap.size) := hg
  clear z1 z2 z3 s1 s2 s1' s2' sq q0 q1 hw1 hsz hb1 hg r1
  go_enter Tryd.func95, Tryd.ntmps95
  go_wp2_with fail
  rw [HW.out]
  refine HR.mono ?_
  rintro e w2 ⟨rfl, ⟨X, hX⟩, b2⟩
  have z3 := HZ3.out w2 b2
  have z2 := HZ2.out w2 b2
  have HX : Hid (w2.heap[g]? = some (.cells ((List.replicate pg 255 ++ X).map (Value.int .u8)).toArray 5 (0, 0))) := hX
  clear hX HR
  go_wp2_with (first
    | (refine wpList_copy21 rfl (.tmp 15) (.tmp 17) 22 22 rfl 5 Tryd.underlying22 size_y21 rfl rfl g 0 (List.replicate pg 255 ++ X) 5 HX.out L2 n2 e2.out (by show n2 = min _ _; omega) (fun _ => ⟨rfl, z2⟩) (by simp; omega) ?_; intro w3 h3 k3; have b3 : Below g w1 w3 := b2.trans (k3.below (fun i e => by omega) (by have := b2.size; have := HGS.out; omega)); have z1 := HZ1.out w3 b3)
    | (refine wpList_copy21 rfl (.tmp 19) (.tmp 20) 22 22 rfl 5 Tryd.underlying22 size_y21 rfl rfl g 0 (sp21 (List.replicate pg 255 ++ X) 0 L2) 5 h3.out L1 n1 e1.out (by show n1 = min _ _; omega) (fun _ => ⟨rfl, z1⟩) (by rw [sp21_app _ _ _ _ (by rw [e2.out]; simp; omega), List.length_append, HR1.out]; omega) ?_; intro w4 h4 k4; have b4 : Below g w1 w4 := b3.trans (k4.below (fun i e => by omega) (by have := b3.size; have := HGS.out; omega))))
  go_ret
  refine ⟨⟨g, rfl, by have := HG.out; omega, X, ?_⟩, HB.out.trans (b4.mono (by have := HG.out; omega))⟩
  have e := h4.out
  rw [sp21_app _ _ _ _ (by rw [e2.out]; simp; omega), sp21_app _ _ _ _ (by rw [HR1.out, e1.out]; omega)] at e
  exact e
end Go.Proofs.YtmjlpfmacblcpaaDoor
