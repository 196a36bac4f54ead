
import Derived.Test.YteboaolflecibaaDoorFlB
import Derived.Test.YteboaolflecibaaDoorLnSeg
import Derived.Lib.SliceRun
import Derived.Lib.MakeNoZero
import Derived.Laws.CopyOwn
namespace Go.Proofs.YteboaolflecibaaDoor
open Go.RowKit
set_option linter.unusedVariables false
set_option linter.unusedSimpArgs false

/-! Bytes copied into a row that is known whole; slices.Clone; bytes.Repeat. -/
theorem info_y21 : (Tryd.prog.info? 5).map (fun i => (i.zero, i.size, i.bytes)) = some (some (.int .u8 0), 1, 1) := by kernel_rfl
theorem size_y21 : (Tryd.prog.info? 5).map (·.size) = some 1 := by kernel_rfl
def sp21 (X : List Int) (off : Nat) (cs : List Int) : List Int := X.take off ++ cs ++ X.drop (off + cs.length)
theorem sp21_len (X : List Int) (off : Nat) (cs : List Int) (h : off + cs.length ≤ X.length) : (sp21 X off cs).length = X.length := by
  simp [sp21]; omega
theorem kp_setRow21 {Q : Nat → Prop} {g : Nat} (hg : Q g) (w : World) (cs : Array Value) : Kp Q w (w.setRow g cs) :=
  ⟨rfl, rfl, rfl, by simp [World.setRow], fun k hk hn => setRow_other w g k cs (fun e => hn (e ▸ hg))⟩
theorem run_copy21 {P : Program} {w : World} (dT sT ty elem : TypeId) (hu : P.underlying dT = some (.slice elem)) (hsz : (P.info? elem).map (·.size) = some 1)
    (dp sp : Option Addr) (dLen dCap sLen sCap : Nat) (g off : Nat) (X : List Int) (t : TypeId) (hg : w.heap[g]? = some (.cells (X.map (Value.int .u8)).toArray t (0, 0))) (cs : List Int) (hn : cs.length = Nat.min sLen dLen)
    (hpos : 0 < cs.length → dp = some ⟨g, off, none⟩ ∧ Seg w sp cs) (hfit : off + cs.length ≤ X.length) :
    ∃ w', (Builtin.copy_ #[dT, sT] ty #[.slice dp dLen dCap, .slice sp sLen sCap]).run P w = .ok (.int .i64 (cs.length : Int)) w' ∧ w'.heap[g]? = some (.cells ((sp21 X off cs).map (Value.int .u8)).toArray t (0, 0)) ∧ Kp (fun k => k = g) w w' := by
  by_cases h0 : cs.length = 0
  · obtain rfl : cs = [] := List.eq_nil_of_length_eq_zero h0
    refine ⟨w, ?_, ?_, Kp.refl _ _⟩
    · exact run_copy_none (P := P) w dT sT ty elem dp sp dLen dCap sLen sCap hu hsz (by simpa using hn.symm)
    · simpa [sp21] using hg
  · obtain ⟨rfl, hs⟩ := hpos (by omega)
    obtain ⟨sg, soff, rfl, _⟩ := hs.at_ 0 (by omega)
    have hrun := run_copy_row P w dT sT ty elem g off dLen dCap ⟨sg, soff, none⟩ sLen sCap _ t (cs.map (Value.int .u8)) hu hsz hg (by simpa using hn) (seg_cells hs) (by simpa using hfit) (ints_oneCell _ _)
    refine ⟨_, by simpa [goInt] using hrun, ?_, kp_setRow21 (Q := fun k => k = g) rfl _ _⟩
    rw [setRow_heap w g _ _ t _ hg]
    simp [splice, sp21, List.map_take, List.map_drop]
/-- copy in a plain region. -/
theorem wpList_copy21 {P : Program} {ops : Array Oper} {rest : List Oper} {o : Oper} {a : Act} {Q : Exit → Act → World → Prop} {w : World} (hgd : o.guard = none) (d s : Operand) (dT sT : TypeId)
    (ho : o.op = .call { callee := .builtin .copy, args := #[d, s], argTypes := #[dT, sT] }) (elem : TypeId) (hu : P.underlying dT = some (.slice elem)) (hsz : (P.info? elem).map (·.size) = some 1)
    {dp sp : Option Addr} {dLen dCap sLen sCap : Nat} (hd : a.eval d = .slice dp dLen dCap) (hs : a.eval s = .slice sp sLen sCap)
    (g off : Nat) (X : List Int) (t : TypeId) (hg : w.heap[g]? = some (.cells (X.map (Value.int .u8)).toArray t (0, 0))) (cs : List Int) (m : Nat) (hm : cs.length = m) (hn : m = Nat.min sLen dLen)
    (hpos : 0 < cs.length → dp = some ⟨g, off, none⟩ ∧ Seg w sp cs) (hfit : off + m ≤ X.length)
    (h : ∀ w', Hid (w'.heap[g]? = some (.cells ((sp21 X off cs).map (Value.int .u8)).toArray t (0, 0))) → Kp (fun k => k = g) w w' → wpList P ops Q rest (a.put o.dst (.int .i64 (m : Int))) w') : wpList P ops Q (o :: rest) a w := by
  subst hm
  obtain ⟨w', hrun, h1, h2⟩ := run_copy21 (P := P) (w := w) dT sT o.type elem hu hsz dp sp dLen dCap sLen sCap g off X t hg cs hn hpos hfit
  refine wpList_plain hgd fun K hK => ?_
  unfold Oper.wp execOp
  simp only [ho, resolve, invoke, builtin, Sem.run_bind, Sem.run_pure, Result.andThen_ok, List.map_toArray, List.map_cons, List.map_nil, hd, hs, hrun]
  exact hK _ _ (h w' h1 h2)
/-- A row of bytes that is known whole, as bytes that lie there. -/
theorem seg_row21 {w : World} {g : Nat} {X : List Int} {t : TypeId} (hg : w.heap[g]? = some (.cells (X.map (Value.int .u8)).toArray t (0, 0))) (hb : ∀ y ∈ X, 0 ≤ y ∧ y ≤ 255) : Seg w (some ⟨g, 0, none⟩) X := by
  refine ⟨fun i hi => ⟨g, 0, rfl, ?_⟩, by decide, getD_bd (by decide) hb⟩
  simp [World.cell?, hg, List.getD, hi]
/-- A Clone of bytes. -/
def Cl21 (w : World) (a : Option Addr) (zs : List Int) (cap : Nat) (N : Nat) : Prop := Seg w a zs ∧ (a = none ∨ ∃ k, a = some ⟨k, 0, none⟩ ∧ N ≤ k ∧ k < w.heap.size) ∧ (a = none → cap = 0) ∧ zs.length ≤ cap
set_option maxRecDepth 100000 in
set_option maxHeartbeats 1000000 in
theorem pcl21 (a : Option Addr) (zs : List Int) (n cap : Nat) (w : World) (hs : Seg w a zs) (hn : Hid (zs.length = n)) (hnil : a = none → cap = 0) (hl : n ≤ 140737488351232) :
    Calls Tryd.prog 56 #[.slice a n cap] w fun e w' => (∃ ra rc, e = .returned (.slice ra n rc) ∧ Cl21 w' ra zs rc w.heap.size) ∧ Below w.heap.size w w' := by
  obtain ⟨i0, hi, hz0, hz1, hz2⟩ := info_parts info_y21
  cases a with
  | none =>
    have h0 : zs = [] := by
      cases zs with
      | nil => rfl
      | cons z r => obtain ⟨b, off, hx, _⟩ := hs.at_ 0 (by simp); cases hx
    subst h0
    obtain rfl : n = 0 := hn.out.symm
    obtain rfl := hnil rfl
    clear hnil hn hs
    have HE := Go.Lib.run_eql_slice_nil (P := Tryd.prog) w 28 5 none 0 0 0 0 Tryd.underlying28
    go_enter Tryd.func56, Tryd.ntmps56
    go_wp2_with fail
    go_ret
    exact ⟨⟨none, 0, rfl, SegK.nil (by decide) _ _, .inl rfl, fun _ => rfl, by simp⟩, Below.refl _ _⟩
  | some ad =>
    have hm0 : (w.alloc (.cells #[] 5)).ownsRow w.heap.size 5 1 (.slice (some ⟨w.heap.size, 0, none⟩) 0 0) 0 [] := World.ownsRow_made w #[] 0 (Nat.le_refl _) (by decide) rfl
    have hb0 : Below w.heap.size w (w.alloc (.cells #[] 5)) := (Below.refl _ _).alloc (Nat.le_refl _) _
    have hs1 := hs.alloc (.cells #[] 5)
    have hmem := hs.mem
    have e0 := hn.out
    subst e0
    clear hn hnil hs
    have HE := fun c => Go.Lib.run_eql_slice_nil (P := Tryd.prog) w 28 5 (some ad) zs.length c 0 0 Tryd.underlying28
    go_enter Tryd.func56, Tryd.ntmps56
    go_wp2_with (first
      | (at_builtin; refine wpList_appS rfl (.tmp 5) (.tmp 6) 28 rfl w.heap.size 5 i0 (.int .u8 0) 1 Tryd.underlying28 hi hz0 hz1 hz2 rfl hm0 hs1 (by intro h; cases h) rfl rfl (by omega) (by omega) (by have := hb0.size; omega) ?_; intro a1 c1 w1 hown1 hg1 hf1 hn1; have hb1 := hb0.trans (below_own hm0 hg1 (by have := hb0.size; omega)); clear hf1 hg1; rw [Nat.zero_add, List.nil_append] at hown1))
    go_ret
    refine ⟨⟨a1, c1, by simp, ?_⟩, hb1⟩
    obtain ⟨-, a', cap', hv, hsg, hx, hcp, -⟩ := own_seg (M := 255) hown1 (by decide) hmem
    simp only [Value.slice.injEq] at hv
    obtain ⟨rfl, -, rfl⟩ := hv
    refine ⟨hsg, ?_, ?_, hcp⟩
    · cases a1 with
      | none => exact .inl rfl
      | some x =>
        obtain ⟨h1, h2, h3, h4⟩ := hx x rfl
        refine .inr ⟨x.block, ?_, h3, h4⟩
        cases x; simp at h1 h2; simp [h1, h2]
    · intro h
      subst h
      rcases hown1.2 with ⟨h1, h2⟩ | ⟨g, cp, cur, hv, _⟩
      · simp at h1; exact h1.2
      · simp at hv
end Go.Proofs.YteboaolflecibaaDoor
