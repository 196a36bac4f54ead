import Derived.Test.YtmjlpfmacblcpaaDoorPc
import Derived.Test.YtmjlpfmacblcpaaDoorPa
import Derived.Lib.SmallJoins
import Derived.Deep.AppendLies
import Derived.Test.YtmjlpfmacblcpaaDoorProg
import Derived.WalkKit
import Derived.Lib.BitFns
import Derived.Laws.BitsAllLaws
import Derived.WalkSpells
import Derived.WalkLawsBesides
import Derived.Test.YtmjlpfmacblcpaaDoorPb
namespace Go.Proofs.YtmjlpfmacblcpaaDoor
open Go.RowKit
set_option linter.unusedVariables false
set_option linter.unusedSimpArgs false
/-- The table lies where the program's text lays it. -/
abbrev Tab (w : World) : Prop := SegK .u32 4294967295 w (some ⟨1, 0, none⟩) halfL
theorem Tab.cell {w : World} (h : Tab w) (k : Nat) (hk : k < 16) : w.cell? ⟨1, k, none⟩ = some (.int .u32 (wI (onN 4 (BitVec.ofNat 32 k)))) := by
  obtain ⟨b, off, e, hc⟩ := h.at_ k hk
  cases e
  rw [Nat.zero_add] at hc
  rw [hc, ← half_tab ⟨k, hk⟩]
  rfl
theorem wI_and15 (a : W32) : bits .and .u32 (wI a) 15 = ((a.toNat % 16 : Nat) : Int) := by
  rw [show (15 : Int) = wI 15#32 from rfl, wI_and, and15]
  unfold wI
  simp
  omega
theorem wI_shr4 (a : W32) : wI a / (16 : Int) = wI (a >>> 4) := by
  have := wI_shr a 4
  simpa using this
theorem wI_byte (x : Int) (h0 : 0 ≤ x) (h1 : x ≤ 255) : wI (bW x) = x := by
  unfold wI bW
  simp
  omega

set_option maxRecDepth 100000 in
set_option maxHeartbeats 400000 in
theorem take_any (r : W32) (x : Int) (w : World) (h : Tab w) (h0 : 0 ≤ x) (h1 : x ≤ 255) : Calls Tryd.prog 124 #[.int .u32 (wI r), .int .u8 x] w fun e w' => e = .returned (.int .u32 (wI (takeW r x))) ∧ w' = w := by
  have hx : bits .xor .u32 (wI r) x = wI (r ^^^ bW x) := by
    conv => lhs; rw [← wI_byte x h0 h1]
    exact wI_xor _ _
  generalize hs : r ^^^ bW x = s at *
  have ht : takeW r x = onN 4 (onN 4 s) := by
    unfold takeW
    rw [hs, ← onN_add]
  rw [ht]
  clear ht hs
  have k1 : s.toNat % 16 < 16 := Nat.mod_lt _ (by decide)
  have k2 : (onN 4 s).toNat % 16 < 16 := Nat.mod_lt _ (by decide)
  have a1 := wI_and15 s
  have a2 := wI_and15 (onN 4 s)
  have c1 := h.cell _ k1
  have c2 := h.cell _ k2
  have s1 := wI_shr4 s
  have s2 := wI_shr4 (onN 4 s)
  have x1 : bits .xor .u32 (wI (s >>> 4)) (wI (onN 4 (BitVec.ofNat 32 (s.toNat % 16)))) = wI (onN 4 s) := by
    rw [wI_xor, ← and15, ← onN4]
  have x2 : bits .xor .u32 (wI (onN 4 s >>> 4)) (wI (onN 4 (BitVec.ofNat 32 ((onN 4 s).toNat % 16)))) = wI (onN 4 (onN 4 s)) := by
    rw [wI_xor, ← and15, ← onN4]
  generalize s.toNat % 16 = m1 at *
  generalize (onN 4 s).toNat % 16 = m2 at *
  clear h
  go_enter Tryd.func124, Tryd.ntmps124
  go_wp2
  go_ret
  exact ⟨rfl, rfl⟩
end Go.Proofs.YtmjlpfmacblcpaaDoor

namespace Go.Proofs.YtmjlpfmacblcpaaDoor
open Go.RowKit
set_option linter.unusedVariables false
set_option linter.unusedSimpArgs false
theorem u32_unsigned : IntKind.u32.signed = false := rfl
theorem wI_not (a : W32) : bits .xor .u32 IntKind.u32.max (wI a) = wI (~~~ a) := by
  rw [show IntKind.u32.max = wI (~~~ 0#32) from by decide, wI_xor]
  congr 1

theorem take_snoc {zs : List Int} {k : Nat} (hk : k < zs.length) : zs.take (k + 1) = zs.take k ++ [zs.getD k 0] := by
  rw [List.take_add_one]
  simp [List.getD, hk]

set_option maxRecDepth 100000 in
set_option maxHeartbeats 400000 in
theorem more_any (c : W32) (a : Option Addr) (zs : List Int) (cap : Nat) (w : World) (h : Tab w) (hs : Seg w a zs) (hl : zs.length ≤ 9223372036854775807) :
    Calls Tryd.prog 110 #[.int .u32 (wI c), .slice a zs.length cap] w fun e w' => e = .returned (.int .u32 (wI (~~~ (runW (~~~ c) zs)))) ∧ w' = w := by
  have hsg := u32_unsigned
  have hn := wI_not c
  go_enter Tryd.func110, Tryd.ntmps110
  go_wp2
  clear hn
  go_loopw [5, 12] (fun tr ti wr => ∃ k : Nat, k ≤ zs.length ∧ tr = .int .u32 (wI (runW (~~~ c) (zs.take k))) ∧ ti = .int .i64 k ∧ wr = w) (fun _ ti _ => zs.length - (intOf ti).toNat)
  case atStart => exact ⟨0, Nat.zero_le _, by simp [runW], rfl, rfl⟩
  case round =>
    obtain ⟨k, hk, rfl, rfl, rfl⟩ := hrel
    by_cases hlt : k < zs.length
    · have hlti : (k : Int) < (zs.length : Int) := by omega
      obtain ⟨b, off, rfl, hc⟩ := hs.at_ k hlt
      have hbd := hs.bd k
      have HT : Hid (runW (~~~ c) (zs.take (k + 1)) = takeW (runW (~~~ c) (zs.take k)) (zs.getD k 0)) := by
        show _ = _
        rw [take_snoc hlt, runW_snoc]
      generalize zs.getD k 0 = z at *
      go_wp2_with (go_at_call 124; refine (take_any _ _ _ h (by omega) (by omega)).mono ?_; rintro e w' ⟨rfl, hw'⟩; subst w')
      go_roundw
      case rel => exact ⟨k + 1, by omega, by rw [HT.out], by go_num, trivial⟩
      case measure => simp [intOf]; omega
    · obtain rfl : k = zs.length := by omega
      have e1 : zs.take zs.length = zs := List.take_of_length_le (Nat.le_refl _)
      rw [e1]
      clear hlt e1
      have hn := wI_not (runW (~~~ c) zs)
      go_wp2
      go_ret
      exact ⟨rfl, rfl⟩
end Go.Proofs.YtmjlpfmacblcpaaDoor

namespace Go.Proofs.YtmjlpfmacblcpaaDoor
open Go.RowKit
set_option linter.unusedVariables false
set_option linter.unusedSimpArgs false
/-- A part: where its bytes lie, the bytes, the capacity. -/
structure Part where
  a : Option Addr
  zs : List Int
  cap : Nat
def Part.val (p : Part) : Value := .slice p.a p.zs.length p.cap
def noPart : Part := ⟨none, [], 0⟩
/-- Parts lie where a slice's address leads, and the bytes of each where it leads. -/
structure Parts (w : World) (a : Option Addr) (ps : List Part) : Prop where
  at_ : ∀ i, i < ps.length → ∃ b off, a = some ⟨b, off, none⟩ ∧ w.cell? ⟨b, off + i, none⟩ = some (ps.getD i noPart).val
  seg : ∀ i, i < ps.length → Seg w (ps.getD i noPart).a (ps.getD i noPart).zs
  len : ∀ i, i < ps.length → (ps.getD i noPart).zs.length ≤ 9223372036854775807
def flat (ps : List Part) : List Int := (ps.map (·.zs)).flatten
theorem flat_snoc {ps : List Part} {k : Nat} (hk : k < ps.length) : flat (ps.take (k + 1)) = flat (ps.take k) ++ (ps.getD k noPart).zs := by
  unfold flat
  rw [List.take_add_one, List.map_append, List.flatten_append, List.getElem?_eq_getElem hk]
  simp only [Option.toList, List.map_cons, List.map_nil, List.flatten_cons, List.flatten_nil, List.append_nil]
  rw [List.getD, List.getElem?_eq_getElem hk]
  rfl

set_option maxRecDepth 100000 in
set_option maxHeartbeats 400000 in
theorem sum_any (a : Option Addr) (ps : List Part) (cap : Nat) (w : World) (h : Tab w) (hs : Parts w a ps) (hl : ps.length ≤ 9223372036854775807) :
    Calls Tryd.prog 78 #[.slice a ps.length cap] w fun e w' => e = .returned (.int .u32 (wI (sumW (flat ps)))) ∧ w' = w := by
  have z0 : (0 : Int) = wI (sumW (flat (ps.take 0))) := by simp [flat]; decide
  go_enter Tryd.func78, Tryd.ntmps78
  go_wp2
  go_loopw [3, 8] (fun tr ti wr => ∃ k : Nat, k ≤ ps.length ∧ tr = .int .u32 (wI (sumW (flat (ps.take k)))) ∧ ti = .int .i64 k ∧ wr = w) (fun _ ti _ => ps.length - (intOf ti).toNat)
  case atStart => exact ⟨0, Nat.zero_le _, by rw [← z0], rfl, rfl⟩
  case round =>
    clear z0
    obtain ⟨k, hk, rfl, rfl, rfl⟩ := hrel
    by_cases hlt : k < ps.length
    · have hlti : (k : Int) < (ps.length : Int) := by omega
      obtain ⟨b, off, rfl, hc⟩ := hs.at_ k hlt
      have hsg := hs.seg k hlt
      have hln := hs.len k hlt
      have HT : Hid (~~~ (runW (~~~ (sumW (flat (ps.take k)))) (ps.getD k noPart).zs) = sumW (flat (ps.take (k + 1)))) := by
        show _ = _
        rw [flat_snoc hlt]
        unfold sumW
        rw [not_not, runW_append]
      generalize ps.getD k noPart = p at *
      obtain ⟨pa, pz, pc⟩ := p
      unfold Part.val at hc
      simp only at hc hsg hln HT
      go_wp2_with (go_at_call 110; refine (more_any _ _ _ _ _ h hsg hln).mono ?_; rintro e w' ⟨rfl, hw'⟩; subst w')
      go_roundw
      case rel => exact ⟨k + 1, by omega, by rw [HT.out], by go_num, trivial⟩
      case measure => simp [intOf]; omega
    · obtain rfl : k = ps.length := by omega
      have e1 : ps.take ps.length = ps := List.take_of_length_le (Nat.le_refl _)
      rw [e1]
      clear hlt e1
      go_wp2
      go_ret
      exact ⟨rfl, rfl⟩
end Go.Proofs.YtmjlpfmacblcpaaDoor

namespace Go.Proofs.YtmjlpfmacblcpaaDoor
open Go.RowKit
set_option linter.unusedVariables false
set_option linter.unusedSimpArgs false
theorem parts_one (w : World) (g n : Nat) (a : Option Addr) (zs : List Int) (cap : Nat) (t : TypeId) (h : Seg w a zs) (hg : g = w.heap.size) (hn : n = zs.length) (hl : zs.length ≤ 9223372036854775807) :
    Parts (w.alloc (.cells #[.slice a n cap] t)) (some ⟨g, 0, none⟩) [⟨a, zs, cap⟩] := by
  subst hg hn
  refine ⟨fun i hi => ⟨w.heap.size, 0, rfl, ?_⟩, fun i hi => ?_, fun i hi => ?_⟩ <;> (obtain rfl : i = 0 := by simpa using hi)
  · rw [World.cell?_alloc_mark]
    rfl
  · exact h.alloc _
  · exact hl
theorem flat_one (a : Option Addr) (zs : List Int) (cap : Nat) : flat [⟨a, zs, cap⟩] = zs := by simp [flat]
/-- The sum of one part. -/
theorem sum_one (w : World) (g n : Nat) (a : Option Addr) (zs : List Int) (cap c : Nat) (t : TypeId) (ht : Tab w) (h : Seg w a zs) (hg : g = w.heap.size) (hn : n = zs.length) (hl : zs.length ≤ 9223372036854775807) :
    Calls Tryd.prog 78 #[.slice (some ⟨g, 0, none⟩) 1 c] (w.alloc (.cells #[.slice a n cap] t)) fun e w' => e = .returned (.int .u32 (wI (sumW zs))) ∧ w' = w.alloc (.cells #[.slice a n cap] t) := by
  refine (sum_any (some ⟨g, 0, none⟩) [⟨a, zs, cap⟩] c _ (ht.alloc _) (parts_one w g n a zs cap t h hg hn hl) (by simp)).mono ?_
  rintro e w' ⟨rfl, hw'⟩
  rw [flat_one]
  exact ⟨rfl, hw'⟩
end Go.Proofs.YtmjlpfmacblcpaaDoor

namespace Go.Proofs.YtmjlpfmacblcpaaDoor
open Go.RowKit Go.Shelf
set_option linter.unusedVariables false
set_option linter.unusedSimpArgs false
theorem own_below21 {w w' : World} {base n sz : Nat} {e : TypeId} {v : Value} {xs : List Value} (h : w.ownsRow base e sz v n xs) (hb : Below w.heap.size w w') : w'.ownsRow base e sz v n xs := by
  refine ⟨h.1, ?_⟩
  rcases h.2 with q | ⟨g, cap, cur, q1, q2, q3, q4⟩
  · exact .inl q
  · exact .inr ⟨g, cap, cur, q1, q2, (hb.block g (Array.getElem?_eq_some_iff.1 q3).1).trans q3, q4⟩
theorem own_kp21 {w w' : World} {base n sz : Nat} {e : TypeId} {v : Value} {xs : List Value} (h : w.ownsRow base e sz v n xs) (hk : ∀ k, v.ownBlock = some k → w'.heap[k]? = w.heap[k]?) : w'.ownsRow base e sz v n xs := by
  refine ⟨h.1, ?_⟩
  rcases h.2 with q | ⟨g, cap, cur, q1, q2, q3, q4⟩
  · exact .inl q
  · exact .inr ⟨g, cap, cur, q1, q2, (hk g (by rw [q1]; rfl)).trans q3, q4⟩
/-- A row of bytes behind another one; where they come from is all the same. -/
theorem app21g (V : World) {base m c c2 : Nat} {p : Option Addr} {p2 : Option Addr} {L M N : List Int} (hN : N = L ++ M) (ho : V.ownsRow base 5 1 (.slice p L.length c) L.length (L.map (Value.int .u8))) (h2 : Seg V p2 M) (hm : M.length = m) (hp : 0 < m) (hl : L.length + m ≤ 140737488355328) (hb : base ≤ V.heap.size) :
    ∃ g rc w', (Builtin.append_ #[22, 22] 22 #[.slice p L.length c, .slice p2 m c2]).run Tryd.prog V = .ok (.slice (some ⟨g, 0, none⟩) N.length rc) w' ∧ w'.ownsRow base 5 1 (.slice (some ⟨g, 0, none⟩) N.length rc) N.length (N.map (Value.int .u8)) ∧ Below base V w' ∧ Kp (fun k => (Value.slice p L.length c).ownBlock = some k) V w' ∧ ((Value.slice p L.length c).ownBlock = some g ∨ V.heap.size ≤ g) := by
  obtain ⟨i0, hi, hz0, hz1, hz2⟩ := info_parts info_y21
  subst hm
  obtain ⟨sg, soff, rfl, _⟩ := h2.at_ 0 (by omega)
  obtain ⟨g, rc, w', hr, h1, h3, h4, _⟩ := run_append_lies (P := Tryd.prog) V 22 22 base 5 i0 _ 1 1 Tryd.underlying22 hi hz0 hz1 hz2 rfl (by omega) _ _ _ ho ⟨sg, soff, none⟩ M.length c2 (M.map (Value.int .u8)) (by simp)
    (seg_cells h2) (ints_oneCell _ _) hp (by unfold maxLen; omega) (by omega) hb V.heap.size rfl
  have k1 := Kp.grown (S := fun k => (Value.slice p L.length c).ownBlock = some k) h3 (fun i e => e)
  subst hN
  rw [List.length_append, List.map_append]
  exact ⟨g, rc, w', hr, h1, k1.below (fun k x => (ho.lt k x).1) hb, k1, h4.imp_right (fun e => Nat.le_of_eq e.symm)⟩
theorem app21 (V : World) {base m c c2 : Nat} {p : Option Addr} {p2 : Option Addr} {L M N : List Int} (hN : N = L ++ M) (ho : V.ownsRow base 5 1 (.slice p L.length c) L.length (L.map (Value.int .u8))) (h2 : Seg V p2 M) (hm : M.length = m) (hp : 0 < m) (hl : L.length + m ≤ 140737488355328) (hb : base ≤ V.heap.size) :
    ∃ g rc w', (Builtin.append_ #[22, 22] 22 #[.slice p L.length c, .slice p2 m c2]).run Tryd.prog V = .ok (.slice (some ⟨g, 0, none⟩) N.length rc) w' ∧ w'.ownsRow base 5 1 (.slice (some ⟨g, 0, none⟩) N.length rc) N.length (N.map (Value.int .u8)) ∧ Below base V w' ∧ Kp (fun k => (Value.slice p L.length c).ownBlock = some k) V w' := by
  obtain ⟨g, rc, w', h1, h2, h3, h4, _⟩ := app21g V (c2 := c2) hN ho h2 hm hp hl hb
  exact ⟨g, rc, w', h1, h2, h3, h4⟩
theorem wpList_app21 {P : Program} {ops : Array Oper} {rest : List Oper} {o : Oper} {a : Act} {Q : Exit → Act → World → Prop} {w : World} (hgd : o.guard = none) (s x : Operand) (t : TypeId)
    (ho : o.op = Op.call { callee := Callee.builtin Builtin.append, args := #[s, x], argTypes := #[t, t] }) {u v v' : Value} {w' : World} (hs : a.eval s = u) (hx : a.eval x = v) (hr : (Builtin.append_ #[t, t] o.type #[u, v]).run P w = .ok v' w')
    (h : wpList P ops Q rest (a.put o.dst v') w') : wpList P ops Q (o :: rest) a w := by
  subst hs hx
  refine wpList_plain hgd fun K hK => ?_
  unfold Oper.wp execOp
  simp only [ho, resolve, invoke, builtin, Sem.run_bind, Sem.run_pure, Result.andThen_ok, List.map_toArray, List.map_cons, List.map_nil, hr]
  exact hK _ _ h
def sm21 (L : List Int) : List Int := fixL 4 (wI (sumW L))
theorem wI_bd21 (a : W32) : 0 ≤ wI a ∧ wI a ≤ 4294967295 := by
  have := a.isLt
  unfold wI
  omega
theorem sm21_len (L : List Int) : (sm21 L).length = 4 := fixL_len _ _
theorem sm21_bd (L : List Int) : ∀ z ∈ sm21 L, 0 ≤ z ∧ z ≤ 255 := fixL_bd _ _
end Go.Proofs.YtmjlpfmacblcpaaDoor

namespace Go.Proofs.YtmjlpfmacblcpaaDoor
open Go.RowKit Go.Shelf
set_option linter.unusedVariables false
set_option linter.unusedSimpArgs false
section
variable {P : Program} {ops : Array Oper} {Q : Exit → Act → World → Prop} {md : Region.Mode} {S : World → Prop} {fin : Nat}
end
theorem operwp_app24 {P : Program} {o : Oper} {a : Act} {K : Act → World → Prop} {Q : Exit → Act → World → Prop} {w : World} (s x : Operand) (t : TypeId)
    (ho : o.op = Op.call { callee := Callee.builtin Builtin.append, args := #[s, x], argTypes := #[t, t] }) {u v v' : Value} {w' : World} (hs : a.eval s = u) (hx : a.eval x = v) (hr : (Builtin.append_ #[t, t] o.type #[u, v]).run P w = .ok v' w')
    (h : K (a.put o.dst v') w') : Oper.wp P o a w K Q := by
  unfold Oper.wp execOp
  simp only [ho, resolve, invoke, builtin, Sem.run_bind, Sem.run_pure, Result.andThen_ok, List.map_toArray, List.map_cons, List.map_nil, hs, hx, hr]
  exact h
end Go.Proofs.YtmjlpfmacblcpaaDoor

namespace Go.Proofs.YtmjlpfmacblcpaaDoor
open Go.RowKit Go.Shelf
set_option linter.unusedVariables false
set_option linter.unusedSimpArgs false
def fz25 : Nat → Int := fun k => ([8, 1, 4, 4, 4, 1, 4, 4, 4, 1] : List Int).getD k 0
def fu25 (k : Nat) : Bool := k == 4 || k == 8
def fpt25 (k : Nat) : TypeId := if fu25 k then 198 else 194
def ffn25 (k : Nat) : Nat := if fu25 k then 126 else 125
structure Fb25 (V : World) (N rb k a s : Nat) : Prop where
  la : N ≤ a
  ls : N ≤ s
  ha : V.heap[a]? = some (.cells #[.pointer (some ⟨rb, k, none⟩)] (fpt25 k) (0, 0))
  hs : V.heap[s]? = some (.cells #[.int .i64 (fz25 k)] 3 (0, 0))
def fv25 (k a s : Nat) : Value := .func (.func (ffn25 k)) #[] #[.pointer (some ⟨a, 0, none⟩), .pointer (some ⟨s, 0, none⟩)]
def Fs25 (V : World) (N rb n : Nat) (xs : List Value) : Prop := xs.length = n ∧ ∀ k, k < n → ∃ a s, xs[k]? = some (fv25 k a s) ∧ Fb25 V N rb k a s
theorem Fb25.old {V W : World} {N rb k a s : Nat} (h : Fb25 V N rb k a s) (hb : Below V.heap.size V W) : Fb25 W N rb k a s :=
  ⟨h.la, h.ls, (hb.block _ (Array.getElem?_eq_some_iff.1 h.ha).1).trans h.ha, (hb.block _ (Array.getElem?_eq_some_iff.1 h.hs).1).trans h.hs⟩
theorem Fb25.kp {V W : World} {S : Nat → Prop} {N rb k a s : Nat} (h : Fb25 V N rb k a s) (hb : Kp S V W) (h1 : ¬ S a) (h2 : ¬ S s) : Fb25 W N rb k a s :=
  ⟨h.la, h.ls, hb.heap h.ha h1, hb.heap h.hs h2⟩
set_option maxRecDepth 100000 in
theorem pnum25i (rb k : Nat) (z : Int) (w : World) (hk : fu25 k = false) (hz : fz25 k = z) : Calls Tryd.prog 111 #[.pointer (some ⟨rb, k, none⟩), .int .i64 z] w fun e w' => ∃ a s, e = .returned (fv25 k a s) ∧ Fb25 w' w.heap.size rb k a s ∧ Below w.heap.size w w' := by
  have hmf : ∀ (fn : Fn) (first cap : Array Value) (w : World), (Instr.makeFunc fn first cap).run Tryd.prog w = .ok (.func fn first cap) w := fun _ _ _ _ => rfl
  have e1 : fpt25 k = 194 := by unfold fpt25; rw [hk]; rfl
  have e2 : ffn25 k = 125 := by unfold ffn25; rw [hk]; rfl
  go_enter Tryd.func111, Tryd.ntmps111
  go_wp2
  go_ret
  refine ⟨w.heap.size, w.heap.size + 1, by unfold fv25; rw [e2]; rfl, ⟨Nat.le_refl _, by omega, ?_, ?_⟩, ((Below.refl _ _).alloc (Nat.le_refl _) _).alloc (by simp) _⟩
  · rw [e1, heap_alloc_old _ _ (by simp)]; exact heap_alloc_new _ _
  · rw [hz]; exact heap_alloc2_new _ _ _
set_option maxRecDepth 100000 in
theorem pnum25u (rb k : Nat) (z : Int) (w : World) (hk : fu25 k = true) (hz : fz25 k = z) : Calls Tryd.prog 112 #[.pointer (some ⟨rb, k, none⟩), .int .i64 z] w fun e w' => ∃ a s, e = .returned (fv25 k a s) ∧ Fb25 w' w.heap.size rb k a s ∧ Below w.heap.size w w' := by
  have hmf : ∀ (fn : Fn) (first cap : Array Value) (w : World), (Instr.makeFunc fn first cap).run Tryd.prog w = .ok (.func fn first cap) w := fun _ _ _ _ => rfl
  have e1 : fpt25 k = 198 := by unfold fpt25; rw [hk]; rfl
  have e2 : ffn25 k = 126 := by unfold ffn25; rw [hk]; rfl
  go_enter Tryd.func112, Tryd.ntmps112
  go_wp2
  go_ret
  refine ⟨w.heap.size, w.heap.size + 1, by unfold fv25; rw [e2]; rfl, ⟨Nat.le_refl _, by omega, ?_, ?_⟩, ((Below.refl _ _).alloc (Nat.le_refl _) _).alloc (by simp) _⟩
  · rw [e1, heap_alloc_old _ _ (by simp)]; exact heap_alloc_new _ _
  · rw [hz]; exact heap_alloc2_new _ _ _
theorem info_fd25 : (Tryd.prog.info? 151).map (fun i => (i.zero, i.size, i.bytes)) = some (some .nilFunc, 1, 8) := by kernel_rfl
/-- Fields behind fields. -/
theorem appf25 (V : World) {base n m cp c2 g2 : Nat} {p : Option Addr} {xs news : List Value} {fr : Nat × Nat} (ho : V.ownsRow base 151 1 (.slice p n cp) n xs) (hq : V.heap[g2]? = some (.cells news.toArray 151 fr)) (hm : news.length = m) (hf : ∀ u ∈ news, u.oneCell' = true) (hp : 0 < m) (hn : n ≤ 100) (hm1 : m ≤ 100) (hb : base ≤ V.heap.size) (ty : TypeId) :
    ∃ g rc w', (Builtin.append_ #[147, 147] ty #[.slice p n cp, .slice (some ⟨g2, 0, none⟩) m c2]).run Tryd.prog V = .ok (.slice (some ⟨g, 0, none⟩) (n + m) rc) w' ∧ w'.ownsRow base 151 1 (.slice (some ⟨g, 0, none⟩) (n + m) rc) (n + m) (xs ++ news) ∧ Kp (fun k => (Value.slice p n cp).ownBlock = some k) V w' := by
  obtain ⟨i0, hi, hz0, hz1, hz2⟩ := info_parts info_fd25
  subst hm
  obtain ⟨g, rc, w', hr, h1, h3, h4, _⟩ := run_append_lies (P := Tryd.prog) V 147 ty base 151 i0 _ 1 8 Tryd.underlying147 hi hz0 hz1 hz2 rfl (by omega) _ _ _ ho ⟨g2, 0, none⟩ news.length c2 news (by simp)
    (fun j u hu => by
      have hadd : (⟨g2, 0, none⟩ : Addr).add j = ⟨g2, j, none⟩ := by unfold Addr.add; split <;> simp_all
      rw [hadd]; simp [World.cell?, hq, hu]) hf hp (by unfold maxLen; omega) (by omega) hb V.heap.size rfl
  exact ⟨g, rc, w', hr, h1, Kp.grown (S := fun k => (Value.slice p n cp).ownBlock = some k) h3 (fun i e => e)⟩
/-- One row of fields more. -/
theorem Fs25.app {V : World} {N rb n m : Nat} {xs news : List Value} (h : Fs25 V N rb n xs) (hm : news.length = m) (hn : ∀ j, j < m → ∃ a s, news[j]? = some (fv25 (n + j) a s) ∧ Fb25 V N rb (n + j) a s) : Fs25 V N rb (n + m) (xs ++ news) := by
  refine ⟨by rw [List.length_append, h.1, hm], fun k hk => ?_⟩
  by_cases hl : k < n
  · obtain ⟨a, s, e, f⟩ := h.2 k hl
    exact ⟨a, s, by rw [List.getElem?_append_left (by rw [h.1]; exact hl)]; exact e, f⟩
  · obtain ⟨a, s, e, f⟩ := hn (k - n) (by omega)
    rw [show n + (k - n) = k by omega] at e f
    exact ⟨a, s, by rw [List.getElem?_append_right (by rw [h.1]; omega), h.1]; exact e, f⟩
theorem Fs25.old {V W : World} {N rb n : Nat} {xs : List Value} (h : Fs25 V N rb n xs) (hb : Below V.heap.size V W) : Fs25 W N rb n xs := ⟨h.1, fun k hk => by obtain ⟨a, s, e, f⟩ := h.2 k hk; exact ⟨a, s, e, f.old hb⟩⟩
end Go.Proofs.YtmjlpfmacblcpaaDoor
