import Derived.Test.YtmjlpfmacblcpaaDoorPg
import Derived.Test.YtmjlpfmacblcpaaDoorPa
import Derived.Lib.SmallJoins
import Derived.Test.YtmjlpfmacblcpaaDoorPb
import Derived.Deep.AppendLies
import Derived.Test.YtmjlpfmacblcpaaDoorPe
import Derived.Laws.CopyOwn
namespace Go.Proofs.YtmjlpfmacblcpaaDoor
open Go.RowKit
set_option linter.unusedVariables false
set_option linter.unusedSimpArgs false
theorem u32_unsigned : IntKind.u32.signed = false := rfl
theorem wI_not (a : W32) : bits .xor .u32 IntKind.u32.max (wI a) = wI (~~~ a) := by
  rw [show IntKind.u32.max = wI (~~~ 0#32) from by decide, wI_xor]
  congr 1

theorem take_snoc {zs : List Int} {k : Nat} (hk : k < zs.length) : zs.take (k + 1) = zs.take k ++ [zs.getD k 0] := by
  rw [List.take_add_one]
  simp [List.getD, hk]

set_option maxRecDepth 100000 in
set_option maxHeartbeats 400000 in
theorem more_any (c : W32) (a : Option Addr) (zs : List Int) (cap : Nat) (w : World) (h : Tab w) (hs : Seg w a zs) (hl : zs.length ≤ 9223372036854775807) :
    Calls Tryd.prog 110 #[.int .u32 (wI c), .slice a zs.length cap] w fun e w' => e = .returned (.int .u32 (wI (~~~ (runW (~~~ c) zs)))) ∧ w' = w := by
  have hsg := u32_unsigned
  have hn := wI_not c
  go_enter Tryd.func110, Tryd.ntmps110
  go_wp2
  clear hn
  go_loopw [5, 12] (fun tr ti wr => ∃ k : Nat, k ≤ zs.length ∧ tr = .int .u32 (wI (runW (~~~ c) (zs.take k))) ∧ ti = .int .i64 k ∧ wr = w) (fun _ ti _ => zs.length - (intOf ti).toNat)
  case atStart => exact ⟨0, Nat.zero_le _, by simp [runW], rfl, rfl⟩
  case round =>
    obtain ⟨k, hk, rfl, rfl, rfl⟩ := hrel
    by_cases hlt : k < zs.length
    · have hlti : (k : Int) < (zs.length : Int) := by omega
      obtain ⟨b, off, rfl, hc⟩ := hs.at_ k hlt
      have hbd := hs.bd k
      have HT : Hid (runW (~~~ c) (zs.take (k + 1)) = takeW (runW (~~~ c) (zs.take k)) (zs.getD k 0)) := by
        show _ = _
        rw [take_snoc hlt, runW_snoc]
      generalize zs.getD k 0 = z at *
      go_wp2_with (go_at_call 124; refine (take_any _ _ _ h (by omega) (by omega)).mono ?_; rintro e w' ⟨rfl, hw'⟩; subst w')
      go_roundw
      case rel => exact ⟨k + 1, by omega, by rw [HT.out], by go_num, trivial⟩
      case measure => simp [intOf]; omega
    · obtain rfl : k = zs.length := by omega
      have e1 : zs.take zs.length = zs := List.take_of_length_le (Nat.le_refl _)
      rw [e1]
      clear hlt e1
      have hn := wI_not (runW (~~~ c) zs)
      go_wp2
      go_ret
      exact ⟨rfl, rfl⟩
end Go.Proofs.YtmjlpfmacblcpaaDoor

namespace Go.Proofs.YtmjlpfmacblcpaaDoor
open Go.RowKit
set_option linter.unusedVariables false
set_option linter.unusedSimpArgs false
/-- A part: where its bytes lie, the bytes, the capacity. -/
structure Part where
  a : Option Addr
  zs : List Int
  cap : Nat
def Part.val (p : Part) : Value := .slice p.a p.zs.length p.cap
def noPart : Part := ⟨none, [], 0⟩
/-- Parts lie where a slice's address leads, and the bytes of each where it leads. -/
structure Parts (w : World) (a : Option Addr) (ps : List Part) : Prop where
  at_ : ∀ i, i < ps.length → ∃ b off, a = some ⟨b, off, none⟩ ∧ w.cell? ⟨b, off + i, none⟩ = some (ps.getD i noPart).val
  seg : ∀ i, i < ps.length → Seg w (ps.getD i noPart).a (ps.getD i noPart).zs
  len : ∀ i, i < ps.length → (ps.getD i noPart).zs.length ≤ 9223372036854775807
def flat (ps : List Part) : List Int := (ps.map (·.zs)).flatten
theorem flat_snoc {ps : List Part} {k : Nat} (hk : k < ps.length) : flat (ps.take (k + 1)) = flat (ps.take k) ++ (ps.getD k noPart).zs := by
  unfold flat
  rw [List.take_add_one, List.map_append, List.flatten_append, List.getElem?_eq_getElem hk]
  simp only [Option.toList, List.map_cons, List.map_nil, List.flatten_cons, List.flatten_nil, List.append_nil]
  rw [List.getD, List.getElem?_eq_getElem hk]
  rfl

set_option maxRecDepth 100000 in
set_option maxHeartbeats 400000 in
theorem sum_any (a : Option Addr) (ps : List Part) (cap : Nat) (w : World) (h : Tab w) (hs : Parts w a ps) (hl : ps.length ≤ 9223372036854775807) :
    Calls Tryd.prog 78 #[.slice a ps.length cap] w fun e w' => e = .returned (.int .u32 (wI (sumW (flat ps)))) ∧ w' = w := by
  have z0 : (0 : Int) = wI (sumW (flat (ps.take 0))) := by simp [flat]; decide
  go_enter Tryd.func78, Tryd.ntmps78
  go_wp2
  go_loopw [3, 8] (fun tr ti wr => ∃ k : Nat, k ≤ ps.length ∧ tr = .int .u32 (wI (sumW (flat (ps.take k)))) ∧ ti = .int .i64 k ∧ wr = w) (fun _ ti _ => ps.length - (intOf ti).toNat)
  case atStart => exact ⟨0, Nat.zero_le _, by rw [← z0], rfl, rfl⟩
  case round =>
    clear z0
    obtain ⟨k, hk, rfl, rfl, rfl⟩ := hrel
    by_cases hlt : k < ps.length
    · have hlti : (k : Int) < (ps.length : Int) := by omega
      obtain ⟨b, off, rfl, hc⟩ := hs.at_ k hlt
      have hsg := hs.seg k hlt
      have hln := hs.len k hlt
      have HT : Hid (~~~ (runW (~~~ (sumW (flat (ps.take k)))) (ps.getD k noPart).zs) = sumW (flat (ps.take (k + 1)))) := by
        show _ = _
        rw [flat_snoc hlt]
        unfold sumW
        rw [not_not, runW_append]
      generalize ps.getD k noPart = p at *
      obtain ⟨pa, pz, pc⟩ := p
      unfold Part.val at hc
      simp only at hc hsg hln HT
      go_wp2_with (go_at_call 110; refine (more_any _ _ _ _ _ h hsg hln).mono ?_; rintro e w' ⟨rfl, hw'⟩; subst w')
      go_roundw
      case rel => exact ⟨k + 1, by omega, by rw [HT.out], by go_num, trivial⟩
      case measure => simp [intOf]; omega
    · obtain rfl : k = ps.length := by omega
      have e1 : ps.take ps.length = ps := List.take_of_length_le (Nat.le_refl _)
      rw [e1]
      clear hlt e1
      go_wp2
      go_ret
      exact ⟨rfl, rfl⟩
end Go.Proofs.YtmjlpfmacblcpaaDoor

namespace Go.Proofs.YtmjlpfmacblcpaaDoor
open Go.RowKit
set_option linter.unusedVariables false
set_option linter.unusedSimpArgs false
theorem seg_lit (w : World) (zs : List Int) (t : TypeId) (fr : Nat × Nat) (h : ∀ z ∈ zs, 0 ≤ z ∧ z ≤ 255) : Seg (w.alloc (.cells (zs.map (Value.int .u8)).toArray t fr)) (some ⟨w.heap.size, 0, none⟩) zs := by
  refine ⟨fun i hi => ⟨w.heap.size, 0, rfl, ?_⟩, by decide, getD_bd (by decide) h⟩
  have e : zs.getD i 0 = zs[i] := by simp [List.getD, hi]
  rw [e, Nat.zero_add, World.cell?_alloc_mark]
  simp [hi]
theorem parts_one (w : World) (g n : Nat) (a : Option Addr) (zs : List Int) (cap : Nat) (t : TypeId) (h : Seg w a zs) (hg : g = w.heap.size) (hn : n = zs.length) (hl : zs.length ≤ 9223372036854775807) :
    Parts (w.alloc (.cells #[.slice a n cap] t)) (some ⟨g, 0, none⟩) [⟨a, zs, cap⟩] := by
  subst hg hn
  refine ⟨fun i hi => ⟨w.heap.size, 0, rfl, ?_⟩, fun i hi => ?_, fun i hi => ?_⟩ <;> (obtain rfl : i = 0 := by simpa using hi)
  · rw [World.cell?_alloc_mark]
    rfl
  · exact h.alloc _
  · exact hl
theorem flat_one (a : Option Addr) (zs : List Int) (cap : Nat) : flat [⟨a, zs, cap⟩] = zs := by simp [flat]
/-- The sum of one part. -/
theorem sum_one (w : World) (g n : Nat) (a : Option Addr) (zs : List Int) (cap c : Nat) (t : TypeId) (ht : Tab w) (h : Seg w a zs) (hg : g = w.heap.size) (hn : n = zs.length) (hl : zs.length ≤ 9223372036854775807) :
    Calls Tryd.prog 78 #[.slice (some ⟨g, 0, none⟩) 1 c] (w.alloc (.cells #[.slice a n cap] t)) fun e w' => e = .returned (.int .u32 (wI (sumW zs))) ∧ w' = w.alloc (.cells #[.slice a n cap] t) := by
  refine (sum_any (some ⟨g, 0, none⟩) [⟨a, zs, cap⟩] c _ (ht.alloc _) (parts_one w g n a zs cap t h hg hn hl) (by simp)).mono ?_
  rintro e w' ⟨rfl, hw'⟩
  rw [flat_one]
  exact ⟨rfl, hw'⟩
end Go.Proofs.YtmjlpfmacblcpaaDoor

namespace Go.Proofs.YtmjlpfmacblcpaaDoor
open Go.RowKit Go.Shelf
set_option linter.unusedVariables false
set_option linter.unusedSimpArgs false
theorem own_sl21 {w : World} {base n sz : Nat} {e : TypeId} {v : Value} {xs : List Value} (h : w.ownsRow base e sz v n xs) : ∃ p c, v = .slice p n c := by
  rcases h.2 with ⟨h1, h2⟩ | ⟨g, cap, cur, h1, _⟩
  · exact ⟨none, 0, by rw [h1, h2]⟩
  · exact ⟨_, _, h1⟩
theorem own_below21 {w w' : World} {base n sz : Nat} {e : TypeId} {v : Value} {xs : List Value} (h : w.ownsRow base e sz v n xs) (hb : Below w.heap.size w w') : w'.ownsRow base e sz v n xs := by
  refine ⟨h.1, ?_⟩
  rcases h.2 with q | ⟨g, cap, cur, q1, q2, q3, q4⟩
  · exact .inl q
  · exact .inr ⟨g, cap, cur, q1, q2, (hb.block g (Array.getElem?_eq_some_iff.1 q3).1).trans q3, q4⟩
theorem own_base21 {w : World} {base base' n sz : Nat} {e : TypeId} {v : Value} {xs : List Value} (h : w.ownsRow base e sz v n xs) (hb : base' ≤ base) : w.ownsRow base' e sz v n xs := by
  refine ⟨h.1, ?_⟩
  rcases h.2 with q | ⟨g, cap, cur, q1, q2, q3⟩
  · exact .inl q
  · exact .inr ⟨g, cap, cur, q1, Nat.le_trans hb q2, q3⟩
theorem own_kp21 {w w' : World} {base n sz : Nat} {e : TypeId} {v : Value} {xs : List Value} (h : w.ownsRow base e sz v n xs) (hk : ∀ k, v.ownBlock = some k → w'.heap[k]? = w.heap[k]?) : w'.ownsRow base e sz v n xs := by
  refine ⟨h.1, ?_⟩
  rcases h.2 with q | ⟨g, cap, cur, q1, q2, q3, q4⟩
  · exact .inl q
  · exact .inr ⟨g, cap, cur, q1, q2, (hk g (by rw [q1]; rfl)).trans q3, q4⟩
/-- A row of bytes behind another one; where they come from is all the same. -/
theorem app21g (V : World) {base m c c2 : Nat} {p : Option Addr} {p2 : Option Addr} {L M N : List Int} (hN : N = L ++ M) (ho : V.ownsRow base 5 1 (.slice p L.length c) L.length (L.map (Value.int .u8))) (h2 : Seg V p2 M) (hm : M.length = m) (hp : 0 < m) (hl : L.length + m ≤ 140737488355328) (hb : base ≤ V.heap.size) :
    ∃ g rc w', (Builtin.append_ #[22, 22] 22 #[.slice p L.length c, .slice p2 m c2]).run Tryd.prog V = .ok (.slice (some ⟨g, 0, none⟩) N.length rc) w' ∧ w'.ownsRow base 5 1 (.slice (some ⟨g, 0, none⟩) N.length rc) N.length (N.map (Value.int .u8)) ∧ Below base V w' ∧ Kp (fun k => (Value.slice p L.length c).ownBlock = some k) V w' ∧ ((Value.slice p L.length c).ownBlock = some g ∨ V.heap.size ≤ g) := by
  obtain ⟨i0, hi, hz0, hz1, hz2⟩ := info_parts info_y21
  subst hm
  obtain ⟨sg, soff, rfl, _⟩ := h2.at_ 0 (by omega)
  obtain ⟨g, rc, w', hr, h1, h3, h4, _⟩ := run_append_lies (P := Tryd.prog) V 22 22 base 5 i0 _ 1 1 Tryd.underlying22 hi hz0 hz1 hz2 rfl (by omega) _ _ _ ho ⟨sg, soff, none⟩ M.length c2 (M.map (Value.int .u8)) (by simp)
    (seg_cells h2) (ints_oneCell _ _) hp (by unfold maxLen; omega) (by omega) hb V.heap.size rfl
  have k1 := Kp.grown (S := fun k => (Value.slice p L.length c).ownBlock = some k) h3 (fun i e => e)
  subst hN
  rw [List.length_append, List.map_append]
  exact ⟨g, rc, w', hr, h1, k1.below (fun k x => (ho.lt k x).1) hb, k1, h4.imp_right (fun e => Nat.le_of_eq e.symm)⟩
theorem app21 (V : World) {base m c c2 : Nat} {p : Option Addr} {p2 : Option Addr} {L M N : List Int} (hN : N = L ++ M) (ho : V.ownsRow base 5 1 (.slice p L.length c) L.length (L.map (Value.int .u8))) (h2 : Seg V p2 M) (hm : M.length = m) (hp : 0 < m) (hl : L.length + m ≤ 140737488355328) (hb : base ≤ V.heap.size) :
    ∃ g rc w', (Builtin.append_ #[22, 22] 22 #[.slice p L.length c, .slice p2 m c2]).run Tryd.prog V = .ok (.slice (some ⟨g, 0, none⟩) N.length rc) w' ∧ w'.ownsRow base 5 1 (.slice (some ⟨g, 0, none⟩) N.length rc) N.length (N.map (Value.int .u8)) ∧ Below base V w' ∧ Kp (fun k => (Value.slice p L.length c).ownBlock = some k) V w' := by
  obtain ⟨g, rc, w', h1, h2, h3, h4, _⟩ := app21g V (c2 := c2) hN ho h2 hm hp hl hb
  exact ⟨g, rc, w', h1, h2, h3, h4⟩
theorem wpList_app21 {P : Program} {ops : Array Oper} {rest : List Oper} {o : Oper} {a : Act} {Q : Exit → Act → World → Prop} {w : World} (hgd : o.guard = none) (s x : Operand) (t : TypeId)
    (ho : o.op = Op.call { callee := Callee.builtin Builtin.append, args := #[s, x], argTypes := #[t, t] }) {u v v' : Value} {w' : World} (hs : a.eval s = u) (hx : a.eval x = v) (hr : (Builtin.append_ #[t, t] o.type #[u, v]).run P w = .ok v' w')
    (h : wpList P ops Q rest (a.put o.dst v') w') : wpList P ops Q (o :: rest) a w := by
  subst hs hx
  refine wpList_plain hgd fun K hK => ?_
  unfold Oper.wp execOp
  simp only [ho, resolve, invoke, builtin, Sem.run_bind, Sem.run_pure, Result.andThen_ok, List.map_toArray, List.map_cons, List.map_nil, hr]
  exact hK _ _ h
def sm21 (L : List Int) : List Int := fixL 4 (wI (sumW L))
theorem wI_bd21 (a : W32) : 0 ≤ wI a ∧ wI a ≤ 4294967295 := by
  have := a.isLt
  unfold wI
  omega
theorem sm21_len (L : List Int) : (sm21 L).length = 4 := fixL_len _ _
theorem sm21_bd (L : List Int) : ∀ z ∈ sm21 L, 0 ≤ z ∧ z ≤ 255 := fixL_bd _ _
end Go.Proofs.YtmjlpfmacblcpaaDoor

namespace Go.Proofs.YtmjlpfmacblcpaaDoor
open Go.RowKit Go.Shelf
set_option linter.unusedVariables false
set_option linter.unusedSimpArgs false
/-- Four bytes of a row of their own. -/
def Sm21 (w : World) (L : List Int) (e : Ending) (w' : World) : Prop := ∃ g, e = .returned (.slice (some ⟨g, 0, none⟩) 4 4) ∧ w'.ownsRow w.heap.size 5 1 (.slice (some ⟨g, 0, none⟩) 4 4) 4 (L.map (Value.int .u8)) ∧ Seg w' (some ⟨g, 0, none⟩) L ∧ Below w.heap.size w w'
set_option maxRecDepth 100000 in
set_option maxHeartbeats 2000000 in
theorem psumof21 (a : Option Addr) (zs : List Int) (n cap : Nat) (w : World) (ht : Tab w) (hs : Seg w a zs) (hn : Hid (zs.length = n)) (hl : n ≤ 140737488355328) :
    Calls Tryd.prog 38 #[.slice a n cap] w fun e w' => Sm21 w (sm21 zs) e w' := by
  have e0 := hn.out
  subst e0
  obtain ⟨wA, hwA⟩ : ∃ wA, wA = w.alloc (.cells #[.slice a zs.length cap] 22) := ⟨_, rfl⟩
  have SM := sum_one w w.heap.size zs.length a zs cap 1 22 ht hs rfl rfl (by omega)
  have bA : Below w.heap.size w wA := by rw [hwA]; exact (Below.refl _ _).alloc (Nat.le_refl _) _
  rw [← hwA] at SM
  have HWA : Hid (w.alloc (.cells #[.slice a zs.length cap] 22) = wA) := hwA.symm
  have HBA : Hid (Below w.heap.size w wA) := bA
  have b0 := wI_bd21 (sumW zs)
  have HC : Hid (∀ v : Int, v = wI (sumW zs) → Calls Tryd.prog 83 #[.int .u64 v, .int .i64 4] wA fun e w' => e = .returned (.tuple #[.slice (some ⟨wA.heap.size, 0, none⟩) 4 4, .int .i64 0]) ∧
      w'.ownsRow wA.heap.size 5 1 (.slice (some ⟨wA.heap.size, 0, none⟩) 4 4) 4 ((fixL 4 v).map (Value.int .u8)) ∧ Below wA.heap.size wA w') := fun v hv => fixed_ok v 4 wA (by omega) (by omega) (by omega) (by omega) (by show v / 4294967296 = 0; omega)
  have HM : Hid (sm21 zs = fixL 4 (wI (sumW zs))) := rfl
  rw [HM.out]
  have hw : IntKind.u64.wrap (wI (sumW zs)) = wI (sumW zs) := IntWalk.u64_in _ (by omega)
  generalize hv : wI (sumW zs) = sv at *
  have C := HC.out sv rfl
  clear hwA ht hs hn hl b0 bA HM HC hv
  go_enter Tryd.func38, Tryd.ntmps38
  go_wp2_with fail
  rw [HWA.out]
  refine SM.mono ?_
  rintro e1 w1 ⟨rfl, hw1⟩
  subst w1
  clear SM
  go_wp2_with fail
  refine C.mono ?_
  rintro e2 w2 ⟨rfl, o2, b2⟩
  have HO : Hid (w2.ownsRow wA.heap.size 5 1 (.slice (some ⟨wA.heap.size, 0, none⟩) 4 4) 4 ((fixL 4 sv).map (Value.int .u8)) ∧ Below wA.heap.size wA w2) := ⟨o2, b2⟩
  clear o2 b2 C
  go_wp2_with fail
  go_ret
  obtain ⟨-, a', c', hv, sg, -⟩ := own_seg (M := 255) HO.out.1 (by decide) (fixL_bd _ _)
  injection hv with h1 h2 h3
  subst h1
  exact ⟨wA.heap.size, rfl, own_base21 HO.out.1 HBA.out.size, sg, HBA.out.trans (HO.out.2.mono HBA.out.size)⟩
end Go.Proofs.YtmjlpfmacblcpaaDoor

namespace Go.Proofs.YtmjlpfmacblcpaaDoor
open Go.RowKit Go.Shelf
set_option linter.unusedVariables false
set_option linter.unusedSimpArgs false
section
variable {w w' : World} {b m c tc lc : Nat} {f : Int → Int → Option Value} {ta la : Option Addr} {V V' : Nat → Prop} {S S' : Fs21} {F : Nat → Prop}
theorem Fi21.wid (h : Fi21 w b m c f ta tc la lc V S) (hV : ∀ k, V k → V' k) (vb : ¬ V' b) (vm : ¬ V' m) (vl : ∀ k, (Value.slice la S.lg.length lc).ownBlock = some k → ¬ V' k) (vs : ∀ k, V' k → k < w.heap.size) : Fi21 w b m c f ta tc la lc V' S := by
  refine ⟨h.hp, h.hm, fun x y => ?_, h.ht.kp (fun _ _ => rfl) hV, h.hl, h.hc, vb, vm, vl, vs⟩
  rcases h.hf x y with q | ⟨s, v, q1, q2, q3⟩
  · exact .inl q
  · exact .inr ⟨s, v, q1, q2, q3.kp (fun _ _ => rfl) hV⟩
def cuE21 (S : Fs21) (n : Int) (l : Nat) : Int := if S.on = false then 213 else if n < 0 ∨ S.pg < l then 1 else 0
def cuS21 (S : Fs21) (n : Int) (L : List Int) : Fs21 := if S.on = false then S else if n < 0 ∨ S.pg < L.length then S else { S with lf := n, tn := if 0 < n then L else [] }
set_option maxRecDepth 100000 in
set_option maxHeartbeats 4000000 in
theorem pcut21 (hF : Fl21 w b F S) (hO : Ok21 S) (n : Int) (a : Option Addr) (L : List Int) (l cap : Nat) (hs : Seg w a L) (hl : Hid (L.length = l)) (hnil : a = none → cap = 0) :
    Calls Tryd.prog 27 #[.pointer (some ⟨b, 0, none⟩), .int .i64 n, .slice a l cap] w fun e w' => e = .returned (.int .i64 (cuE21 S n l)) ∧ Fn21 w w' b F (cuS21 S n L) := by
  obtain ⟨c0, c1, c2, c3, c4, cf⟩ := hF.cells
  have HST := pstop21 b S.pg S.on w c0 hO.pg.1 c3
  have HFl : Hid (Fl21 w b F S) := hF
  have HE : Hid (cuE21 S n l = if S.on = false then 213 else if n < 0 ∨ S.pg < l then 1 else 0) := rfl
  have HS : Hid (cuS21 S n L = if S.on = false then S else if n < 0 ∨ S.pg < l then S else { S with lf := n, tn := if 0 < n then L else [] }) := by show cuS21 S n L = _; rw [← hl.out]; rfl
  rw [HE.out, HS.out]
  have f6 := cf 6
  have f7 := cf 7
  by_cases hon : S.on = false
  · rw [hon] at HST
    rw [if_pos hon, if_pos hon]
    clear hF cf c1 c2 c3 c4
    go_enter Tryd.func27, Tryd.ntmps27
    go_wp2_with fail
    refine HST.mono ?_
    rintro e w1 ⟨rfl, hw⟩
    subst w1
    go_wp2_with fail
    go_ret
    exact ⟨rfl, HFl.out.stay (Below.refl _ _)⟩
  · have hon' : S.on = true := by simpa using hon
    rw [hon'] at HST
    rw [if_neg hon, if_neg hon]
    by_cases h1 : n < 0
    · rw [if_pos (show n < 0 ∨ S.pg < l from .inl h1), if_pos (show n < 0 ∨ S.pg < l from .inl h1)]
      clear hF cf c1 c2 c3 c4
      go_enter Tryd.func27, Tryd.ntmps27
      go_wp2_with fail
      refine HST.mono ?_
      rintro e w1 ⟨rfl, hw⟩
      subst w1
      go_wp2_with fail
      go_ret
      exact ⟨rfl, HFl.out.stay (Below.refl _ _)⟩
    · by_cases h2 : S.pg < l
      · rw [if_pos (show n < 0 ∨ S.pg < l from .inr h2), if_pos (show n < 0 ∨ S.pg < l from .inr h2)]
        have h2' : (S.pg : Int) < (l : Int) := by omega
        clear hF cf c1 c2 c3 c4
        go_enter Tryd.func27, Tryd.ntmps27
        go_wp2_with fail
        refine HST.mono ?_
        rintro e w1 ⟨rfl, hw⟩
        subst w1
        go_wp2_with fail
        go_ret
        exact ⟨rfl, HFl.out.stay (Below.refl _ _)⟩
      · rw [if_neg (show ¬ (n < 0 ∨ S.pg < l) by omega), if_neg (show ¬ (n < 0 ∨ S.pg < l) by omega)]
        have h2' : ¬ (S.pg : Int) < (l : Int) := by omega
        obtain ⟨m, c, f, ta, tc, la, lc, V, hI, hFb, hFm, hFl, hFV, hFs⟩ := hF
        have c6 := hI.cel (i := 6) rfl
        have c7 := hI.cel (i := 7) rfl
        obtain ⟨w1, hw1⟩ : ∃ w1, w1 = (w.setCell ⟨b, 6, none⟩ (.int .i64 0)).setCell ⟨b, 7, none⟩ (.slice none 0 0) := ⟨_, rfl⟩
        have HW1 : Hid ((w.setCell ⟨b, 6, none⟩ (.int .i64 0)).setCell ⟨b, 7, none⟩ (.slice none 0 0) = w1) := hw1.symm
        have k1 : Kp (fun k => k = b) w w1 := by rw [hw1]; exact (Kp.set (S := fun k => k = b) rfl _).trans (Kp.set (S := fun k => k = b) rfl _) (fun _ _ e => e)
        have hI1 : Fi21 w1 b m c f none 0 la lc V { S with lf := 0, tn := [] } := hI.re (S' := { S with lf := 0, tn := [] }) k1 rfl rfl ⟨SegK.nil (by decide) _ _, .inl rfl, fun _ => rfl, by simp⟩ (by rw [hw1]; simp [World.setCell, Array.getElem?_modify, hI.hp])
        have hsz : w1.heap.size = w.heap.size := by rw [hw1]; simp
        by_cases h3 : 0 < n
        · rw [if_pos h3]
          have hsb : ∀ k off, a = some ⟨k, off, none⟩ → 0 < L.length → k ≠ b := fun k off e hp e' => by
            obtain ⟨g', off', hx, hc⟩ := hs.at_ 0 hp
            rw [e] at hx
            cases hx
            subst e'
            rw [Nat.add_zero] at hc
            simp only [World.cell?, hI.hp] at hc
            rcases off with _ | _ | _ | _ | _ | _ | _ | _ | _ | off <;> simp at hc
          have hs1 : Seg w1 a L := hs.kp k1 (fun k off e hp => hsb k off e hp)
          have HC := pcl21 a L l cap w1 hs1 hl hnil (by have := hO.pg.2; omega)
          have d0 : w1.cell? ⟨b, 0, none⟩ = some (.int .i64 (S.pg : Int)) := hI1.cel (i := 0) rfl
          have HI1 : Hid (Fi21 w1 b m c f none 0 la lc V { S with lf := 0, tn := [] }) := hI1
          have HKS : Hid (Kp (fun k => k = b) w w1 ∧ w1.heap.size = w.heap.size) := ⟨k1, hsz⟩
          clear hs1 hs hI1 k1 hw1 hI cf c1 c2 c3 c4 hsz hsb
          go_enter Tryd.func27, Tryd.ntmps27
          go_wp2_with fail
          refine HST.mono ?_
          rintro e w1' ⟨rfl, hw⟩
          subst w1'
          go_wp2_with fail
          rw [HW1.out]
          refine HC.mono ?_
          rintro e w2 ⟨⟨ra, rc, rfl, hcl⟩, b2⟩
          have hI2 := HI1.out.old b2
          have e6 := hI2.cel (i := 6) rfl
          have e7 := hI2.cel (i := 7) rfl
          have g6 := hI2.fr 6
          have g7 := hI2.fr 7
          have HI2 : Hid (Fi21 w2 b m c f none 0 la lc V { S with lf := 0, tn := [] }) := hI2
          have HCL : Hid (Cl21 w2 ra L rc w1.heap.size) := hcl
          clear hI2 hcl
          go_wp2_with fail
          go_ret
          obtain ⟨q1, q2, q3, q4⟩ := HCL.out
          have hz := HKS.out.2
          have hVk : ∀ k, (V k ∨ ra = some ⟨k, 0, none⟩) → F k ∨ w.heap.size ≤ k := fun k e => by
            rcases e with e | e
            · exact .inl (hFV k e)
            · rcases q2 with q2 | ⟨k', q2, q5, q6⟩
              · rw [q2] at e; cases e
              · rw [q2] at e; cases e; exact .inr (by omega)
          have hra : ∀ k, ra = some ⟨k, 0, none⟩ → w.heap.size ≤ k ∧ k < w2.heap.size := fun k e => by
            rcases q2 with q2 | ⟨k', q2, q5, q6⟩
            · rw [q2] at e; cases e
            · rw [q2] at e; cases e; exact ⟨by omega, q6⟩
          have hbw := hFs b hFb
          have hmw := hFs m hFm
          have hI3 := HI2.out.wid (V' := fun k => V k ∨ ra = some ⟨k, 0, none⟩) (fun k e => .inl e) (by rintro (e | e); (exact HI2.out.vb e); (have := hra _ e; omega)) (by rintro (e | e); (exact HI2.out.vm e); (have := hra _ e; omega)) (by
            intro k e h
            rcases h with h | h
            · exact HI2.out.vl k e h
            · have := hFs k (hFl k e); have := hra _ h; omega) (by
            rintro k (e | e)
            · exact HI2.out.vs k e
            · exact (hra k e).2)
          have hp2 := hI3.hp
          refine ⟨rfl, fun k => F k ∨ ra = some ⟨k, 0, none⟩, ⟨m, c, f, ra, rc, la, lc, fun k => V k ∨ ra = some ⟨k, 0, none⟩, hI3.re (S' := { S with lf := n, tn := L }) ?_ rfl rfl ⟨q1, ?_, q3, q4⟩ ?_, .inl hFb, .inl hFm, fun k e => .inl (hFl k e), ?_, ?_⟩, ?_, ?_⟩
          · exact (Kp.set (S := fun k => k = b) rfl _).trans (Kp.set (S := fun k => k = b) rfl _) (fun _ _ e => e)
          · rcases q2 with q2 | ⟨k', q2, q5, q6⟩
            · exact .inl q2
            · exact .inr ⟨k', q2, .inr q2⟩
          · have := hl.out
            simp [World.setCell, Array.getElem?_modify, hp2, this]
          · rintro k (e | e)
            · exact .inl (hFV k e)
            · exact .inr e
          · have := b2.size
            rintro k (e | e)
            · have := hFs k e; simp; omega
            · have := hra k e; simp; omega
          · rintro k (e | e)
            · exact .inl e
            · exact .inr (hra k e).1
          · exact (((HKS.out.1.mono (S' := F) (fun i _ e => e ▸ hFb)).trans (Kp.of_below (S := F) b2) (fun _ _ e => e)).trans (Kp.set (S := F) hFb _) (fun _ _ e => e)).trans (Kp.set (S := F) hFb _) (fun _ _ e => e)
        · rw [if_neg h3]
          obtain rfl : n = 0 := by omega
          have hFN : Fn21 w w1 b F { S with lf := 0, tn := [] } := ⟨F, ⟨m, c, f, none, 0, la, lc, V, hI1, hFb, hFm, hFl, hFV, fun k e => by rw [hsz]; exact hFs k e⟩, fun _ e => .inl e, k1.mono (fun i _ e => e ▸ hFb)⟩
          have HFN : Hid (Fn21 w w1 b F { S with lf := 0, tn := [] }) := hFN
          clear hs hI1 k1 hw1 hI cf c1 c2 c3 c4 hsz hFN h3
          go_enter Tryd.func27, Tryd.ntmps27
          go_wp2_with fail
          refine HST.mono ?_
          rintro e w1' ⟨rfl, hw⟩
          subst w1'
          go_wp2_with fail
          go_ret
          rw [HW1.out]
          exact ⟨rfl, HFN.out⟩
end
end Go.Proofs.YtmjlpfmacblcpaaDoor

namespace Go.Proofs.YtmjlpfmacblcpaaDoor
open Go.RowKit Go.Shelf
set_option linter.unusedVariables false
set_option linter.unusedSimpArgs false
section
variable {w w' : World} {b : Nat} {g c : Nat → Nat} {A : Nat → List Pd21} {tn : List Int} {ta : Option Addr} {tc : Nat} {la : Option Addr} {lc : Nat} {V V' : Nat → Prop} {S S' : Fs21}
theorem sh21_pa (h : S'.pa = S.pa) (x y : Int) : sh21 S' x y = sh21 S x y := by unfold sh21; rw [h]
theorem fb21_pa (h : S'.pa = S.pa) (h' : S'.pg = S.pg) (x y : Int) : fb21 S' x y = fb21 S x y := by unfold fb21; rw [sh21_pa h, h']
theorem Rf21.re (h : Rf21 w b g c A tn ta tc la lc V S) (hk : Kp (fun k => k = b) w w') (e1 : S'.pa = S.pa) (e2 : S'.lg = S.lg) (e3 : S'.pg = S.pg) (e4 : S'.ps = S.ps) {tn' : List Int} {ta' : Option Addr} {tc' : Nat} (ht' : (S'.lf ≠ 0 → tn' = S'.tn) ∧ Sl21 w V ta' tn' tc')
    (hp : w'.heap[b]? = some (.cells #[.int .i64 (S'.pg : Int), .int .i64 (S'.ps : Int), .int .i64 S'.ac, .slice (some ⟨g 0, 0, none⟩) (A 0).length (c 0), .slice (some ⟨g 1, 0, none⟩) (A 1).length (c 1), .slice (some ⟨g 2, 0, none⟩) (A 2).length (c 2), .slice la S'.lg.length lc, .bool (!S'.on), .int .i64 S'.lf, .slice ta' tn'.length tc', .int .i64 S'.lm] 107 (0, 0))) :
    Rf21 w' b g c A tn' ta' tc' la lc V S' := by
  have hV : ∀ k, V k → w'.heap[k]? = w.heap[k]? := fun k e => hk.block k (h.vs k e) (fun q => h.vb (q ▸ e))
  have hl := h.hl
  have hvl := h.vl
  refine ⟨hp, fun x hx => ?_, by rw [e4]; exact h.hn, fun x y d hx hy => ?_, ⟨ht'.1, ht'.2.kp hV (fun _ e => e)⟩, ?_, h.gi, h.vb, h.vg, by rw [e2]; exact h.vl, fun k e => Nat.lt_of_lt_of_le (h.vs k e) hk.size⟩
  · obtain ⟨X, hX⟩ := h.ha x hx
    exact ⟨X, (hk.block _ (h.gl hx) (fun e => h.bg hx e.symm)).trans hX⟩
  · obtain ⟨q1, q2, q3⟩ := h.hd x y d hx hy
    rw [fb21_pa e1 e3, sh21_pa e1]
    refine ⟨q1.of_cells fun b' off' i v hi ha hc => ?_, q2, q3⟩
    cases ha
    rw [World.cell?_of_block (a := ⟨d.k, d.off + i, none⟩) (hV d.k q2)]
    exact hc
  · rw [e2]
    refine ⟨hl.1, ?_⟩
    rcases hl.2 with q | ⟨q, cap, cur, q1, q2, q3, q4⟩
    · exact .inl q
    · have hq := h.lo (k := q) (by rw [q1]; rfl)
      exact .inr ⟨q, cap, cur, q1, q2, (hk.block q hq.1 hq.2.1).trans q3, q4⟩
/-- More bytes may be spoken of. -/
theorem Rf21.wid (h : Rf21 w b g c A tn ta tc la lc V S) (hV : ∀ k, V k → V' k) (vb : ¬ V' b) (vg : ∀ x, x < 3 → ¬ V' (g x)) (vl : ∀ k, (Value.slice la S.lg.length lc).ownBlock = some k → ¬ V' k) (vs : ∀ k, V' k → k < w.heap.size) : Rf21 w b g c A tn ta tc la lc V' S :=
  ⟨h.hp, h.ha, h.hn, fun x y d hx hy => by obtain ⟨q1, q2, q3⟩ := h.hd x y d hx hy; exact ⟨q1, hV _ q2, q3⟩, ⟨h.ht.1, h.ht.2.kp (fun _ _ => rfl) hV⟩, h.hl, h.gi, vb, vg, vl, vs⟩
def ad21 (A : Nat → List Pd21) (x y : Nat) (d : Pd21) : Nat → List Pd21 := fun z => if z = x then (A x).set y d else A z
theorem ad21_len (A : Nat → List Pd21) (x y : Nat) (d : Pd21) (z : Nat) : (ad21 A x y d z).length = (A z).length := by
  unfold ad21; split
  · rename_i h; subst h; simp
  · rfl
theorem sh21_up (S : Fs21) (x y : Int) (s : Sh21) (x' y' : Int) : sh21 { S with pa := up21 S.pa x y s } x' y' = if x' = x ∧ y' = y then s else sh21 S x' y' := by
  unfold sh21 up21
  by_cases h : x' = x ∧ y' = y
  · simp [h]
  · simp [h]
/-- A page anew. -/
theorem Rf21.page (h : Rf21 w b g c A tn ta tc la lc V S) {x y : Nat} (hx : x < 3) (hy : y < (A x).length) (d : Pd21) (s : Sh21) (hk : Kp (fun k => k = g x) w w') (hg : ∃ X : List Value, w'.heap[g x]? = some (.cells (pdl21 ((A x).set y d) ++ X).toArray 110 (0, 0)))
    (h1 : Seg w' (some ⟨d.k, d.off, none⟩) d.b) (h2 : V d.k) (h3 : d.b = s.b ++ List.replicate (S.pg - s.b.length) 255) (h4 : d.er = s.er) (h5 : d.wr = s.wr) (h6 : d.b.length ≤ d.c) :
    Rf21 w' b g c (ad21 A x y d) tn ta tc la lc V { S with pa := up21 S.pa (x : Int) (y : Int) s } := by
  have hV : ∀ k, V k → w'.heap[k]? = w.heap[k]? := fun k e => hk.block k (h.vs k e) (fun q => h.vg x hx (q ▸ e))
  have hgne : ∀ z, z < 3 → z ≠ x → g z ≠ g x := fun z hz hne => by
    have := h.gi
    rcases (show x = 0 ∨ x = 1 ∨ x = 2 by omega) with rfl | rfl | rfl <;> rcases (show z = 0 ∨ z = 1 ∨ z = 2 by omega) with rfl | rfl | rfl <;> first | exact absurd rfl hne | exact this.1 | exact this.2.1 | exact this.2.2 | exact this.1.symm | exact this.2.1.symm | exact this.2.2.symm
  refine ⟨?_, fun z hz => ?_, fun z hz => ?_, fun z y' d' hz hy' => ?_, ⟨h.ht.1, h.ht.2.kp hV (fun _ e => e)⟩, ?_, h.gi, h.vb, h.vg, h.vl, fun k e => Nat.lt_of_lt_of_le (h.vs k e) hk.size⟩
  · rw [ad21_len, ad21_len, ad21_len]
    exact (hk.block b h.bl (h.bg hx)).trans h.hp
  · by_cases e : z = x
    · subst e
      obtain ⟨X, hX⟩ := hg
      exact ⟨X, by simpa [ad21] using hX⟩
    · obtain ⟨X, hX⟩ := h.ha z hz
      exact ⟨X, by simpa [ad21, e] using (hk.block _ (h.gl hz) (hgne z hz e)).trans hX⟩
  · rw [ad21_len]; exact h.hn z hz
  · have hfb : ∀ a b, fb21 { S with pa := up21 S.pa (x : Int) (y : Int) s } a b = (if a = (x : Int) ∧ b = (y : Int) then s.b ++ List.replicate (S.pg - s.b.length) 255 else fb21 S a b) := fun a b => by
      unfold fb21
      rw [sh21_up]
      split <;> rfl
    rw [hfb, sh21_up]
    by_cases e : z = x
    · subst e
      by_cases e2 : y' = y
      · subst e2
        have : d' = d := by simpa [ad21, hy] using hy'.symm
        subst this
        simp only [and_self, if_true]
        exact ⟨h1, h2, h3, h4, h5, h6⟩
      · have e2' : ¬ (y' : Int) = (y : Int) := by omega
        have hne : ¬ y = y' := fun q => e2 q.symm
        have : (A z)[y']? = some d' := by simpa [ad21, List.getElem?_set, hne] using hy'
        simp only [e2', and_false, if_false]
        obtain ⟨q1, q2, q3⟩ := h.hd z y' d' hz this
        refine ⟨q1.of_cells fun b' off' i v hi ha hc => ?_, q2, q3⟩
        cases ha
        rw [World.cell?_of_block (a := ⟨d'.k, d'.off + i, none⟩) (hV d'.k q2)]
        exact hc
    · have e' : ¬ (z : Int) = (x : Int) := by omega
      have : (A z)[y']? = some d' := by simpa [ad21, e] using hy'
      simp only [e', false_and, if_false]
      obtain ⟨q1, q2, q3⟩ := h.hd z y' d' hz this
      refine ⟨q1.of_cells fun b' off' i v hi ha hc => ?_, q2, q3⟩
      cases ha
      rw [World.cell?_of_block (a := ⟨d'.k, d'.off + i, none⟩) (hV d'.k q2)]
      exact hc
  · refine ⟨h.hl.1, ?_⟩
    rcases h.hl.2 with q | ⟨q, cap, cur, q1, q2, q3, q4⟩
    · exact .inl q
    · have hq := h.lo (k := q) (by rw [q1]; rfl)
      exact .inr ⟨q, cap, cur, q1, q2, (hk.block q hq.1 (hq.2.2 x hx)).trans q3, q4⟩
theorem Rf21.at (h : Rf21 w b g c A tn ta tc la lc V S) {x : Int} {y : Int} (hm : ms21 S.ps x y = 0) : ∃ (X Y : Nat) (d : Pd21), x = (X : Int) ∧ y = (Y : Int) ∧ X < 3 ∧ Y < (A X).length ∧ (A X)[Y]? = some d := by
  unfold ms21 pn21 at hm
  have hx : 0 ≤ x ∧ x ≤ 2 ∧ 0 ≤ y := by
    by_cases h1 : x < 0 ∨ 2 < x
    · simp [h1] at hm; omega
    · by_cases h2 : y < 0
      · simp [h2] at hm
      · omega
  obtain ⟨X, rfl⟩ : ∃ X : Nat, x = (X : Int) := ⟨x.toNat, by omega⟩
  obtain ⟨Y, rfl⟩ : ∃ Y : Nat, y = (Y : Int) := ⟨y.toNat, by omega⟩
  have h3 : X < 3 := by omega
  have hn := (h.hn X h3).1
  have hlt : Y < (A X).length := by
    have : ¬ ((Y : Int) < 0 ∨ pn21 S.ps (X : Int) ≤ (Y : Int)) := fun q => by
      unfold pn21 at q
      rw [if_pos q] at hm
      cases hm
    omega
  exact ⟨X, Y, _, rfl, rfl, h3, hlt, List.getElem?_eq_getElem hlt⟩
end
set_option maxRecDepth 100000 in
set_option maxHeartbeats 2000000 in
theorem ris21 {w : World} {b : Nat} {G : Nat → Prop} {S : Fs21} (h : Rl21d w b G S) (x y : Int) (hx : In21 x) (hy : In21 y) :
    Calls Tryd.prog 96 #[.pointer (some ⟨b, 0, none⟩), .int .i64 x, .int .i64 y] w fun e w' => e = .returned (.bool (decide (ms21 S.ps x y = 0))) ∧ w' = w := by
  obtain ⟨g, c, A, tn, ta, tc, la, lc, V, h1, -⟩ := h
  by_cases c1 : x < 0
  · have e : decide (ms21 S.ps x y = 0) = false := by simp [ms21, pn21, c1] <;> omega
    rw [e]
    have c1' : ¬ 0 ≤ x := by omega
    clear e h1
    go_enter Tryd.func96, Tryd.ntmps96
    go_wp2_with fail
    go_ret
    exact ⟨rfl, rfl⟩
  · have c1' : 0 ≤ x := by omega
    by_cases c2 : 2 < x
    · have e : decide (ms21 S.ps x y = 0) = false := by simp [ms21, pn21, c2] <;> omega
      rw [e]
      have c2' : ¬ x ≤ 2 := by omega
      clear e h1
      go_enter Tryd.func96, Tryd.ntmps96
      go_wp2_with fail
      go_ret
      exact ⟨rfl, rfl⟩
    · have c2' : x ≤ 2 := by omega
      by_cases c3 : y < 0
      · have e : decide (ms21 S.ps x y = 0) = false := by simp [ms21, c3]
        rw [e]
        have c3' : ¬ 0 ≤ y := by omega
        clear e h1
        go_enter Tryd.func96, Tryd.ntmps96
        go_wp2_with fail
        go_ret
        exact ⟨rfl, rfl⟩
      · have c3' : 0 ≤ y := by omega
        obtain ⟨X, rfl⟩ : ∃ X : Nat, x = (X : Int) := ⟨x.toNat, by omega⟩
        have h3 : X < 3 := by omega
        have hn := (h1.hn X h3).1
        have ca := h1.car h3
        obtain ⟨N, hN⟩ : ∃ N, N = (A X).length := ⟨_, rfl⟩
        rw [← hN] at ca hn
        have e : decide (ms21 S.ps (X : Int) y = 0) = decide (y < (N : Int)) := by
          unfold ms21
          rw [← hn]
          by_cases q : y < (N : Int)
          · simp [q]; omega
          · have q' : (N : Int) ≤ y := by omega
            simp [q, q']
        rw [e]
        have hX3 : (X : Int) < 3 := by omega
        clear e h1 hn hN c1 c2 c3
        go_enter Tryd.func96, Tryd.ntmps96
        go_wp2_with fail
        go_ret
        exact ⟨rfl, rfl⟩
set_option maxRecDepth 100000 in
set_option maxHeartbeats 2000000 in
theorem rtrn21 {w : World} {b : Nat} {G : Nat → Prop} {S : Fs21} (h : Rl21d w b G S) (hO : Ok21 S) :
    Calls Tryd.prog 59 #[.pointer (some ⟨b, 0, none⟩)] w fun e w' => e = .returned (.int .i64 (st21 S.on)) ∧ Rn21 w w' b G (tuS21 S) := by
  have HL : Hid (Rl21d w b G S) := h
  obtain ⟨g, c, A, tn, ta, tc, la, lc, V, h1, h2, h3, h4, h5, h6⟩ := h
  have c7 := h1.cel (i := 7) rfl
  have c2 := h1.cel (i := 2) rfl
  have y2 := h1.fr 2
  have HR : Hid (Rf21 w b g c A tn ta tc la lc V S ∧ G b ∧ (∀ x, x < 3 → G (g x)) ∧ (∀ k, (Value.slice la S.lg.length lc).ownBlock = some k → G k) ∧ (∀ k, V k → G k) ∧ (∀ k, G k → k < w.heap.size)) := ⟨h1, h2, h3, h4, h5, h6⟩
  clear h1 h2 h3 h4 h5 h6
  have hS : Hid (tuS21 S = if S.on then { S with ac := 1 - S.ac } else S) := rfl
  have hE : Hid (st21 S.on = if S.on then 0 else 213) := rfl
  rw [hS.out, hE.out]
  by_cases hon : S.on = true
  · rw [if_pos hon, if_pos hon]
    rw [hon] at c7
    have hac : IntKind.i64.wrap (1 - S.ac) = 1 - S.ac := by rw [IntWalk.i64_in _ (by have := hO.ac; omega)]
    clear hS hE
    go_enter Tryd.func59, Tryd.ntmps59
    go_wp2_with fail
    go_ret
    obtain ⟨h1, h2, h3, h4, h5, h6⟩ := HR.out
    have hk : Kp (fun k => k = b) w (w.setCell ⟨b, 2, none⟩ (.int .i64 (1 - S.ac))) := Kp.set (S := fun k => k = b) rfl _
    refine ⟨rfl, G, ⟨g, c, A, tn, ta, tc, la, lc, V, h1.re (S' := { S with ac := 1 - S.ac }) hk rfl rfl rfl rfl ⟨h1.ht.1, h1.ht.2⟩ (by simp [World.setCell, Array.getElem?_modify, h1.hp]), h2, h3, h4, h5, fun k e => Nat.lt_of_lt_of_le (h6 k e) hk.size⟩, fun _ e => .inl e, hk.mono (fun i _ e => by subst e; exact h2)⟩
  · rw [if_neg hon, if_neg hon]
    have hon' : S.on = false := by simpa using hon
    rw [hon'] at c7
    clear hS hE
    go_enter Tryd.func59, Tryd.ntmps59
    go_wp2_with fail
    go_ret
    exact ⟨rfl, HL.out.stay (Below.refl _ _)⟩
end Go.Proofs.YtmjlpfmacblcpaaDoor

namespace Go.Proofs.YtmjlpfmacblcpaaDoor
open Go.RowKit Go.Shelf
set_option linter.unusedVariables false
set_option linter.unusedSimpArgs false
theorem cl21_own {w : World} {N : Nat} {a : Option Addr} {c n : Nat} {zs : List Int} (h : w.ownsRow N 5 1 (.slice a n c) n (zs.map (Value.int .u8))) (hz : ∀ z ∈ zs, 0 ≤ z ∧ z ≤ 255) : Cl21 w a zs c N := by
  obtain ⟨-, a', cap', hv, hsg, hx, hcp, -⟩ := own_seg (M := 255) h (by decide) hz
  simp only [Value.slice.injEq] at hv
  obtain ⟨rfl, -, rfl⟩ := hv
  refine ⟨hsg, ?_, ?_, by have := h.1; simp at this; omega⟩
  · cases a with
    | none => exact .inl rfl
    | some x =>
      obtain ⟨h1, h2, h3, h4⟩ := hx x rfl
      refine .inr ⟨x.block, ?_, h3, h4⟩
      cases x; simp at h1 h2; simp [h1, h2]
  · intro h0
    subst h0
    rcases h.2 with ⟨h1, h2⟩ | ⟨g, cp, cur, hv, _⟩
    · simp at h1; exact h1.2
    · simp at hv
section
variable {w w' : World} {b : Nat} {g c : Nat → Nat} {A : Nat → List Pd21} {tn : List Int} {ta : Option Addr} {tc : Nat} {la : Option Addr} {lc : Nat} {V V' : Nat → Prop} {S S' : Fs21}
/-- Bytes of the call's own may be spoken of. -/
theorem Rf21.new (h : Rf21 w b g c A tn ta tc la lc V S) (hb : Below w.heap.size w w') (Q : Nat → Prop) (hQ : ∀ k, Q k → w.heap.size ≤ k ∧ k < w'.heap.size) : Rf21 w' b g c A tn ta tc la lc (fun k => V k ∨ Q k) S := by
  have h1 := h.bl
  refine (h.old hb).wid (fun _ e => .inl e) ?_ ?_ ?_ ?_
  · rintro (e | e)
    · exact h.vb e
    · have := hQ _ e; omega
  · rintro x hx (e | e)
    · exact h.vg x hx e
    · have := hQ _ e; have := h.gl hx; omega
  · rintro k hk (e | e)
    · exact h.vl k hk e
    · have := hQ _ e; have := (h.lo hk).1; omega
  · rintro k (e | e)
    · exact Nat.lt_of_lt_of_le (h.vs k e) hb.size
    · exact (hQ k e).2
end
set_option maxRecDepth 100000 in
set_option maxHeartbeats 4000000 in
theorem rpln21 {w : World} {b : Nat} {G : Nat → Prop} {S : Fs21} (h : Rl21d w b G S) (hO : Ok21 S) (n : Int) (a : Option Addr) (L : List Int) (l cap : Nat) (hs : Seg w a L) (hl : Hid (L.length = l)) (hnil : a = none → cap = 0) (hb48 : l ≤ 140737488351232) :
    Calls Tryd.prog 57 #[.pointer (some ⟨b, 0, none⟩), .int .i64 n, .slice a l cap] w fun e w' => e = .returned (.int .i64 (cuE21 S n l)) ∧ Rn21 w w' b G (cuS21 S n L) := by
  have HL : Hid (Rl21d w b G S) := h
  obtain ⟨g, c, A, tn, ta, tc, la, lc, V, h1, h2, h3, h4, h5, h6⟩ := h
  have c7 := h1.cel (i := 7) rfl
  have c0 := h1.cel (i := 0) rfl
  have HR : Hid (Rf21 w b g c A tn ta tc la lc V S ∧ G b ∧ (∀ x, x < 3 → G (g x)) ∧ (∀ k, (Value.slice la S.lg.length lc).ownBlock = some k → G k) ∧ (∀ k, V k → G k) ∧ (∀ k, G k → k < w.heap.size)) := ⟨h1, h2, h3, h4, h5, h6⟩
  clear h1 h2 h3 h4 h5 h6
  have hS : Hid (cuS21 S n L = if S.on = false then S else if n < 0 ∨ S.pg < l then S else { S with lf := n, tn := if 0 < n then L else [] }) := by show _ = _; unfold cuS21; rw [hl.out]
  have hE : Hid (cuE21 S n l = if S.on = false then 213 else if n < 0 ∨ S.pg < l then 1 else 0) := rfl
  rw [hS.out, hE.out]
  clear hS hE
  by_cases hon : S.on = false
  · rw [if_pos hon, if_pos hon]
    rw [hon] at c7
    go_enter Tryd.func57, Tryd.ntmps57
    go_wp2_with fail
    go_ret
    exact ⟨rfl, HL.out.stay (Below.refl _ _)⟩
  · rw [if_neg hon, if_neg hon]
    have hon' : S.on = true := by simpa using hon
    rw [hon'] at c7
    by_cases hn : n < 0
    · rw [if_pos (.inl hn), if_pos (.inl hn)]
      go_enter Tryd.func57, Tryd.ntmps57
      go_wp2_with fail
      go_ret
      exact ⟨rfl, HL.out.stay (Below.refl _ _)⟩
    · by_cases hp : S.pg < l
      · rw [if_pos (.inr hp), if_pos (.inr hp)]
        have hpi : (S.pg : Int) < (l : Int) := by omega
        go_enter Tryd.func57, Tryd.ntmps57
        go_wp2_with fail
        go_ret
        exact ⟨rfl, HL.out.stay (Below.refl _ _)⟩
      · rw [if_neg (by omega), if_neg (by omega)]
        have hpi : ¬ (S.pg : Int) < (l : Int) := by omega
        obtain ⟨i0, hi, hz0, hz1, hz2⟩ := info_parts info_y21
        have hm0 : (w.alloc (.cells #[] 5)).ownsRow w.heap.size 5 1 (.slice (some ⟨w.heap.size, 0, none⟩) 0 0) 0 [] := World.ownsRow_made w #[] 0 (Nat.le_refl _) (by decide) rfl
        have hb0 : Below w.heap.size w (w.alloc (.cells #[] 5)) := (Below.refl _ _).alloc (Nat.le_refl _) _
        have hs1 := hs.alloc (.cells #[] 5)
        have hmem := hs.mem
        have HLN := hl.out
        subst HLN
        have HRE : Hid (∀ (w1 : World) (a1 : Option Addr) (c1 : Nat), Below w.heap.size w w1 → Cl21 w1 a1 L c1 w.heap.size → w1.cell? ⟨b, 8, none⟩ = some (.int .i64 S.lf) ∧ w1.cell? ⟨b, 9, none⟩ = some (.slice ta tn.length tc) ∧ (∀ i, w1.frozen? ⟨b, i, none⟩ = false) ∧ Rn21 w ((w1.setCell ⟨b, 8, none⟩ (.int .i64 n)).setCell ⟨b, 9, none⟩ (.slice a1 L.length c1)) b G { S with lf := n, tn := if 0 < n then L else [] }) := fun w1 a1 c1 hb hc => by
          obtain ⟨h1, h2, h3, h4, h5, h6⟩ := HR.out
          have q := h1.old hb
          have hnew := h1.new hb (fun k => a1 = some ⟨k, 0, none⟩) (fun k e => by
            rcases hc.2.1 with e2 | ⟨k', e2, e3, e4⟩
            · rw [e2] at e; cases e
            · rw [e2] at e; cases e; exact ⟨e3, e4⟩)
          refine ⟨q.cel (i := 8) rfl, q.cel (i := 9) rfl, q.fr, ?_⟩
          have hk : Kp (fun k => k = b) w1 ((w1.setCell ⟨b, 8, none⟩ (.int .i64 n)).setCell ⟨b, 9, none⟩ (.slice a1 L.length c1)) := (Kp.set (S := fun k => k = b) rfl _).trans (Kp.set (S := fun k => k = b) rfl _) (fun _ _ e => e)
          have hre := hnew.re (S' := { S with lf := n, tn := if 0 < n then L else [] }) hk rfl rfl rfl rfl (tn' := L) (ta' := a1) (tc' := c1) ⟨fun e => by show L = if 0 < n then L else []; rw [if_pos]; have : n ≠ 0 := e; omega, hc.1, by rcases hc.2.1 with e2 | ⟨k', e2, e3, e4⟩; (exact .inl e2); (exact .inr ⟨k', e2, .inr e2⟩), hc.2.2.1, hc.2.2.2⟩ (by simp [World.setCell, Array.getElem?_modify, hnew.hp])
          refine ⟨fun k => G k ∨ a1 = some ⟨k, 0, none⟩, ⟨g, c, A, L, a1, c1, la, lc, _, hre, .inl h2, fun x hx => .inl (h3 x hx), fun k e => .inl (h4 k e), fun k e => by rcases e with e | e; (exact .inl (h5 k e)); (exact .inr e), fun k e => ?_⟩, fun k e => ?_, ?_⟩
          · rcases e with e | e
            · exact Nat.lt_of_lt_of_le (h6 k e) (Nat.le_trans hb.size hk.size)
            · rcases hc.2.1 with e2 | ⟨k', e2, e3, e4⟩
              · rw [e2] at e; cases e
              · rw [e2] at e; cases e; exact Nat.lt_of_lt_of_le e4 hk.size
          · rcases e with e | e
            · exact .inl e
            · rcases hc.2.1 with e2 | ⟨k', e2, e3, e4⟩
              · rw [e2] at e; cases e
              · rw [e2] at e; cases e; exact .inr e3
          · exact (Kp.of_below hb).trans (hk.mono (S' := G) (fun i _ e => by subst e; exact h2)) (fun _ _ e => e)
        clear hs hl HL
        generalize ({ S with lf := n, tn := if 0 < n then L else [] } : Fs21) = S1 at HRE ⊢
        go_enter Tryd.func57, Tryd.ntmps57
        go_wp2_with (first
          | (at_builtin; refine wpList_appS rfl (.tmp 25) (.tmp 26) 22 rfl w.heap.size 5 i0 (.int .u8 0) 1 Tryd.underlying22 hi hz0 hz1 hz2 rfl hm0 hs1 hnil rfl rfl (by omega) (by omega) (by have := hb0.size; omega) ?_; intro a1 c1 w1 hown1 hg1 hf1 hn1; have hb1 := hb0.trans (below_own hm0 hg1 (by have := hb0.size; omega)); rw [Nat.zero_add, List.nil_append] at hown1; obtain ⟨e8, e9, ef, HRN⟩ := HRE.out w1 a1 c1 hb1 (cl21_own hown1 hmem); have HRN' : Hid (Rn21 w ((w1.setCell ⟨b, 8, none⟩ (.int .i64 n)).setCell ⟨b, 9, none⟩ (.slice a1 L.length c1)) b G S1) := HRN; have f8 := ef 8; have f9 := ef 9; clear hf1 hg1 hn1 hown1 HRN ef hb1 hm0 hs1 hb0))
        go_ret
        exact ⟨rfl, HRN'.out⟩
end Go.Proofs.YtmjlpfmacblcpaaDoor

namespace Go.Proofs.YtmjlpfmacblcpaaDoor
open Go.RowKit Go.Shelf
set_option linter.unusedVariables false
set_option linter.unusedSimpArgs false
theorem info_opd21 : (Tryd.prog.info? 177).map (fun i => (i.zero, i.size, i.bytes)) = some (some (.agg #[.int .i64 0, .int .i64 0, .int .i64 0]), 3, 24) := by kernel_rfl
theorem run_log21d (w0 : World) (la : Option Addr) (n lc : Nat) (L : List (Int × Int × Int)) (hn : L.length = n) (k x y : Int) (hl : w0.ownsRow 0 177 3 (.slice la n lc) n (lgc21 L)) (hb : n ≤ 5500000002000) (ty : TypeId) :
    ∃ g cap w', (Builtin.append_ #[105, 105] ty #[.slice la n lc, .slice (some ⟨w0.heap.size, 0, none⟩) 1 1]).run Tryd.prog (w0.alloc (.cells #[.int .i64 k, .int .i64 x, .int .i64 y] 177)) = .ok (.slice (some ⟨g, 0, none⟩) (n + 1) cap) w' ∧
      w'.ownsRow 0 177 3 (.slice (some ⟨g, 0, none⟩) (n + 1) cap) (n + 1) (lgc21 (L ++ [(k, x, y)])) ∧ Kp (fun j => (Value.slice la n lc).ownBlock = some j) w0 w' ∧ ((Value.slice la n lc).ownBlock = some g ∨ w0.heap.size ≤ g) := by
  obtain ⟨i0, hi, hz0, hz1, hz2⟩ := info_parts info_opd21
  have hnew : ∀ j u, ([.int .i64 k, .int .i64 x, .int .i64 y] : List Value)[j]? = some u → (w0.alloc (.cells #[.int .i64 k, .int .i64 x, .int .i64 y] 177)).cell? ((⟨w0.heap.size, 0, none⟩ : Addr).add j) = some u := by
    intro j u hu
    have hadd : (⟨w0.heap.size, 0, none⟩ : Addr).add j = ⟨w0.heap.size, j, none⟩ := by unfold Addr.add; split <;> simp_all
    rw [hadd]
    have hh := heap_alloc_new w0 (.cells #[.int .i64 k, .int .i64 x, .int .i64 y] 177)
    simp only [World.cell?, hh]
    simpa using hu
  obtain ⟨g, cap, w', h1, h2, h3, h4, h5⟩ := run_append_lies (P := Tryd.prog) (w := w0.alloc (.cells #[.int .i64 k, .int .i64 x, .int .i64 y] 177)) 105 ty 0 177 i0 _ 3 24 Tryd.underlying105 hi hz0 hz1 hz2 rfl (by decide) _ n _ (hl.alloc _) ⟨w0.heap.size, 0, none⟩ 1 1 [.int .i64 k, .int .i64 x, .int .i64 y] rfl hnew (by intro u hu; simp only [List.mem_cons, List.not_mem_nil, or_false] at hu; rcases hu with rfl | rfl | rfl <;> rfl) (by decide) (by unfold maxLen; omega) (by omega) (by omega) (w0.heap.size + 1) (by simp)
  refine ⟨g, cap, w', h1, by rw [lgc21_app]; exact h2, (Kp.alloc w0 _).trans (Kp.grown (S := fun j => (Value.slice la n lc).ownBlock = some j) h3 (fun i e => e)) (fun _ _ e => e), ?_⟩
  rcases h4 with h4 | h4
  · exact .inl h4
  · exact .inr (by omega)
theorem set_left21 {α : Type} (A B : List α) (i : Nat) (x : α) (h : i < A.length) : (A ++ B).set i x = A.set i x ++ B := by rw [List.set_append, if_pos h]
theorem set_same21 {α : Type} (l : List α) (i : Nat) (v : α) (h : l[i]? = some v) : l.set i v = l := by
  apply List.ext_getElem?
  intro j
  rw [List.getElem?_set]
  split
  · rename_i e
    subst e
    split
    · exact h.symm
    · rename_i hlt
      rw [List.getElem?_eq_none (by omega)] at h; cases h
  · rfl
section
variable {w w' : World} {b : Nat} {g c : Nat → Nat} {A : Nat → List Pd21} {tn : List Int} {ta : Option Addr} {tc : Nat} {la : Option Addr} {lc : Nat} {V V' : Nat → Prop} {S S' : Fs21}
theorem Rf21.log (h : Rf21 w b g c A tn ta tc la lc V S) {w1 w2 : World} {q cap : Nat} {o : Int × Int × Int} (hk : Kp (fun j => (Value.slice la S.lg.length lc).ownBlock = some j) w w1) (hl : w1.ownsRow 0 177 3 (.slice (some ⟨q, 0, none⟩) (S.lg.length + 1) cap) (S.lg.length + 1) (lgc21 (S.lg ++ [o])))
    (hq : (Value.slice la S.lg.length lc).ownBlock = some q ∨ w.heap.size ≤ q) (h2 : w2 = w1.setCell ⟨b, 6, none⟩ (.slice (some ⟨q, 0, none⟩) (S.lg.length + 1) cap)) :
    Rf21 w2 b g c A tn ta tc (some ⟨q, 0, none⟩) cap V { S with lg := S.lg ++ [o] } ∧ Kp (fun j => j = b ∨ (Value.slice la S.lg.length lc).ownBlock = some j) w w2 := by
  have hb : w1.heap[b]? = w.heap[b]? := hk.block b h.bl (fun e => (h.lo e).2.1 rfl)
  have hg : ∀ x, x < 3 → w1.heap[g x]? = w.heap[g x]? := fun x hx => hk.block (g x) (h.gl hx) (fun e => (h.lo e).2.2 x hx rfl)
  have hqb : q ≠ b := by
    rcases hq with hq | hq
    · exact (h.lo hq).2.1
    · have := h.bl; omega
  have ks : Kp (fun j => j = b) w1 w2 := by rw [h2]; exact Kp.set (S := fun j => j = b) rfl _
  have hv1 : ∀ k, V k → w1.heap[k]? = w.heap[k]? := fun k e => hk.block k (h.vs k e) (fun e' => h.vl k e' e)
  have hv : ∀ k, V k → w2.heap[k]? = w.heap[k]? := fun k e => (ks.block k (Nat.lt_of_lt_of_le (h.vs k e) hk.size) (fun e' => h.vb (e' ▸ e))).trans (hv1 k e)
  refine ⟨⟨?_, fun x hx => ?_, h.hn, fun x y d hx hy => ?_, ⟨h.ht.1, h.ht.2.kp hv (fun _ e => e)⟩, ?_, h.gi, h.vb, h.vg, ?_, fun k e => Nat.lt_of_lt_of_le (h.vs k e) (Nat.le_trans hk.size ks.size)⟩, ?_⟩
  · have := hb.trans h.hp
    rw [h2]
    simp [World.setCell, Array.getElem?_modify, this]
  · obtain ⟨X, hX⟩ := h.ha x hx
    exact ⟨X, (ks.block (g x) (Nat.lt_of_lt_of_le (h.gl hx) hk.size) (fun e => h.bg hx e.symm)).trans ((hg x hx).trans hX)⟩
  · obtain ⟨q1, q2, q3⟩ := h.hd x y d hx hy
    refine ⟨q1.of_cells fun b' off' i v hi ha hc => ?_, q2, q3⟩
    cases ha
    rw [World.cell?_of_block (a := ⟨d.k, d.off + i, none⟩) (hv d.k q2)]
    exact hc
  · show w2.ownsRow 0 _ 3 (.slice (some ⟨q, 0, none⟩) (S.lg ++ [o]).length cap) (S.lg ++ [o]).length _
    rw [List.length_append, List.length_singleton]
    refine ⟨hl.1, ?_⟩
    rcases hl.2 with q0 | ⟨g', cap', cur, q1, q2, q3, q4⟩
    · exact .inl q0
    · simp only [Value.slice.injEq, Option.some.injEq, Addr.mk.injEq] at q1
      obtain ⟨⟨rfl, -⟩, -, rfl⟩ := q1
      exact .inr ⟨q, cap, cur, rfl, q2, (ks.block q (Array.getElem?_eq_some_iff.1 q3).1 hqb).trans q3, q4⟩
  · intro k e
    simp [Value.ownBlock] at e
    subst e
    rcases hq with hq | hq
    · exact h.vl _ hq
    · exact fun e => by have := h.vs _ e; omega
  · exact (hk.mono (fun i _ e => .inr e)).trans (ks.mono (fun i _ e => .inl e)) (fun _ _ e => e)
/-- Cells of a page's row written. -/
theorem pgrow21 {q : Nat} {L : List Pd21} {X : List Value} {y : Nat} {d d' : Pd21} (hX : w.heap[q]? = some (.cells (pdl21 L ++ X).toArray 110 (0, 0))) (hy : L[y]? = some d) :
    (((w.setCell ⟨q, y * 3, none⟩ (.slice (some ⟨d'.k, d'.off, none⟩) d'.b.length d'.c)).setCell ⟨q, y * 3 + 1, none⟩ (.bool d'.er)).setCell ⟨q, y * 3 + 2, none⟩ (.int .i64 d'.wr)).heap[q]? = some (.cells (pdl21 (L.set y d') ++ X).toArray 110 (0, 0)) := by
  have hlt : y < L.length := by
    rcases Nat.lt_or_ge y L.length with h | h
    · exact h
    · rw [List.getElem?_eq_none h] at hy; cases hy
  have hl := pdl21_len L
  rw [pdl21_set L y d d' hy]
  simp only [World.setCell, Array.getElem?_modify, hX]
  simp
  rw [set_left21 _ _ _ _ (by omega), set_left21 _ _ _ _ (by simp; omega), set_left21 _ _ _ _ (by simp; omega)]
theorem pgrow21_two {q : Nat} {L : List Pd21} {X : List Value} {y : Nat} {d d' : Pd21} (hX : w.heap[q]? = some (.cells (pdl21 L ++ X).toArray 110 (0, 0))) (hy : L[y]? = some d) (e : d'.wr = d.wr) :
    ((w.setCell ⟨q, y * 3, none⟩ (.slice (some ⟨d'.k, d'.off, none⟩) d'.b.length d'.c)).setCell ⟨q, y * 3 + 1, none⟩ (.bool d'.er)).heap[q]? = some (.cells (pdl21 (L.set y d') ++ X).toArray 110 (0, 0)) := by
  have hlt : y < L.length := by
    rcases Nat.lt_or_ge y L.length with h | h
    · exact h
    · rw [List.getElem?_eq_none h] at hy; cases hy
  have hl := pdl21_len L
  have hs : (((pdl21 L).set (y * 3) (.slice (some ⟨d'.k, d'.off, none⟩) d'.b.length d'.c)).set (y * 3 + 1) (.bool d'.er)).set (y * 3 + 2) (.int .i64 d'.wr) = ((pdl21 L).set (y * 3) (.slice (some ⟨d'.k, d'.off, none⟩) d'.b.length d'.c)).set (y * 3 + 1) (.bool d'.er) := by
    apply set_same21
    rw [List.getElem?_set_ne (by omega), List.getElem?_set_ne (by omega), e]
    exact (pdl21_get L y d hy).2.2
  rw [pdl21_set L y d d' hy, hs]
  simp only [World.setCell, Array.getElem?_modify, hX]
  simp
  rw [set_left21 _ _ _ _ (by omega), set_left21 _ _ _ _ (by simp; omega)]
theorem pgrow21_one {q : Nat} {L : List Pd21} {X : List Value} {y : Nat} {d : Pd21} (hX : w.heap[q]? = some (.cells (pdl21 L ++ X).toArray 110 (0, 0))) (hy : L[y]? = some d) (n : Int) :
    (w.setCell ⟨q, y * 3 + 2, none⟩ (.int .i64 n)).heap[q]? = some (.cells (pdl21 (L.set y { d with wr := n }) ++ X).toArray 110 (0, 0)) := by
  have hlt : y < L.length := by
    rcases Nat.lt_or_ge y L.length with h | h
    · exact h
    · rw [List.getElem?_eq_none h] at hy; cases hy
  have hl := pdl21_len L
  have hg := pdl21_get L y d hy
  have hs : (((pdl21 L).set (y * 3) (.slice (some ⟨d.k, d.off, none⟩) d.b.length d.c)).set (y * 3 + 1) (.bool d.er)).set (y * 3 + 2) (.int .i64 n) = (pdl21 L).set (y * 3 + 2) (.int .i64 n) := by
    rw [set_same21 _ _ _ hg.1, set_same21 _ _ _ hg.2.1]
  rw [pdl21_set L y d { d with wr := n } hy, hs]
  simp only [World.setCell, Array.getElem?_modify, hX]
  simp
  rw [set_left21 _ _ _ _ (by omega)]
end
def dnS21 (S : Fs21) (kd x y : Int) : Fs21 := if S.lf = 1 then cu21 S kd x y (sh21 S x y) else { S with lg := S.lg ++ [(kd, x, y)], lf := max 0 (S.lf - 1) }
theorem la21_fb {S : Fs21} (h : Ok21 S) (x y : Int) : S.tn ++ (fb21 S x y).drop S.tn.length = la21 S.pg S.tn (sh21 S x y).b := by
  have h1 := (sh21_ok h x y).1
  have h2 := h.tn
  unfold la21 sp21 fb21
  simp
end Go.Proofs.YtmjlpfmacblcpaaDoor
