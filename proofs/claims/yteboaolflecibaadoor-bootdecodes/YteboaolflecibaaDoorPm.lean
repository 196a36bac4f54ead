import Derived.Test.YteboaolflecibaaDoorPi
import Derived.Test.YteboaolflecibaaDoorPl
import Derived.Deep.CutRange
namespace Go.Proofs.YteboaolflecibaaDoor
open Go.RowKit Go.Shelf
set_option linter.unusedVariables false
set_option linter.unusedSimpArgs false
set_option maxRecDepth 100000 in
theorem rmore25 (zs : List Int) (a : Option Addr) (n cap : Nat) (w : World) (hs : Seg w a zs) (hn : Hid (zs.length = n)) (hl : n ≤ 9223372036854775807) :
    Calls Tryd.prog 46 #[.int .u32 0, .slice a n cap] w fun e w' => e = .returned (.int .u32 (wI (sumW zs))) ∧ w' = w := by
  have e0 := hn.out
  subst e0
  have hsg := u32_unsigned
  have h0 := wI_not 0#32
  rw [show wI 0#32 = 0 from rfl] at h0
  have hn2 := wI_not (runW (~~~ 0#32) zs)
  have e1 : sumW zs = ~~~ (runW (~~~ 0#32) zs) := rfl
  rw [show (~~~ 0#32 : W32) = 4294967295#32 from rfl] at h0 hn2 e1
  rw [e1]
  go_enter Tryd.func46, Tryd.ntmps46
  go_wp2_with (go_at_call 79; refine (run_any _ _ _ _ _ hs hl).mono ?_; rintro e w' ⟨rfl, hw'⟩; subst w')
  go_ret
  exact ⟨rfl, rfl⟩
/-- All blocks that are no rows of bytes are kept. -/
def Ky25 (w w' : World) : Prop := w.heap.size ≤ w'.heap.size ∧ ∀ (j : Nat) (cs : Array Value) (t : TypeId) (fr : Nat × Nat), w.heap[j]? = some (.cells cs t fr) → t ≠ 5 → w'.heap[j]? = some (.cells cs t fr)
theorem Ky25.of_below {a b : World} (h : Below a.heap.size a b) : Ky25 a b := ⟨h.size, fun j cs t fr hj _ => (h.block j (Array.getElem?_eq_some_iff.1 hj).1).trans hj⟩
theorem Ky25.trans {a b c : World} (h : Ky25 a b) (k : Ky25 b c) : Ky25 a c := ⟨Nat.le_trans h.1 k.1, fun j cs t fr hj ht => k.2 j cs t fr (h.2 j cs t fr hj ht) ht⟩
theorem appc25 (V : World) {g m c2 : Nat} {p2 : Option Addr} {M N : List Int} (hN : N = mg25 ++ M) (hs : Seg V (some ⟨g, 0, none⟩) mg25) (h2 : Seg V p2 M) (hm : M.length = m) (hp : 0 < m) (hn : m ≤ 100000) :
    ∃ p c w', (Builtin.append_ #[28, 28] 28 #[.slice (some ⟨g, 0, none⟩) 4 4, .slice p2 m c2]).run Tryd.prog V = .ok (.slice p N.length c) w' ∧ w'.ownsRow V.heap.size 5 1 (.slice p N.length c) N.length (N.map (Value.int .u8)) ∧ Below V.heap.size V w' := by
  obtain ⟨i0, hi, hz0, hz1, hz2⟩ := info_parts info_y25
  subst hm
  obtain ⟨sg, soff, rfl, _⟩ := h2.at_ 0 (by omega)
  obtain ⟨v', w', hr, ho, hg⟩ := run_append_arg_grows (P := Tryd.prog) (w := V) 28 28 5 i0 _ 1 1 Tryd.underlying28 hi hz0 hz1 hz2 rfl (by omega) ⟨g, 0, none⟩ 4 4 (mg25.map (Value.int .u8)) rfl
    (seg_cells hs) ⟨sg, soff, none⟩ M.length c2 (M.map (Value.int .u8)) (by simp) (seg_cells h2) (by omega) (by unfold maxLen; omega) (by omega)
  obtain ⟨p, c, rfl⟩ := own_sl21 ho
  subst hN
  rw [List.length_append, List.map_append]
  exact ⟨p, c, w', hr, ho, (Below.refl _ _).grown hg (Nat.le_refl _) (by intro k e; cases e)⟩
set_option maxRecDepth 100000 in
set_option maxHeartbeats 4000000 in
theorem rputa25 {w : World} {g : Nat} {M : List Int} {v : Int} {s : Nat} (hs : Seg w (some ⟨g, 0, none⟩) mg25) (h1 : 1 ≤ s) (h8 : s ≤ 8) (hv0 : 0 ≤ v) (hv1 : v ≤ 18446744073709551615) (hr : v / 2 ^ (8 * s) = 0) (hM : M = mg25 ++ fixL s v) :
    Calls Tryd.prog 45 #[.slice (some ⟨g, 0, none⟩) 4 4, .int .u64 v, .int .i64 s] w fun e w' => ∃ p c, e = .returned (.slice p M.length c) ∧ w'.ownsRow w.heap.size 5 1 (.slice p M.length c) M.length (M.map (Value.int .u8)) ∧ Below w.heap.size w w' := by
  have HF := rfixed_any v s w h1 h8 hv0 hv1
  have HR : Hid (v / 2 ^ (8 * s) = 0 ∧ 1 ≤ s ∧ s ≤ 8) := ⟨hr, h1, h8⟩
  have HMM : Hid (M = mg25 ++ fixL s v) := hM
  have HSG : Hid (Seg w (some ⟨g, 0, none⟩) mg25) := hs
  clear h1 h8 hv0 hv1 hr hM hs
  go_enter Tryd.func45, Tryd.ntmps45
  go_wp2_with fail
  refine HF.mono ?_
  rintro e1 w1 ⟨b1, ⟨hb, _⟩ | ⟨_, b, rfl, o1⟩⟩
  · exact absurd HR.out.1 hb
  obtain ⟨hlen, a2, cc2, rfl, sg, -⟩ := own_seg (M := 255) o1 (by decide) (fixL_bd _ _)
  obtain ⟨p3, c3, v3, hr3, o3, b3⟩ := appc25 w1 (m := s) (N := M) (c2 := cc2) HMM.out (HSG.out.old b1) sg (fixL_len _ _) (by have := HR.out; omega) (by have := HR.out; omega)
  have H3 : Hid (v3.ownsRow w.heap.size 5 1 (.slice p3 M.length c3) M.length (M.map (Value.int .u8)) ∧ Below w.heap.size w v3) := ⟨own_base21 o3 b1.size, b1.trans (b3.mono b1.size)⟩
  clear o1 sg o3 b3 HF b1 hlen
  go_wp2_with (refine wpList_app21 rfl (.tmp 15) (.tmp 16) 28 rfl rfl rfl hr3 ?_)
  go_ret
  exact ⟨p3, c3, rfl, H3.out.1, H3.out.2⟩
set_option maxRecDepth 100000 in
set_option maxHeartbeats 4000000 in
theorem rputo25 {w : World} {N c : Nat} {p : Option Addr} {L M : List Int} {v : Int} {s : Nat} (hNw : N ≤ w.heap.size) (ho : w.ownsRow N 5 1 (.slice p L.length c) L.length (L.map (Value.int .u8))) (h1 : 1 ≤ s) (h8 : s ≤ 8) (hv0 : 0 ≤ v) (hv1 : v ≤ 18446744073709551615) (hr : v / 2 ^ (8 * s) = 0) (hL : L.length ≤ 1000) (hM : M = L ++ fixL s v) :
    Calls Tryd.prog 45 #[.slice p L.length c, .int .u64 v, .int .i64 s] w fun e w' => ∃ p c, e = .returned (.slice p M.length c) ∧ w'.ownsRow N 5 1 (.slice p M.length c) M.length (M.map (Value.int .u8)) ∧ Below N w w' ∧ Ky25 w w' := by
  have HF := rfixed_any v s w h1 h8 hv0 hv1
  have HR : Hid (v / 2 ^ (8 * s) = 0 ∧ 1 ≤ s ∧ s ≤ 8 ∧ L.length ≤ 1000 ∧ N ≤ w.heap.size) := ⟨hr, h1, h8, hL, hNw⟩
  have HMM : Hid (M = L ++ fixL s v) := hM
  have HO : Hid (w.ownsRow N 5 1 (.slice p L.length c) L.length (L.map (Value.int .u8))) := ho
  clear h1 h8 hv0 hv1 hr hM hL hNw ho
  go_enter Tryd.func45, Tryd.ntmps45
  go_wp2_with fail
  refine HF.mono ?_
  rintro e1 w1 ⟨b1, ⟨hb, _⟩ | ⟨_, b, rfl, o1⟩⟩
  · exact absurd HR.out.1 hb
  obtain ⟨hlen, a2, cc2, rfl, sg, -⟩ := own_seg (M := 255) o1 (by decide) (fixL_bd _ _)
  have o0 := own_below21 HO.out b1
  obtain ⟨g3, c3, v3, hr3, o3, b3, k3⟩ := app21 w1 (m := s) (N := M) (c2 := cc2) HMM.out o0 sg (fixL_len _ _) (by have := HR.out; omega) (by have := HR.out; omega) (by have := HR.out; have := b1.size; omega)
  have H3 : Hid (v3.ownsRow N 5 1 (.slice (some ⟨g3, 0, none⟩) M.length c3) M.length (M.map (Value.int .u8)) ∧ Below N w v3 ∧ Ky25 w v3) := ⟨o3, (b1.mono HR.out.2.2.2.2).trans b3, (Ky25.of_below b1).trans ⟨k3.size, fun j cs t fr hj ht => k3.heap hj (fun e => ht (own_ty25 o0 e hj))⟩⟩
  clear o1 sg o3 b3 HF b1 hlen o0 k3
  go_wp2_with (refine wpList_app21 rfl (.tmp 15) (.tmp 16) 28 rfl rfl rfl hr3 ?_)
  go_ret
  exact ⟨_, c3, rfl, H3.out.1, H3.out.2.1, H3.out.2.2⟩
/-- What holds at the head of the document's loop. -/
def Hy25 (w : World) (N rb ib : Nat) (CS I8 : Array Value) (E : Nat → List Int) (t5 t25 : Value) (V : World) : Prop := ∃ i : Nat, i ≤ 2 ∧ t25 = .int .i64 (i : Int) ∧ ∃ p c, t5 = .slice p (E (1 + 4 * i)).length c ∧ V.ownsRow N 5 1 (.slice p (E (1 + 4 * i)).length c) (E (1 + 4 * i)).length ((E (1 + 4 * i)).map (Value.int .u8)) ∧ V.heap[rb]? = some (.cells CS 27 (0, 0)) ∧ V.heap[ib]? = some (.cells I8 25 (0, 0)) ∧ Below N w V
set_option maxRecDepth 100000 in
set_option maxHeartbeats 16000000 in
theorem rencode25 (r : Rc25) (hw : r.wd) (w : World) : Calls Tryd.prog 12 #[.agg r.cs] w fun e w' => ∃ p c, e = .returned (.tuple #[.slice p (en25 r).length c, .int .i64 (ck25 r)]) ∧ w'.ownsRow w.heap.size 5 1 (.slice p (en25 r).length c) (en25 r).length ((en25 r).map (Value.int .u8)) ∧ Below w.heap.size w w' := by
  have HC : Hid (∀ W, Calls Tryd.prog 14 #[.agg r.cs] W fun e w' => e = .returned (.int .i64 (ck25 r)) ∧ Below W.heap.size W w') := fun W => rcheck25 r W
  by_cases hm : r.may
  rotate_left
  · have hE : en25 r = [] := if_neg hm
    have hK : ck25 r = 250 := if_neg hm
    rw [hE]
    rw [hK] at HC ⊢
    clear hE hK hm hw
    obtain ⟨q, ⟨gs, gv, gz, gm⟩, ⟨ns, nv, nz, nm⟩, t⟩ := r
    unfold Rc25.cs at HC ⊢
    simp only at HC ⊢
    obtain ⟨wB, hwB⟩ : ∃ wB, wB = w.alloc (.cells #[.int .i64 q, .int .i64 gs, .int .i64 gv, .int .i64 gz, .int .u32 gm, .int .i64 ns, .int .i64 nv, .int .i64 nz, .int .u32 nm, .int .i64 t] 27) := ⟨_, rfl⟩
    have bB : Below w.heap.size w wB := by rw [hwB]; exact ((Below.refl _ _).alloc (by simp <;> omega) _)
    have q1 : wB.heap[w.heap.size]? = some (.cells #[.int .i64 q, .int .i64 gs, .int .i64 gv, .int .i64 gz, .int .u32 gm, .int .i64 ns, .int .i64 nv, .int .i64 nz, .int .u32 nm, .int .i64 t] 27 (0, 0)) := by rw [hwB]; exact heap_alloc_new _ _
    have HQ : Hid (∀ V, Below wB.heap.size wB V → Below w.heap.size w V ∧ V.heap[w.heap.size]? = some (.cells #[.int .i64 q, .int .i64 gs, .int .i64 gv, .int .i64 gz, .int .u32 gm, .int .i64 ns, .int .i64 nv, .int .i64 nz, .int .u32 nm, .int .i64 t] 27 (0, 0))) := fun V hV => ⟨bB.trans (hV.mono bB.size), (hV.block _ (Array.getElem?_eq_some_iff.1 q1).1).trans q1⟩
    have HWB : Hid (w.alloc (.cells #[.int .i64 q, .int .i64 gs, .int .i64 gv, .int .i64 gz, .int .u32 gm, .int .i64 ns, .int .i64 nv, .int .i64 nz, .int .u32 nm, .int .i64 t] 27) = wB) := hwB.symm
    clear bB hwB q1
    go_enter Tryd.func12, Tryd.ntmps12
    go_wp2_with fail
    rw [HWB.out]
    refine (HC.out wB).mono ?_
    rintro e1 w1 ⟨rfl, b1⟩
    have B1 : Hid _ := (HQ.out w1 b1).1
    clear b1
    go_wp2_with fail
    go_ret2
    exact ⟨none, 0, rfl, ⟨rfl, .inl ⟨rfl, rfl⟩⟩, B1.out⟩
  have hE : en25 r = by25 r := if_pos hm
  have hK : ck25 r = 0 := if_pos hm
  rw [hE]
  rw [hK] at HC ⊢
  have fit := fun k hk => vs25_fit hm hw k hk
  clear hE hK hm
  obtain ⟨q, ⟨gs, gv, gz, gm⟩, ⟨ns, nv, nz, nm⟩, t⟩ := r
  have F0 : Hid (0 ≤ q ∧ q ≤ 9223372036854775807 ∧ q / 2 ^ (8 * 8) = 0) := by have h := fit 0 (by omega); exact ⟨h.1, h.2.1, h.2.2.1⟩
  have w0 : IntKind.u64.wrap q = q := IntWalk.u64_in _ (by have := F0.out; omega)
  have F1 : Hid (0 ≤ gs ∧ gs ≤ 9223372036854775807 ∧ gs / 2 ^ (8 * 1) = 0) := by have h := fit 1 (by omega); exact ⟨h.1, h.2.1, h.2.2.1⟩
  have w1 : IntKind.u64.wrap gs = gs := IntWalk.u64_in _ (by have := F1.out; omega)
  have F2 : Hid (0 ≤ gv ∧ gv ≤ 9223372036854775807 ∧ gv / 2 ^ (8 * 4) = 0) := by have h := fit 2 (by omega); exact ⟨h.1, h.2.1, h.2.2.1⟩
  have w2 : IntKind.u64.wrap gv = gv := IntWalk.u64_in _ (by have := F2.out; omega)
  have F3 : Hid (0 ≤ gz ∧ gz ≤ 9223372036854775807 ∧ gz / 2 ^ (8 * 4) = 0) := by have h := fit 3 (by omega); exact ⟨h.1, h.2.1, h.2.2.1⟩
  have w3 : IntKind.u64.wrap gz = gz := IntWalk.u64_in _ (by have := F3.out; omega)
  have F4 : Hid (0 ≤ gm ∧ gm ≤ 9223372036854775807 ∧ gm / 2 ^ (8 * 4) = 0) := by have h := fit 4 (by omega); exact ⟨h.1, h.2.1, h.2.2.1⟩
  have w4 : IntKind.u64.wrap gm = gm := IntWalk.u64_in _ (by have := F4.out; omega)
  have F5 : Hid (0 ≤ ns ∧ ns ≤ 9223372036854775807 ∧ ns / 2 ^ (8 * 1) = 0) := by have h := fit 5 (by omega); exact ⟨h.1, h.2.1, h.2.2.1⟩
  have w5 : IntKind.u64.wrap ns = ns := IntWalk.u64_in _ (by have := F5.out; omega)
  have F6 : Hid (0 ≤ nv ∧ nv ≤ 9223372036854775807 ∧ nv / 2 ^ (8 * 4) = 0) := by have h := fit 6 (by omega); exact ⟨h.1, h.2.1, h.2.2.1⟩
  have w6 : IntKind.u64.wrap nv = nv := IntWalk.u64_in _ (by have := F6.out; omega)
  have F7 : Hid (0 ≤ nz ∧ nz ≤ 9223372036854775807 ∧ nz / 2 ^ (8 * 4) = 0) := by have h := fit 7 (by omega); exact ⟨h.1, h.2.1, h.2.2.1⟩
  have w7 : IntKind.u64.wrap nz = nz := IntWalk.u64_in _ (by have := F7.out; omega)
  have F8 : Hid (0 ≤ nm ∧ nm ≤ 9223372036854775807 ∧ nm / 2 ^ (8 * 4) = 0) := by have h := fit 8 (by omega); exact ⟨h.1, h.2.1, h.2.2.1⟩
  have w8 : IntKind.u64.wrap nm = nm := IntWalk.u64_in _ (by have := F8.out; omega)
  have F9 : Hid (0 ≤ t ∧ t ≤ 9223372036854775807 ∧ t / 2 ^ (8 * 1) = 0) := by have h := fit 9 (by omega); exact ⟨h.1, h.2.1, h.2.2.1⟩
  have w9 : IntKind.u64.wrap t = t := IntWalk.u64_in _ (by have := F9.out; omega)
  clear fit hw
  obtain ⟨E, hE⟩ : ∃ E : Nat → List Int, E = be25 (⟨q, ⟨gs, gv, gz, gm⟩, ⟨ns, nv, nz, nm⟩, t⟩ : Rc25) := ⟨_, rfl⟩
  have HES : Hid (E 0 = mg25 ∧ (∀ n, n ≤ 10 → (E n).length ≤ 84) ∧ (∀ n, ∀ z ∈ E n, 0 ≤ z ∧ z ≤ 255)) := by show _; rw [hE]; exact ⟨rfl, fun n hn => by have := be25_len (⟨q, ⟨gs, gv, gz, gm⟩, ⟨ns, nv, nz, nm⟩, t⟩ : Rc25) n hn; omega, be25_bd (⟨q, ⟨gs, gv, gz, gm⟩, ⟨ns, nv, nz, nm⟩, t⟩ : Rc25)⟩
  have X0 : Hid (E 1 = E 0 ++ fixL 8 q) := by show _; rw [hE]; rfl
  have X1 : Hid (E 2 = E 1 ++ fixL 1 gs) := by show _; rw [hE]; rfl
  have X2 : Hid (E 3 = E 2 ++ fixL 4 gv) := by show _; rw [hE]; rfl
  have X3 : Hid (E 4 = E 3 ++ fixL 4 gz) := by show _; rw [hE]; rfl
  have X4 : Hid (E 5 = E 4 ++ fixL 4 gm) := by show _; rw [hE]; rfl
  have X5 : Hid (E 6 = E 5 ++ fixL 1 ns) := by show _; rw [hE]; rfl
  have X6 : Hid (E 7 = E 6 ++ fixL 4 nv) := by show _; rw [hE]; rfl
  have X7 : Hid (E 8 = E 7 ++ fixL 4 nz) := by show _; rw [hE]; rfl
  have X8 : Hid (E 9 = E 8 ++ fixL 4 nm) := by show _; rw [hE]; rfl
  have X9 : Hid (E 10 = E 9 ++ fixL 1 t) := by show _; rw [hE]; rfl
  have HBY : Hid (by25 (⟨q, ⟨gs, gv, gz, gm⟩, ⟨ns, nv, nz, nm⟩, t⟩ : Rc25) = E 10 ++ sm21 (E 10)) := by rw [hE]; exact rfl
  obtain ⟨BY, hBY⟩ : ∃ l, l = by25 (⟨q, ⟨gs, gv, gz, gm⟩, ⟨ns, nv, nz, nm⟩, t⟩ : Rc25) := ⟨_, rfl⟩
  rw [← hBY] at HBY ⊢
  clear hE hBY
  unfold Rc25.cs at HC ⊢
  simp only at HC ⊢
  obtain ⟨wB, hwB⟩ : ∃ wB, wB = w.alloc (.cells #[.int .i64 q, .int .i64 gs, .int .i64 gv, .int .i64 gz, .int .u32 gm, .int .i64 ns, .int .i64 nv, .int .i64 nz, .int .u32 nm, .int .i64 t] 27) := ⟨_, rfl⟩
  have bB : Below w.heap.size w wB := by rw [hwB]; exact ((Below.refl _ _).alloc (by simp <;> omega) _)
  have q1 : wB.heap[w.heap.size]? = some (.cells #[.int .i64 q, .int .i64 gs, .int .i64 gv, .int .i64 gz, .int .u32 gm, .int .i64 ns, .int .i64 nv, .int .i64 nz, .int .u32 nm, .int .i64 t] 27 (0, 0)) := by rw [hwB]; exact heap_alloc_new _ _
  have HQ : Hid (∀ V, Below wB.heap.size wB V → Below w.heap.size w V ∧ V.heap[w.heap.size]? = some (.cells #[.int .i64 q, .int .i64 gs, .int .i64 gv, .int .i64 gz, .int .u32 gm, .int .i64 ns, .int .i64 nv, .int .i64 nz, .int .u32 nm, .int .i64 t] 27 (0, 0))) := fun V hV => ⟨bB.trans (hV.mono bB.size), (hV.block _ (Array.getElem?_eq_some_iff.1 q1).1).trans q1⟩
  have HWB : Hid (w.alloc (.cells #[.int .i64 q, .int .i64 gs, .int .i64 gv, .int .i64 gz, .int .u32 gm, .int .i64 ns, .int .i64 nv, .int .i64 nz, .int .u32 nm, .int .i64 t] 27) = wB) := hwB.symm
  clear bB hwB q1
  go_enter Tryd.func12, Tryd.ntmps12
  go_wp2_with fail
  rw [HWB.out]
  refine (HC.out wB).mono ?_
  rintro e1 w1 ⟨rfl, b1⟩
  have H1 : Hid _ := HQ.out w1 b1
  obtain ⟨c0, c1, c2, c3, c4, c5, c6, c7, c8, c9⟩ := cells25 (g := ⟨gs, gv, gz, gm⟩) (n := ⟨ns, nv, nz, nm⟩) H1.out.2
  clear b1
  have hcv := Lib.run_convert_bytes_const (P := Tryd.prog) w1 28 5 #[.int .u8 98, .int .u8 116, .int .u8 48, .int .u8 49] 4 4 Tryd.underlying28 Tryd.underlying5
  have hsM := seg_lit w1 mg25 5 (4, 5) (by decide)
  obtain ⟨w2, hw2⟩ : ∃ v, v = w1.alloc (.cells #[.int .u8 98, .int .u8 116, .int .u8 48, .int .u8 49] 5 (4, 5)) := ⟨_, rfl⟩
  have b2 : Below w1.heap.size w1 w2 := by rw [hw2]; exact (Below.refl _ _).alloc (Nat.le_refl _) _
  have q2 : w2.heap[w.heap.size]? = some (.cells #[.int .i64 q, .int .i64 gs, .int .i64 gv, .int .i64 gz, .int .u32 gm, .int .i64 ns, .int .i64 nv, .int .i64 nz, .int .u32 nm, .int .i64 t] 27 (0, 0)) := (b2.block _ (Array.getElem?_eq_some_iff.1 H1.out.2).1).trans H1.out.2
  obtain ⟨d0, d1, d2, d3, d4, d5, d6, d7, d8, d9⟩ := cells25 (g := ⟨gs, gv, gz, gm⟩) (n := ⟨ns, nv, nz, nm⟩) q2
  have HW2 : Hid (w1.alloc (.cells #[.int .u8 98, .int .u8 116, .int .u8 48, .int .u8 49] 5 (4, 5)) = w2) := hw2.symm
  have hsM2 : Seg w2 (some ⟨w1.heap.size, 0, none⟩) mg25 := by rw [hw2]; exact hsM
  have H2 : Hid (Seg w2 (some ⟨w1.heap.size, 0, none⟩) mg25 ∧ w2.heap[w.heap.size]? = some (.cells #[.int .i64 q, .int .i64 gs, .int .i64 gv, .int .i64 gz, .int .u32 gm, .int .i64 ns, .int .i64 nv, .int .i64 nz, .int .u32 nm, .int .i64 t] 27 (0, 0)) ∧ Below w.heap.size w w2) := ⟨hsM2, q2, H1.out.1.trans (b2.mono H1.out.1.size)⟩
  have dd0 : (w1.alloc (.cells #[.int .u8 98, .int .u8 116, .int .u8 48, .int .u8 49] 5 (4, 5))).cell? ⟨w.heap.size, 0, none⟩ = some (.int .i64 q) := by rw [HW2.out]; exact d0
  clear hw2 b2 q2 hsM hsM2
  go_wp2_with fail
  clear dd0
  rw [HW2.out]
  refine (rputa25 (M := E 1) H2.out.1 (s := 8) (by omega) (by omega) F0.out.1 (by have := F0.out; omega) F0.out.2.2 (by rw [X0.out, HES.out.1])).mono ?_
  rintro e2 w3 ⟨p, c, rfl, o3, b3⟩
  have H3 : Hid (w3.ownsRow w.heap.size 5 1 (.slice p (E 1).length c) (E 1).length ((E 1).map (Value.int .u8)) ∧ w3.heap[w.heap.size]? = some (.cells #[.int .i64 q, .int .i64 gs, .int .i64 gv, .int .i64 gz, .int .u32 gm, .int .i64 ns, .int .i64 nv, .int .i64 nz, .int .u32 nm, .int .i64 t] 27 (0, 0)) ∧ Below w.heap.size w w3) := ⟨own_base21 o3 H2.out.2.2.size, (b3.block _ (Array.getElem?_eq_some_iff.1 H2.out.2.1).1).trans H2.out.2.1, H2.out.2.2.trans (b3.mono H2.out.2.2.size)⟩
  clear c0 c1 c2 c3 c4 c5 c6 c7 c8 c9 d0 d1 d2 d3 d4 d5 d6 d7 d8 d9 hcv o3 b3
  obtain ⟨c0, c1, c2, c3, c4, c5, c6, c7, c8, c9⟩ := cells25 (g := ⟨gs, gv, gz, gm⟩) (n := ⟨ns, nv, nz, nm⟩) H3.out.2.1
  obtain ⟨w4, hw4⟩ : ∃ v, v = w3.alloc (.cells #[.int .i64 gs, .int .i64 gv, .int .i64 gz, .int .u32 gm, .int .i64 ns, .int .i64 nv, .int .i64 nz, .int .u32 nm] 25) := ⟨_, rfl⟩
  obtain ⟨ib, hib⟩ : ∃ b, b = w3.heap.size := ⟨_, rfl⟩
  have b4 : Below w3.heap.size w3 w4 := by rw [hw4]; exact (Below.refl _ _).alloc (Nat.le_refl _) _
  have q4 : w4.heap[ib]? = some (.cells #[.int .i64 gs, .int .i64 gv, .int .i64 gz, .int .u32 gm, .int .i64 ns, .int .i64 nv, .int .i64 nz, .int .u32 nm] 25 (0, 0)) := by rw [hw4, hib]; exact heap_alloc_new _ _
  have H4 : Hid (Hy25 w w.heap.size w.heap.size ib #[.int .i64 q, .int .i64 gs, .int .i64 gv, .int .i64 gz, .int .u32 gm, .int .i64 ns, .int .i64 nv, .int .i64 nz, .int .u32 nm, .int .i64 t] #[.int .i64 gs, .int .i64 gv, .int .i64 gz, .int .u32 gm, .int .i64 ns, .int .i64 nv, .int .i64 nz, .int .u32 nm] E (.slice p (E 1).length c) (.int .i64 0) w4) := ⟨0, by omega, rfl, p, c, rfl, own_below21 H3.out.1 b4, (b4.block _ (Array.getElem?_eq_some_iff.1 H3.out.2.1).1).trans H3.out.2.1, q4, H3.out.2.2.trans (b4.mono H3.out.2.2.size)⟩
  have HW4 : Hid (w3.alloc (.cells #[.int .i64 gs, .int .i64 gv, .int .i64 gz, .int .u32 gm, .int .i64 ns, .int .i64 nv, .int .i64 nz, .int .u32 nm] 25) = w4 ∧ w3.heap.size = ib) := ⟨hw4.symm, hib.symm⟩
  clear hw4 hib b4 q4
  go_wp2_with fail
  rw [HW4.out.1, HW4.out.2]
  clear c0 c1 c2 c3 c4 c5 c6 c7 c8 c9
  go_loopw [5, 25] (fun t5 t25 V => Hy25 w w.heap.size w.heap.size ib #[.int .i64 q, .int .i64 gs, .int .i64 gv, .int .i64 gz, .int .u32 gm, .int .i64 ns, .int .i64 nv, .int .i64 nz, .int .u32 nm, .int .i64 t] #[.int .i64 gs, .int .i64 gv, .int .i64 gz, .int .u32 gm, .int .i64 ns, .int .i64 nv, .int .i64 nz, .int .u32 nm] E t5 t25 V) (fun _ t25 _ => 2 - (intOf t25).toNat)
  case atStart => exact H4.out
  case round =>
    obtain ⟨i, hi, rfl, p, c, rfl, ho, hr, hq, hB⟩ := hrel
    have HR : Hid (wr.ownsRow w.heap.size 5 1 (.slice p (E (1 + 4 * i)).length c) (E (1 + 4 * i)).length ((E (1 + 4 * i)).map (Value.int .u8)) ∧ wr.heap[w.heap.size]? = some (.cells #[.int .i64 q, .int .i64 gs, .int .i64 gv, .int .i64 gz, .int .u32 gm, .int .i64 ns, .int .i64 nv, .int .i64 nz, .int .u32 nm, .int .i64 t] 27 (0, 0)) ∧ wr.heap[ib]? = some (.cells #[.int .i64 gs, .int .i64 gv, .int .i64 gz, .int .u32 gm, .int .i64 ns, .int .i64 nv, .int .i64 nz, .int .u32 nm] 25 (0, 0)) ∧ Below w.heap.size w wr) := ⟨ho, hr, hq, hB⟩
    clear ho hr hq hB H4 HW4 H3 H2 HW2 H1 HQ HWB HC
    rcases (by omega : i = 0 ∨ i = 1 ∨ i = 2) with rfl | rfl | rfl
    · have e0 : wr.cell? ⟨ib, 0, none⟩ = some (.int .i64 gs) := cell25 HR.out.2.2.1 rfl
      have e1 : wr.cell? ⟨ib, 1, none⟩ = some (.int .i64 gv) := cell25 HR.out.2.2.1 rfl
      have e2 : wr.cell? ⟨ib, 2, none⟩ = some (.int .i64 gz) := cell25 HR.out.2.2.1 rfl
      have e3 : wr.cell? ⟨ib, 3, none⟩ = some (.int .u32 gm) := cell25 HR.out.2.2.1 rfl
      obtain ⟨v0, hv0⟩ : ∃ v, v = wr.alloc (.cells #[.int .i64 gs, .int .i64 gv, .int .i64 gz, .int .u32 gm] 25) := ⟨_, rfl⟩
      obtain ⟨tb, htb⟩ : ∃ b, b = wr.heap.size := ⟨_, rfl⟩
      have b0 : Below wr.heap.size wr v0 := by rw [hv0]; exact (Below.refl _ _).alloc (Nat.le_refl _) _
      have J0 : Hid (v0.ownsRow w.heap.size 5 1 (.slice p (E 1).length c) (E 1).length ((E 1).map (Value.int .u8)) ∧ v0.heap[w.heap.size]? = some (.cells #[.int .i64 q, .int .i64 gs, .int .i64 gv, .int .i64 gz, .int .u32 gm, .int .i64 ns, .int .i64 nv, .int .i64 nz, .int .u32 nm, .int .i64 t] 27 (0, 0)) ∧ v0.heap[ib]? = some (.cells #[.int .i64 gs, .int .i64 gv, .int .i64 gz, .int .u32 gm, .int .i64 ns, .int .i64 nv, .int .i64 nz, .int .u32 nm] 25 (0, 0)) ∧ v0.heap[tb]? = some (.cells #[.int .i64 gs, .int .i64 gv, .int .i64 gz, .int .u32 gm] 25 (0, 0)) ∧ Below w.heap.size w v0) := ⟨own_below21 HR.out.1 b0, (b0.block _ (Array.getElem?_eq_some_iff.1 HR.out.2.1).1).trans HR.out.2.1, (b0.block _ (Array.getElem?_eq_some_iff.1 HR.out.2.2.1).1).trans HR.out.2.2.1, by rw [hv0, htb]; exact heap_alloc_new _ _, HR.out.2.2.2.trans (b0.mono HR.out.2.2.2.size)⟩
      have HV0 : Hid (wr.alloc (.cells #[.int .i64 gs, .int .i64 gv, .int .i64 gz, .int .u32 gm] 25) = v0 ∧ wr.heap.size = tb) := ⟨hv0.symm, htb.symm⟩
      clear hv0 htb b0
      go_upto_region 8 with fail
      rw [HV0.out.1, HV0.out.2]
      clear e0 e1 e2 e3 HV0
      have f0 : v0.cell? ⟨tb, 0, none⟩ = some (.int .i64 gs) := cell25 J0.out.2.2.2.1 rfl
      go_wp2_with fail
      refine (rputo25 (M := E 2) J0.out.2.2.2.2.size J0.out.1 (s := 1) (by omega) (by omega) F1.out.1 (by have := F1.out; omega) F1.out.2.2 (by have := HES.out.2.1 1 (by omega); omega) X1.out).mono ?_
      rintro ee v1 ⟨p1, k1, rfl, oo, bb, ky⟩
      have J1 : Hid (v1.ownsRow w.heap.size 5 1 (.slice p1 (E 2).length k1) (E 2).length ((E 2).map (Value.int .u8)) ∧ v1.heap[w.heap.size]? = some (.cells #[.int .i64 q, .int .i64 gs, .int .i64 gv, .int .i64 gz, .int .u32 gm, .int .i64 ns, .int .i64 nv, .int .i64 nz, .int .u32 nm, .int .i64 t] 27 (0, 0)) ∧ v1.heap[ib]? = some (.cells #[.int .i64 gs, .int .i64 gv, .int .i64 gz, .int .u32 gm, .int .i64 ns, .int .i64 nv, .int .i64 nz, .int .u32 nm] 25 (0, 0)) ∧ v1.heap[tb]? = some (.cells #[.int .i64 gs, .int .i64 gv, .int .i64 gz, .int .u32 gm] 25 (0, 0)) ∧ Below w.heap.size w v1) := ⟨oo, ky.2 _ _ _ _ J0.out.2.1 (by decide), ky.2 _ _ _ _ J0.out.2.2.1 (by decide), ky.2 _ _ _ _ J0.out.2.2.2.1 (by decide), J0.out.2.2.2.2.trans bb⟩
      clear f0 oo bb ky
      have f1 : v1.cell? ⟨tb, 1, none⟩ = some (.int .i64 gv) := cell25 J1.out.2.2.2.1 rfl
      go_wp2_with fail
      refine (rputo25 (M := E 3) J1.out.2.2.2.2.size J1.out.1 (s := 4) (by omega) (by omega) F2.out.1 (by have := F2.out; omega) F2.out.2.2 (by have := HES.out.2.1 2 (by omega); omega) X2.out).mono ?_
      rintro ee v2 ⟨p2, k2, rfl, oo, bb, ky⟩
      have J2 : Hid (v2.ownsRow w.heap.size 5 1 (.slice p2 (E 3).length k2) (E 3).length ((E 3).map (Value.int .u8)) ∧ v2.heap[w.heap.size]? = some (.cells #[.int .i64 q, .int .i64 gs, .int .i64 gv, .int .i64 gz, .int .u32 gm, .int .i64 ns, .int .i64 nv, .int .i64 nz, .int .u32 nm, .int .i64 t] 27 (0, 0)) ∧ v2.heap[ib]? = some (.cells #[.int .i64 gs, .int .i64 gv, .int .i64 gz, .int .u32 gm, .int .i64 ns, .int .i64 nv, .int .i64 nz, .int .u32 nm] 25 (0, 0)) ∧ v2.heap[tb]? = some (.cells #[.int .i64 gs, .int .i64 gv, .int .i64 gz, .int .u32 gm] 25 (0, 0)) ∧ Below w.heap.size w v2) := ⟨oo, ky.2 _ _ _ _ J1.out.2.1 (by decide), ky.2 _ _ _ _ J1.out.2.2.1 (by decide), ky.2 _ _ _ _ J1.out.2.2.2.1 (by decide), J1.out.2.2.2.2.trans bb⟩
      clear f1 oo bb ky
      have f2 : v2.cell? ⟨tb, 2, none⟩ = some (.int .i64 gz) := cell25 J2.out.2.2.2.1 rfl
      go_wp2_with fail
      refine (rputo25 (M := E 4) J2.out.2.2.2.2.size J2.out.1 (s := 4) (by omega) (by omega) F3.out.1 (by have := F3.out; omega) F3.out.2.2 (by have := HES.out.2.1 3 (by omega); omega) X3.out).mono ?_
      rintro ee v3 ⟨p3, k3, rfl, oo, bb, ky⟩
      have J3 : Hid (v3.ownsRow w.heap.size 5 1 (.slice p3 (E 4).length k3) (E 4).length ((E 4).map (Value.int .u8)) ∧ v3.heap[w.heap.size]? = some (.cells #[.int .i64 q, .int .i64 gs, .int .i64 gv, .int .i64 gz, .int .u32 gm, .int .i64 ns, .int .i64 nv, .int .i64 nz, .int .u32 nm, .int .i64 t] 27 (0, 0)) ∧ v3.heap[ib]? = some (.cells #[.int .i64 gs, .int .i64 gv, .int .i64 gz, .int .u32 gm, .int .i64 ns, .int .i64 nv, .int .i64 nz, .int .u32 nm] 25 (0, 0)) ∧ v3.heap[tb]? = some (.cells #[.int .i64 gs, .int .i64 gv, .int .i64 gz, .int .u32 gm] 25 (0, 0)) ∧ Below w.heap.size w v3) := ⟨oo, ky.2 _ _ _ _ J2.out.2.1 (by decide), ky.2 _ _ _ _ J2.out.2.2.1 (by decide), ky.2 _ _ _ _ J2.out.2.2.2.1 (by decide), J2.out.2.2.2.2.trans bb⟩
      clear f2 oo bb ky
      have f3 : v3.cell? ⟨tb, 3, none⟩ = some (.int .u32 gm) := cell25 J3.out.2.2.2.1 rfl
      go_wp2_with fail
      refine (rputo25 (M := E 5) J3.out.2.2.2.2.size J3.out.1 (s := 4) (by omega) (by omega) F4.out.1 (by have := F4.out; omega) F4.out.2.2 (by have := HES.out.2.1 4 (by omega); omega) X4.out).mono ?_
      rintro ee v4 ⟨p4, k4, rfl, oo, bb, ky⟩
      have J4 : Hid (v4.ownsRow w.heap.size 5 1 (.slice p4 (E 5).length k4) (E 5).length ((E 5).map (Value.int .u8)) ∧ v4.heap[w.heap.size]? = some (.cells #[.int .i64 q, .int .i64 gs, .int .i64 gv, .int .i64 gz, .int .u32 gm, .int .i64 ns, .int .i64 nv, .int .i64 nz, .int .u32 nm, .int .i64 t] 27 (0, 0)) ∧ v4.heap[ib]? = some (.cells #[.int .i64 gs, .int .i64 gv, .int .i64 gz, .int .u32 gm, .int .i64 ns, .int .i64 nv, .int .i64 nz, .int .u32 nm] 25 (0, 0)) ∧ v4.heap[tb]? = some (.cells #[.int .i64 gs, .int .i64 gv, .int .i64 gz, .int .u32 gm] 25 (0, 0)) ∧ Below w.heap.size w v4) := ⟨oo, ky.2 _ _ _ _ J3.out.2.1 (by decide), ky.2 _ _ _ _ J3.out.2.2.1 (by decide), ky.2 _ _ _ _ J3.out.2.2.2.1 (by decide), J3.out.2.2.2.2.trans bb⟩
      clear f3 oo bb ky
      go_wp2_with fail
      go_roundw
      case rel => exact ⟨1, by omega, rfl, p4, k4, rfl, J4.out.1, J4.out.2.1, J4.out.2.2.1, J4.out.2.2.2.2⟩
      case measure => simp [intOf]
    · have e0 : wr.cell? ⟨ib, 4, none⟩ = some (.int .i64 ns) := cell25 HR.out.2.2.1 rfl
      have e1 : wr.cell? ⟨ib, 5, none⟩ = some (.int .i64 nv) := cell25 HR.out.2.2.1 rfl
      have e2 : wr.cell? ⟨ib, 6, none⟩ = some (.int .i64 nz) := cell25 HR.out.2.2.1 rfl
      have e3 : wr.cell? ⟨ib, 7, none⟩ = some (.int .u32 nm) := cell25 HR.out.2.2.1 rfl
      obtain ⟨v0, hv0⟩ : ∃ v, v = wr.alloc (.cells #[.int .i64 ns, .int .i64 nv, .int .i64 nz, .int .u32 nm] 25) := ⟨_, rfl⟩
      obtain ⟨tb, htb⟩ : ∃ b, b = wr.heap.size := ⟨_, rfl⟩
      have b0 : Below wr.heap.size wr v0 := by rw [hv0]; exact (Below.refl _ _).alloc (Nat.le_refl _) _
      have J0 : Hid (v0.ownsRow w.heap.size 5 1 (.slice p (E 5).length c) (E 5).length ((E 5).map (Value.int .u8)) ∧ v0.heap[w.heap.size]? = some (.cells #[.int .i64 q, .int .i64 gs, .int .i64 gv, .int .i64 gz, .int .u32 gm, .int .i64 ns, .int .i64 nv, .int .i64 nz, .int .u32 nm, .int .i64 t] 27 (0, 0)) ∧ v0.heap[ib]? = some (.cells #[.int .i64 gs, .int .i64 gv, .int .i64 gz, .int .u32 gm, .int .i64 ns, .int .i64 nv, .int .i64 nz, .int .u32 nm] 25 (0, 0)) ∧ v0.heap[tb]? = some (.cells #[.int .i64 ns, .int .i64 nv, .int .i64 nz, .int .u32 nm] 25 (0, 0)) ∧ Below w.heap.size w v0) := ⟨own_below21 HR.out.1 b0, (b0.block _ (Array.getElem?_eq_some_iff.1 HR.out.2.1).1).trans HR.out.2.1, (b0.block _ (Array.getElem?_eq_some_iff.1 HR.out.2.2.1).1).trans HR.out.2.2.1, by rw [hv0, htb]; exact heap_alloc_new _ _, HR.out.2.2.2.trans (b0.mono HR.out.2.2.2.size)⟩
      have HV0 : Hid (wr.alloc (.cells #[.int .i64 ns, .int .i64 nv, .int .i64 nz, .int .u32 nm] 25) = v0 ∧ wr.heap.size = tb) := ⟨hv0.symm, htb.symm⟩
      clear hv0 htb b0
      go_upto_region 8 with fail
      rw [HV0.out.1, HV0.out.2]
      clear e0 e1 e2 e3 HV0
      have f0 : v0.cell? ⟨tb, 0, none⟩ = some (.int .i64 ns) := cell25 J0.out.2.2.2.1 rfl
      go_wp2_with fail
      refine (rputo25 (M := E 6) J0.out.2.2.2.2.size J0.out.1 (s := 1) (by omega) (by omega) F5.out.1 (by have := F5.out; omega) F5.out.2.2 (by have := HES.out.2.1 5 (by omega); omega) X5.out).mono ?_
      rintro ee v1 ⟨p1, k1, rfl, oo, bb, ky⟩
      have J1 : Hid (v1.ownsRow w.heap.size 5 1 (.slice p1 (E 6).length k1) (E 6).length ((E 6).map (Value.int .u8)) ∧ v1.heap[w.heap.size]? = some (.cells #[.int .i64 q, .int .i64 gs, .int .i64 gv, .int .i64 gz, .int .u32 gm, .int .i64 ns, .int .i64 nv, .int .i64 nz, .int .u32 nm, .int .i64 t] 27 (0, 0)) ∧ v1.heap[ib]? = some (.cells #[.int .i64 gs, .int .i64 gv, .int .i64 gz, .int .u32 gm, .int .i64 ns, .int .i64 nv, .int .i64 nz, .int .u32 nm] 25 (0, 0)) ∧ v1.heap[tb]? = some (.cells #[.int .i64 ns, .int .i64 nv, .int .i64 nz, .int .u32 nm] 25 (0, 0)) ∧ Below w.heap.size w v1) := ⟨oo, ky.2 _ _ _ _ J0.out.2.1 (by decide), ky.2 _ _ _ _ J0.out.2.2.1 (by decide), ky.2 _ _ _ _ J0.out.2.2.2.1 (by decide), J0.out.2.2.2.2.trans bb⟩
      clear f0 oo bb ky
      have f1 : v1.cell? ⟨tb, 1, none⟩ = some (.int .i64 nv) := cell25 J1.out.2.2.2.1 rfl
      go_wp2_with fail
      refine (rputo25 (M := E 7) J1.out.2.2.2.2.size J1.out.1 (s := 4) (by omega) (by omega) F6.out.1 (by have := F6.out; omega) F6.out.2.2 (by have := HES.out.2.1 6 (by omega); omega) X6.out).mono ?_
      rintro ee v2 ⟨p2, k2, rfl, oo, bb, ky⟩
      have J2 : Hid (v2.ownsRow w.heap.size 5 1 (.slice p2 (E 7).length k2) (E 7).length ((E 7).map (Value.int .u8)) ∧ v2.heap[w.heap.size]? = some (.cells #[.int .i64 q, .int .i64 gs, .int .i64 gv, .int .i64 gz, .int .u32 gm, .int .i64 ns, .int .i64 nv, .int .i64 nz, .int .u32 nm, .int .i64 t] 27 (0, 0)) ∧ v2.heap[ib]? = some (.cells #[.int .i64 gs, .int .i64 gv, .int .i64 gz, .int .u32 gm, .int .i64 ns, .int .i64 nv, .int .i64 nz, .int .u32 nm] 25 (0, 0)) ∧ v2.heap[tb]? = some (.cells #[.int .i64 ns, .int .i64 nv, .int .i64 nz, .int .u32 nm] 25 (0, 0)) ∧ Below w.heap.size w v2) := ⟨oo, ky.2 _ _ _ _ J1.out.2.1 (by decide), ky.2 _ _ _ _ J1.out.2.2.1 (by decide), ky.2 _ _ _ _ J1.out.2.2.2.1 (by decide), J1.out.2.2.2.2.trans bb⟩
      clear f1 oo bb ky
      have f2 : v2.cell? ⟨tb, 2, none⟩ = some (.int .i64 nz) := cell25 J2.out.2.2.2.1 rfl
      go_wp2_with fail
      refine (rputo25 (M := E 8) J2.out.2.2.2.2.size J2.out.1 (s := 4) (by omega) (by omega) F7.out.1 (by have := F7.out; omega) F7.out.2.2 (by have := HES.out.2.1 7 (by omega); omega) X7.out).mono ?_
      rintro ee v3 ⟨p3, k3, rfl, oo, bb, ky⟩
      have J3 : Hid (v3.ownsRow w.heap.size 5 1 (.slice p3 (E 8).length k3) (E 8).length ((E 8).map (Value.int .u8)) ∧ v3.heap[w.heap.size]? = some (.cells #[.int .i64 q, .int .i64 gs, .int .i64 gv, .int .i64 gz, .int .u32 gm, .int .i64 ns, .int .i64 nv, .int .i64 nz, .int .u32 nm, .int .i64 t] 27 (0, 0)) ∧ v3.heap[ib]? = some (.cells #[.int .i64 gs, .int .i64 gv, .int .i64 gz, .int .u32 gm, .int .i64 ns, .int .i64 nv, .int .i64 nz, .int .u32 nm] 25 (0, 0)) ∧ v3.heap[tb]? = some (.cells #[.int .i64 ns, .int .i64 nv, .int .i64 nz, .int .u32 nm] 25 (0, 0)) ∧ Below w.heap.size w v3) := ⟨oo, ky.2 _ _ _ _ J2.out.2.1 (by decide), ky.2 _ _ _ _ J2.out.2.2.1 (by decide), ky.2 _ _ _ _ J2.out.2.2.2.1 (by decide), J2.out.2.2.2.2.trans bb⟩
      clear f2 oo bb ky
      have f3 : v3.cell? ⟨tb, 3, none⟩ = some (.int .u32 nm) := cell25 J3.out.2.2.2.1 rfl
      go_wp2_with fail
      refine (rputo25 (M := E 9) J3.out.2.2.2.2.size J3.out.1 (s := 4) (by omega) (by omega) F8.out.1 (by have := F8.out; omega) F8.out.2.2 (by have := HES.out.2.1 8 (by omega); omega) X8.out).mono ?_
      rintro ee v4 ⟨p4, k4, rfl, oo, bb, ky⟩
      have J4 : Hid (v4.ownsRow w.heap.size 5 1 (.slice p4 (E 9).length k4) (E 9).length ((E 9).map (Value.int .u8)) ∧ v4.heap[w.heap.size]? = some (.cells #[.int .i64 q, .int .i64 gs, .int .i64 gv, .int .i64 gz, .int .u32 gm, .int .i64 ns, .int .i64 nv, .int .i64 nz, .int .u32 nm, .int .i64 t] 27 (0, 0)) ∧ v4.heap[ib]? = some (.cells #[.int .i64 gs, .int .i64 gv, .int .i64 gz, .int .u32 gm, .int .i64 ns, .int .i64 nv, .int .i64 nz, .int .u32 nm] 25 (0, 0)) ∧ v4.heap[tb]? = some (.cells #[.int .i64 ns, .int .i64 nv, .int .i64 nz, .int .u32 nm] 25 (0, 0)) ∧ Below w.heap.size w v4) := ⟨oo, ky.2 _ _ _ _ J3.out.2.1 (by decide), ky.2 _ _ _ _ J3.out.2.2.1 (by decide), ky.2 _ _ _ _ J3.out.2.2.2.1 (by decide), J3.out.2.2.2.2.trans bb⟩
      clear f3 oo bb ky
      go_wp2_with fail
      go_roundw
      case rel => exact ⟨2, by omega, rfl, p4, k4, rfl, J4.out.1, J4.out.2.1, J4.out.2.2.1, J4.out.2.2.2.2⟩
      case measure => simp [intOf]
    · obtain ⟨c0, c1, c2, c3, c4, c5, c6, c7, c8, c9⟩ := cells25 (g := ⟨gs, gv, gz, gm⟩) (n := ⟨ns, nv, nz, nm⟩) HR.out.2.1
      go_wp2_with fail
      refine (rputo25 (M := E 10) (L := E 9) HR.out.2.2.2.size HR.out.1 (s := 1) (by omega) (by omega) F9.out.1 (by have := F9.out; omega) F9.out.2.2 (by have := HES.out.2.1 9 (by omega); omega) X9.out).mono ?_
      rintro ee v1 ⟨p1, k1, rfl, o1, b1, ky⟩
      clear c0 c1 c2 c3 c4 c5 c6 c7 c8 c9 ky
      have J1 : Hid (v1.ownsRow w.heap.size 5 1 (.slice p1 (E 10).length k1) (E 10).length ((E 10).map (Value.int .u8)) ∧ Below w.heap.size w v1) := ⟨o1, HR.out.2.2.2.trans b1⟩
      obtain ⟨-, a2, cc2, hvv, sg, -⟩ := own_seg (M := 255) o1 (by decide) (HES.out.2.2 10)
      injection hvv with r1 r2 r3
      subst r1
      have MO := rmore25 (E 10) p1 (E 10).length k1 v1 sg rfl (by have := HES.out.2.1 10 (by omega); omega)
      have b0 := wI_bd21 (sumW (E 10))
      have hsm : sm21 (E 10) = fixL 4 (wI (sumW (E 10))) := rfl
      rw [hsm] at HBY
      have hw64 : IntKind.u64.wrap (wI (sumW (E 10))) = wI (sumW (E 10)) := IntWalk.u64_in _ (by omega)
      generalize wI (sumW (E 10)) = sv at *
      have HSV : Hid (0 ≤ sv ∧ sv ≤ 4294967295) := b0
      clear o1 b1 sg r2 r3 b0 hsm
      go_wp2_with fail
      refine MO.mono ?_
      rintro e2 v2 ⟨rfl, hv2⟩
      rw [hv2]
      clear hv2 MO
      go_wp2_with fail
      refine (rputo25 (M := BY) (L := E 10) J1.out.2.size J1.out.1 (s := 4) (by omega) (by omega) HSV.out.1 (by have := HSV.out; omega) (by have := HSV.out; show sv / 4294967296 = 0; omega) (by have := HES.out.2.1 10 (by omega); omega) HBY.out).mono ?_
      rintro ee v3 ⟨p3, k3, rfl, o3, b3, ky⟩
      have J3 : Hid (v3.ownsRow w.heap.size 5 1 (.slice p3 BY.length k3) BY.length (BY.map (Value.int .u8)) ∧ Below w.heap.size w v3) := ⟨o3, J1.out.2.trans b3⟩
      clear o3 b3 ky
      go_wp2_with fail
      go_ret2
      exact ⟨p3, k3, rfl, J3.out.1, J3.out.2⟩
end Go.Proofs.YteboaolflecibaaDoor
