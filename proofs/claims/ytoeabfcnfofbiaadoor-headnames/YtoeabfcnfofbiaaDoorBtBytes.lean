
import Derived.Test.YtoeabfcnfofbiaaDoorBtWr2
namespace Go.Proofs.YtoeabfcnfofbiaaDoor
open Go.RowKit
set_option linter.unusedVariables false

set_option maxRecDepth 100000 in
theorem len_any (b B : Nat) (v : Value) (L : List Bool) (w : World) (h : WrL w b B v L) (hl : L.length ≤ 1125899906842624) :
    Calls Tryd.prog 24 #[.pointer (some ⟨b, 0, none⟩)] w fun e w' => e = .returned (.int .i64 (L.length : Int)) ∧ Below w.heap.size w w' := by
  obtain ⟨a, cap, ws, r, c, rfl, h, hc, hL⟩ := h
  have hlen : L.length = 8 * ws.length + c := by rw [hL, List.length_append, bB_len, bN_len]
  have HL : Hid ((L.length : Int) = 8 * (ws.length : Int) + (c : Int)) := by show _ = _; omega
  have hc0 := three_cell0 h.hp
  have hc2 := three_cell2 h.hp
  have hw : ws.length ≤ 140737488355328 := by omega
  clear hlen hL hl
  go_enter Tryd.func24, Tryd.ntmps24
  go_wp2
  go_quiet (fail)
  go_wp2
  go_ret
  refine ⟨by rw [HL.out]; congr 2, ?_⟩
  exact ⟨rfl, rfl, rfl, Nat.le_refl _, fun _ _ => rfl⟩

theorem row_cap {w : World} {base n : Nat} {e : TypeId} {cap : Nat} {xs : List Value} (h : w.ownsRow base e 1 (.slice none n cap) n xs) : cap = 0 ∧ n = 0 := by
  rcases h.2 with ⟨e0, h0⟩ | ⟨g, cp, cur, e0, _⟩
  · simp at e0; exact ⟨e0.2, h0⟩
  · simp at e0

set_option maxRecDepth 100000 in
set_option maxHeartbeats 400000 in
theorem clone_any (a : Option Addr) (zs : List Int) (cap : Nat) (w : World) (hs : Seg w a zs) (hnil : a = none → cap = 0) (hnn : zs = [] → a = none) (hl : zs.length ≤ 140737488355328) :
    Calls Tryd.prog 52 #[.slice a zs.length cap] w fun e w' => ∃ a' c', e = .returned (.slice a' zs.length c') ∧ w'.ownsRow w.heap.size 5 1 (.slice a' zs.length c') zs.length (zs.map (Value.int .u8)) ∧ Below w.heap.size w w' := by
  obtain ⟨i0, hi, hz0, hz1, hz2⟩ := info_parts info_u8w
  have hm0 : (w.alloc (.cells #[] 5)).ownsRow w.heap.size 5 1 (.slice (some ⟨w.heap.size, 0, none⟩) 0 0) 0 [] := World.ownsRow_made w #[] 0 (Nat.le_refl _) (by decide) rfl
  have hb0 : Below w.heap.size w (w.alloc (.cells #[] 5)) := (Below.refl _ _).alloc (Nat.le_refl _) _
  cases a with
  | none =>
    have hz : zs = [] := by
      cases zs with
      | nil => rfl
      | cons z r => obtain ⟨b, off, hx, _⟩ := hs.at_ 0 (by simp); cases hx
    subst hz
    have hc := hnil rfl
    subst hc
    clear hm0 hb0
    have heq := Lib.run_eql_slice_nil (P := Tryd.prog) w 49 5 none 0 0 0 0 Tryd.underlying49
    go_enter Tryd.func52, Tryd.ntmps52
    go_wp2
    go_ret
    exact ⟨none, 0, rfl, World.ownsRow_nil _ _ _ _, Below.refl _ _⟩
  | some ad =>
    have heq := Lib.run_eql_slice_nil (P := Tryd.prog) w 49 5 (some ad) zs.length cap 0 0 Tryd.underlying49
    go_enter Tryd.func52, Tryd.ntmps52
    go_wp2_with (at_builtin; refine wpList_appS rfl (.tmp 5) (.tmp 6) 49 rfl w.heap.size 5 i0 (.int .u8 0) 1 Tryd.underlying49 hi hz0 hz1 hz2 rfl hm0 (hs.alloc _) (by intro h; cases h) rfl rfl (by omega) (by omega) (by simp) ?_; intro b2 c2 w2 hown2 hg2 hfr2 hnl2)
    go_ret
    have hb2 : Below w.heap.size w w2 := hb0.trans ((Below.refl _ _).grown hg2 (by simp) (by intro k e; cases e; exact Nat.le_refl _))
    rw [Nat.zero_add, List.nil_append] at hown2
    exact ⟨b2, c2, by simp, hown2, hb2⟩

set_option maxRecDepth 100000 in
set_option maxHeartbeats 1000000 in
theorem bytes_any (b B : Nat) (v : Value) (L : List Bool) (w : World) (h : WrL w b B v L) (hl : L.length ≤ 1125899906842560) :
    Calls Tryd.prog 25 #[.pointer (some ⟨b, 0, none⟩)] w fun e w' => ∃ a' c', e = .returned (.slice a' (toB L).length c') ∧ w'.ownsRow w.heap.size 5 1 (.slice a' (toB L).length c') (toB L).length ((toB L).map (Value.int .u8)) ∧ Below w.heap.size w w' := by
  obtain ⟨i0, hi, hz0, hz1, hz2⟩ := info_parts info_u8w
  obtain ⟨a, cap, ws, r, c, rfl, h, hc, hL⟩ := h
  have hlen : L.length = 8 * ws.length + c := by rw [hL, List.length_append, bB_len, bN_len]
  have HT : Hid (toB L = ws ++ if 0 < c then [(r : Int)] else []) := by
    show _ = _
    rw [hL, toB_bB h.bd, toB_rest h.lt hc]
  have hr : r < 256 := by
    have h1 := h.lt
    have h2 : 2 ^ c ≤ 2 ^ 8 := Nat.pow_le_pow_right (by decide) (by omega)
    omega
  have hc0 := three_cell0 h.hp
  have hc1 := three_cell1 h.hp
  have hc2 := three_cell2 h.hp
  have hlt := h.b_lt
  have hseg : Seg w a ws ∧ (a = none → cap = 0) := by
    obtain ⟨_, a', c', hv, hs, hx, hcc, _⟩ := own_seg h.own (M := 255) (by decide) h.bd
    cases hv
    exact ⟨hs, fun e => by subst e; exact (row_cap h.own).1⟩
  have C := clone_any a ws cap w hseg.1 hseg.2 h.nil (by omega)
  generalize toB L = T at *
  have hw : ws.length ≤ 140737488355320 := by omega
  clear hL hl hseg hlen
  go_enter Tryd.func25, Tryd.ntmps25
  go_wp2_with fail
  refine C.mono ?_
  rintro e w1 ⟨a1, k1, rfl, hown1, hb1⟩
  have hs1 := hb1.size
  have hd1 := (hb1.cell (p := ⟨b, 1, none⟩) hlt).trans hc1
  have hd2 := (hb1.cell (p := ⟨b, 2, none⟩) hlt).trans hc2
  by_cases h0 : 0 < c
  · rw [show (if 0 < c then [(r : Int)] else []) = [(r : Int)] from if_pos h0] at HT
    have hb8 : IntKind.u8.wrap (r : Int) = (r : Int) := by rw [byte_wrap, Nat.mod_eq_of_lt hr]
    go_wp2_with (at_builtin; refine wpList_app1 rfl (.tmp 18) (.tmp 25) 49 rfl w.heap.size 5 i0 (.int .u8 0) 1 Tryd.underlying49 hi hz0 hz1 hz2 rfl w1 (.int .u8 (r : Int)) rfl hown1 rfl rfl (by omega) (by omega) hs1 ?_; intro g2 c2 w2 hown2 hg2 hfr2)
    go_ret
    have hb2 : Below w.heap.size w w2 := hb1.trans ((Below.refl _ _).grown hg2 hs1 (fun k e => (hown1.lt k e).1))
    rw [HT.out]
    simp only [List.length_append, List.length_cons, List.length_nil, List.map_append, List.map_cons, List.map_nil]
    exact ⟨_, c2, rfl, hown2, hb2⟩
  · rw [show (if 0 < c then [(r : Int)] else []) = [] from if_neg h0, List.append_nil] at HT
    have h00 : c = 0 := by omega
    subst h00
    go_wp2
    go_ret
    rw [HT.out]
    exact ⟨a1, k1, rfl, hown1, hb1⟩
end Go.Proofs.YtoeabfcnfofbiaaDoor
