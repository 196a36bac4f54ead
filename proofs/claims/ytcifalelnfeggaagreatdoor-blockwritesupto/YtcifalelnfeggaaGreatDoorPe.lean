import Derived.Test.YtcifalelnfeggaaGreatDoorPd
import Derived.Deep.SlicePairs
import Derived.Test.YtcifalelnfeggaaGreatDoorPc
namespace Go.Proofs.YtcifalelnfeggaaGreatDoor
open Go.RowKit
set_option linter.unusedVariables false

set_option maxRecDepth 100000 in
theorem len_any (b B : Nat) (v : Value) (L : List Bool) (w : World) (h : WrL w b B v L) (hl : L.length ≤ 1125899906842624) :
    Calls Tryz.prog 36 #[.pointer (some ⟨b, 0, none⟩)] w fun e w' => e = .returned (.int .i64 (L.length : Int)) ∧ Below w.heap.size w w' := by
  obtain ⟨a, cap, ws, r, c, rfl, h, hc, hL⟩ := h
  have hlen : L.length = 8 * ws.length + c := by rw [hL, List.length_append, bB_len, bN_len]
  have HL : Hid ((L.length : Int) = 8 * (ws.length : Int) + (c : Int)) := by show _ = _; omega
  have hc0 := three_cell0 h.hp
  have hc2 := three_cell2 h.hp
  have hw : ws.length ≤ 140737488355328 := by omega
  clear hlen hL hl
  go_enter Tryz.func36, Tryz.ntmps36
  go_wp2
  go_quiet (fail)
  go_wp2
  go_ret
  refine ⟨by rw [HL.out]; congr 2, ?_⟩
  exact ⟨rfl, rfl, rfl, Nat.le_refl _, fun _ _ => rfl⟩

theorem row_cap {w : World} {base n : Nat} {e : TypeId} {cap : Nat} {xs : List Value} (h : w.ownsRow base e 1 (.slice none n cap) n xs) : cap = 0 ∧ n = 0 := by
  rcases h.2 with ⟨e0, h0⟩ | ⟨g, cp, cur, e0, _⟩
  · simp at e0; exact ⟨e0.2, h0⟩
  · simp at e0

set_option maxRecDepth 100000 in
set_option maxHeartbeats 400000 in
theorem clone_any (a : Option Addr) (zs : List Int) (cap : Nat) (w : World) (hs : Seg w a zs) (hnil : a = none → cap = 0) (hnn : zs = [] → a = none) (hl : zs.length ≤ 140737488355328) :
    Calls Tryz.prog 62 #[.slice a zs.length cap] w fun e w' => ∃ a' c', e = .returned (.slice a' zs.length c') ∧ w'.ownsRow w.heap.size 5 1 (.slice a' zs.length c') zs.length (zs.map (Value.int .u8)) ∧ Below w.heap.size w w' := by
  obtain ⟨i0, hi, hz0, hz1, hz2⟩ := info_parts info_u8w
  have hm0 : (w.alloc (.cells #[] 5)).ownsRow w.heap.size 5 1 (.slice (some ⟨w.heap.size, 0, none⟩) 0 0) 0 [] := World.ownsRow_made w #[] 0 (Nat.le_refl _) (by decide) rfl
  have hb0 : Below w.heap.size w (w.alloc (.cells #[] 5)) := (Below.refl _ _).alloc (Nat.le_refl _) _
  cases a with
  | none =>
    have hz : zs = [] := by
      cases zs with
      | nil => rfl
      | cons z r => obtain ⟨b, off, hx, _⟩ := hs.at_ 0 (by simp); cases hx
    subst hz
    have hc := hnil rfl
    subst hc
    clear hm0 hb0
    have heq := Lib.run_eql_slice_nil (P := Tryz.prog) w 59 5 none 0 0 0 0 Tryz.underlying59
    go_enter Tryz.func62, Tryz.ntmps62
    go_wp2
    go_ret
    exact ⟨none, 0, rfl, World.ownsRow_nil _ _ _ _, Below.refl _ _⟩
  | some ad =>
    have heq := Lib.run_eql_slice_nil (P := Tryz.prog) w 59 5 (some ad) zs.length cap 0 0 Tryz.underlying59
    go_enter Tryz.func62, Tryz.ntmps62
    go_wp2_with (at_builtin; refine wpList_appS rfl (.tmp 5) (.tmp 6) 59 rfl w.heap.size 5 i0 (.int .u8 0) 1 Tryz.underlying59 hi hz0 hz1 hz2 rfl hm0 (hs.alloc _) (by intro h; cases h) rfl rfl (by omega) (by omega) (by simp) ?_; intro b2 c2 w2 hown2 hg2 hfr2 hnl2)
    go_ret
    have hb2 : Below w.heap.size w w2 := hb0.trans ((Below.refl _ _).grown hg2 (by simp) (by intro k e; cases e; exact Nat.le_refl _))
    rw [Nat.zero_add, List.nil_append] at hown2
    exact ⟨b2, c2, by simp, hown2, hb2⟩

set_option maxRecDepth 100000 in
set_option maxHeartbeats 1000000 in
theorem bytes_any (b B : Nat) (v : Value) (L : List Bool) (w : World) (h : WrL w b B v L) (hl : L.length ≤ 1125899906842560) :
    Calls Tryz.prog 39 #[.pointer (some ⟨b, 0, none⟩)] w fun e w' => ∃ a' c', e = .returned (.slice a' (toB L).length c') ∧ w'.ownsRow w.heap.size 5 1 (.slice a' (toB L).length c') (toB L).length ((toB L).map (Value.int .u8)) ∧ Below w.heap.size w w' := by
  obtain ⟨i0, hi, hz0, hz1, hz2⟩ := info_parts info_u8w
  obtain ⟨a, cap, ws, r, c, rfl, h, hc, hL⟩ := h
  have hlen : L.length = 8 * ws.length + c := by rw [hL, List.length_append, bB_len, bN_len]
  have HT : Hid (toB L = ws ++ if 0 < c then [(r : Int)] else []) := by
    show _ = _
    rw [hL, toB_bB h.bd, toB_rest h.lt hc]
  have hr : r < 256 := by
    have h1 := h.lt
    have h2 : 2 ^ c ≤ 2 ^ 8 := Nat.pow_le_pow_right (by decide) (by omega)
    omega
  have hc0 := three_cell0 h.hp
  have hc1 := three_cell1 h.hp
  have hc2 := three_cell2 h.hp
  have hlt := h.b_lt
  have hseg : Seg w a ws ∧ (a = none → cap = 0) := by
    obtain ⟨_, a', c', hv, hs, hx, hcc, _⟩ := own_seg h.own (M := 255) (by decide) h.bd
    cases hv
    exact ⟨hs, fun e => by subst e; exact (row_cap h.own).1⟩
  have C := clone_any a ws cap w hseg.1 hseg.2 h.nil (by omega)
  generalize toB L = T at *
  have hw : ws.length ≤ 140737488355320 := by omega
  clear hL hl hseg hlen
  go_enter Tryz.func39, Tryz.ntmps39
  go_wp2_with fail
  refine C.mono ?_
  rintro e w1 ⟨a1, k1, rfl, hown1, hb1⟩
  have hs1 := hb1.size
  have hd1 := (hb1.cell (p := ⟨b, 1, none⟩) hlt).trans hc1
  have hd2 := (hb1.cell (p := ⟨b, 2, none⟩) hlt).trans hc2
  by_cases h0 : 0 < c
  · rw [show (if 0 < c then [(r : Int)] else []) = [(r : Int)] from if_pos h0] at HT
    have hb8 : IntKind.u8.wrap (r : Int) = (r : Int) := by rw [byte_wrap, Nat.mod_eq_of_lt hr]
    go_wp2_with (at_builtin; refine wpList_app1 rfl (.tmp 18) (.tmp 25) 59 rfl w.heap.size 5 i0 (.int .u8 0) 1 Tryz.underlying59 hi hz0 hz1 hz2 rfl w1 (.int .u8 (r : Int)) rfl hown1 rfl rfl (by omega) (by omega) hs1 ?_; intro g2 c2 w2 hown2 hg2 hfr2)
    go_ret
    have hb2 : Below w.heap.size w w2 := hb1.trans ((Below.refl _ _).grown hg2 hs1 (fun k e => (hown1.lt k e).1))
    rw [HT.out]
    simp only [List.length_append, List.length_cons, List.length_nil, List.map_append, List.map_cons, List.map_nil]
    exact ⟨_, c2, rfl, hown2, hb2⟩
  · rw [show (if 0 < c then [(r : Int)] else []) = [] from if_neg h0, List.append_nil] at HT
    have h00 : c = 0 := by omega
    subst h00
    go_wp2
    go_ret
    rw [HT.out]
    exact ⟨a1, k1, rfl, hown1, hb1⟩
end Go.Proofs.YtcifalelnfeggaaGreatDoor

namespace Go.Proofs.YtcifalelnfeggaaGreatDoor
open Go.RowKit
set_option linter.unusedVariables false

set_option maxRecDepth 100000 in
set_option maxHeartbeats 400000 in
theorem clone5_any (a : Option Addr) (zs : List Int) (n cap : Nat) (hn : Hid (zs.length = n)) (w : World) (hs : SegZ w a zs) (hnil : a = none → cap = 0) (hl : n ≤ 100000) :
    Calls Tryz.prog 141 #[.slice a n cap] w fun e w' => ∃ a' c', e = .returned (.slice a' n c') ∧ w'.ownsRow w.heap.size 3 1 (.slice a' n c') n (zs.map (Value.int .i64)) ∧ Below w.heap.size w w' := by
  obtain ⟨i0, hi, hz0, hz1, hz2⟩ := info_parts info_int
  have hm0 : (w.alloc (.cells #[] 3)).ownsRow w.heap.size 3 1 (.slice (some ⟨w.heap.size, 0, none⟩) 0 0) 0 [] := World.ownsRow_made w #[] 0 (Nat.le_refl _) (by decide) rfl
  have hb0 : Below w.heap.size w (w.alloc (.cells #[] 3)) := (Below.refl _ _).alloc (Nat.le_refl _) _
  have hln := hn.out
  subst hln
  cases a with
  | none =>
    have hz : zs = [] := by
      cases zs with
      | nil => rfl
      | cons z r => obtain ⟨b, off, hx, _⟩ := hs.at_ 0 (by simp); cases hx
    subst hz
    have hc := hnil rfl
    subst hc
    clear hm0 hb0
    have heq := Lib.run_eql_slice_nil (P := Tryz.prog) w 39 3 none 0 0 0 0 Tryz.underlying39
    go_enter Tryz.func141, Tryz.ntmps141
    go_wp2
    go_ret
    exact ⟨none, 0, rfl, World.ownsRow_nil _ _ _ _, Below.refl _ _⟩
  | some ad =>
    have heq := Lib.run_eql_slice_nil (P := Tryz.prog) w 39 3 (some ad) zs.length cap 0 0 Tryz.underlying39
    go_enter Tryz.func141, Tryz.ntmps141
    go_wp2_with (at_builtin; refine wpList_appZ rfl (.tmp 5) (.tmp 6) 39 rfl w.heap.size 3 i0 (.int .i64 0) 8 Tryz.underlying39 hi hz0 hz1 hz2 rfl hm0 (hs.alloc _) (by intro h; cases h) rfl rfl (by omega) (by omega) (by simp) ?_; intro b2 c2 w2 hown2 hg2 hfr2 hnl2)
    go_ret
    have hb2 : Below w.heap.size w w2 := hb0.trans ((Below.refl _ _).grown hg2 (by simp) (by intro k e; cases e; exact Nat.le_refl _))
    rw [Nat.zero_add, List.nil_append] at hown2
    exact ⟨b2, c2, by simp, hown2, hb2⟩

/-- An encoder of these lengths, all of it below block N. -/
structure En (w : World) (b N : Nat) (zs : List Int) : Prop where
  ok : errC zs = 0
  lt : b < N
  row : ∃ la lc ca cc, w.heap[b]? = some (.cells #[.bool true, .slice la zs.length lc, .slice ca zs.length cc] 237 (0, 0)) ∧ SegZ w la zs ∧ SegZ w ca (cds zs) ∧ (∀ x, la = some x → x.block < N) ∧ (∀ x, ca = some x → x.block < N)
theorem En.old {w w' : World} {b N : Nat} {zs : List Int} (h : En w b N zs) (hb : Below N w w') : En w' b N zs := by
  obtain ⟨la, lc, ca, cc, h1, h2, h3, h4, h5⟩ := h.row
  refine ⟨h.ok, h.lt, la, lc, ca, cc, (hb.block b h.lt).trans h1, ?_, ?_, h4, h5⟩
  · exact h2.of_cells fun b' off i v _ ha hc => by
      have := h4 _ ha
      exact (hb.cell (p := ⟨b', off + i, none⟩) this).trans hc
  · exact h3.of_cells fun b' off i v _ ha hc => by
      have := h5 _ ha
      exact (hb.cell (p := ⟨b', off + i, none⟩) this).trans hc
theorem own_blk {w : World} {base n cap : Nat} {e : TypeId} {b : Option Addr} {xs : List Value} (h : w.ownsRow base e 1 (.slice b n cap) n xs) : ∀ x, b = some x → base ≤ x.block ∧ x.block < w.heap.size := by
  rcases h.2 with ⟨h1, h2⟩ | ⟨g, cp, cur, h1, h2, h3, h4, _⟩
  · simp only [Value.slice.injEq] at h1
    obtain ⟨rfl, _, rfl⟩ := h1
    intro x h
    cases h
  · simp only [Value.slice.injEq] at h1
    obtain ⟨rfl, _, rfl⟩ := h1
    intro x h
    cases h
    exact ⟨h2, (Array.getElem?_eq_some_iff.1 h3).1⟩
theorem cd_small {zs : List Int} (h : errC zs = 0) {s : Nat} (hs : s < zs.length) : cd zs s < 2 ^ ln zs s ∧ ln zs s ≤ 15 ∧ cd zs s < 32768 := by
  have hL := (errS_zero (errC_zero h).1).2
  have hp : spc zs ≤ 32768 := by
    have h1 := (errC_zero h).2
    unfold errR at h1
    by_cases c : 32768 < spc zs
    · rw [if_pos c] at h1; cases h1
    · omega
  have h1 := cd_lt hL hp hs
  have h2 := (hL.ln s).2
  have h3 : 2 ^ ln zs s ≤ 2 ^ 15 := Nat.pow_le_pow_right (by decide) h2
  exact ⟨h1, h2, Nat.lt_of_lt_of_le h1 h3⟩
theorem cds_bd {zs : List Int} (h : errC zs = 0) : ∀ z ∈ cds zs, -9223372036854775808 ≤ z ∧ z ≤ 9223372036854775807 := by
  intro z hz
  unfold cds at hz
  obtain ⟨s, hs, rfl⟩ := List.mem_map.1 hz
  rw [List.mem_range] at hs
  have := (cd_small h hs).2.2
  omega

def EncQ (w : World) (zs : List Int) (e : Ending) (w' : World) : Prop := (errC zs = 0 → ∃ b, e = .returned (.tuple #[.pointer (some ⟨b, 0, none⟩), .int .i64 0]) ∧ w.heap.size ≤ b ∧ En w' b w'.heap.size zs) ∧ (errC zs ≠ 0 → e = .returned (.tuple #[.pointer none, .int .i64 (errC zs)])) ∧ Below w.heap.size w w'
set_option maxRecDepth 100000 in
set_option maxHeartbeats 1000000 in
theorem newEnc_any (a : Option Addr) (zs : List Int) (n cap : Nat) (hn : Hid (zs.length = n)) (w : World) (hs : SegZ w a zs) (hnil : a = none → cap = 0) (hl : n ≤ 9223372036854775807) :
    Calls Tryz.prog 124 #[.slice a n cap] w fun e w' => EncQ w zs e w' := by
  have HC := codes_any a zs n cap hn w hs hl
  by_cases hok : errC zs = 0
  · have HOK : Hid (errC zs = 0) := hok
    have HL := errS_zero (errC_zero hok).1
    have hn288 : n ≤ 288 := by have := hn.out; have := HL.1; omega
    clear hok HL
    have HCL : Hid (∀ W, Below w.heap.size w W → Calls Tryz.prog 141 #[.slice a n cap] W fun e w' => ∃ a' c', e = .returned (.slice a' n c') ∧ w'.ownsRow W.heap.size 3 1 (.slice a' n c') n (zs.map (Value.int .i64)) ∧ Below W.heap.size W w') := fun W hW => clone5_any a zs n cap hn W (hs.old hW) hnil (by omega)
    have e1 : Hid (cdsR zs = cds zs) := by show _ = _; unfold cdsR; rw [if_pos HOK.out]
    have e3 : Hid ((cds zs).length = n) := by show _ = _; rw [cds_len]; exact hn.out
    go_enter Tryz.func124, Tryz.ntmps124
    go_wp2_with fail
    refine HC.mono ?_
    rintro e W1 ⟨b1, c1, rfl, O1, B1⟩
    rw [e1.out, e3.out] at O1
    rw [e1.out, e3.out, HOK.out]
    go_wp2_with fail
    refine (HCL.out _ B1).mono ?_
    rintro e W2 ⟨a2, c2, rfl, O2, B2⟩
    have B12 : Below w.heap.size w W2 := B1.trans (B2.mono B1.size)
    have O1b := own_below O1 B2
    go_wp2_with fail
    go_ret2
    have hbl := own_blk O2
    have hbl1 := own_blk O1b
    have hzb : ∀ z ∈ zs, -9223372036854775808 ≤ z ∧ z ≤ 9223372036854775807 := hs.mem
    refine ⟨fun _ => ⟨W2.heap.size, rfl, B12.size, HOK.out, by simp, a2, c2, b1, c1, ?_, ?_, ?_, ?_, ?_⟩, fun h => absurd HOK.out h, B12.alloc B12.size _⟩
    · rw [hn.out]; exact heap_alloc_new W2 _
    · exact (own_segZ O2 hzb).alloc _
    · exact (own_segZ O1b (cds_bd HOK.out)).alloc _
    · intro x hx
      have := hbl x hx
      simp
      omega
    · intro x hx
      have := hbl1 x hx
      simp
      omega
  · have HNK : Hid (¬ errC zs = 0) := hok
    have key : ∀ E : Int, E = 50 ∨ E = 51 ∨ E = 52 → errC zs = E → Calls Tryz.prog 124 #[.slice a n cap] w fun e w' => EncQ w zs e w' := by
      intro E hE hEE
      have HEE : Hid (errC zs = E) := hEE
      clear hEE hok
      rcases hE with rfl | rfl | rfl
      all_goals
        go_enter Tryz.func124, Tryz.ntmps124
        go_wp2_with fail
        refine HC.mono ?_
        rintro e W1 ⟨b1, c1, rfl, O1, B1⟩
        rw [HEE.out]
        clear O1
        go_wp2_with fail
        go_ret2
        exact ⟨fun h => absurd h HNK.out, fun _ => by rw [HEE.out]; rfl, B1⟩
    rcases errC_cases zs with h | h | h | h
    · exact absurd h hok
    · exact key 50 (.inl rfl) h
    · exact key 51 (.inr (.inl rfl)) h
    · exact key 52 (.inr (.inr rfl)) h
end Go.Proofs.YtcifalelnfeggaaGreatDoor

namespace Go.Proofs.YtcifalelnfeggaaGreatDoor
open Go.RowKit
set_option linter.unusedVariables false

/-- What a symbol costs, and its bits. -/
def costV (zs : List Int) (s : Int) : Int := if 0 ≤ s ∧ s < zs.length then zs.getD s.toNat 0 else 0
def cbits (zs : List Int) (s : Nat) : List Bool := (bN (cd zs s) (ln zs s)).reverse
def putB (zs : List Int) (s : Int) : List Bool := if costV zs s = 0 then [] else cbits zs s.toNat
def errP (zs : List Int) (s : Int) : Int := if costV zs s = 0 then 53 else 0
theorem En.cells {w : World} {b N : Nat} {zs : List Int} (h : En w b N zs) : ∃ la lc ca cc, w.cell? ⟨b, 0, none⟩ = some (.bool true) ∧ w.cell? ⟨b, 1, none⟩ = some (.slice la zs.length lc) ∧ w.cell? ⟨b, 2, none⟩ = some (.slice ca zs.length cc) ∧ SegZ w la zs ∧ SegZ w ca (cds zs) := by
  obtain ⟨la, lc, ca, cc, h1, h2, h3, _, _⟩ := h.row
  exact ⟨la, lc, ca, cc, three_cell0 h1, three_cell1 h1, three_cell2 h1, h2, h3⟩

set_option maxRecDepth 100000 in
set_option maxHeartbeats 1000000 in
theorem cost5_any (b N : Nat) (zs : List Int) (s : Int) (w : World) (h : En w b N zs) :
    Calls Tryz.prog 142 #[.pointer (some ⟨b, 0, none⟩), .int .i64 s] w fun e w' => e = .returned (.int .i64 (costV zs s)) ∧ w' = w := by
  obtain ⟨la, lc, ca, cc, c0, c1, c2, s1, s2⟩ := h.cells
  have hl : zs.length ≤ 288 := (errS_zero (errC_zero h.ok).1).1
  have HLL : Hid (∃ n, n = zs.length) := ⟨_, rfl⟩
  obtain ⟨n, hn⟩ := HLL.out
  have HN : Hid (n = zs.length) := hn
  rw [← hn] at c1 c2 hl
  clear hn HLL
  by_cases h0 : s < 0
  · have HV : Hid (costV zs s = 0) := by show _ = _; unfold costV; rw [if_neg (by omega)]
    go_enter Tryz.func142, Tryz.ntmps142
    go_wp2_with fail
    go_ret
    exact ⟨by rw [HV.out]; rfl, rfl⟩
  · obtain ⟨k, rfl⟩ : ∃ k : Nat, s = (k : Int) := ⟨s.toNat, by omega⟩
    by_cases hk : k < n
    · have hki : (k : Int) < (n : Int) := by omega
      obtain ⟨g, off, rfl, ck⟩ := s1.at_ k (by have := HN.out; omega)
      have HV : Hid (costV zs k = zs.getD k 0) := by show _ = _; unfold costV; rw [if_pos (by have := HN.out; omega), Int.toNat_natCast]
      generalize zs.getD k 0 = v at *
      go_enter Tryz.func142, Tryz.ntmps142
      go_wp2_with fail
      go_ret
      exact ⟨by rw [HV.out]; rfl, rfl⟩
    · have hki : ¬ (k : Int) < (n : Int) := by omega
      have HV : Hid (costV zs k = 0) := by show _ = _; unfold costV; rw [if_neg (by have := HN.out; omega)]
      go_enter Tryz.func142, Tryz.ntmps142
      go_wp2_with fail
      go_ret
      exact ⟨by rw [HV.out]; rfl, rfl⟩
theorem costV_pos {zs : List Int} {s : Int} (h : costV zs s ≠ 0) : ∃ k : Nat, s = (k : Int) ∧ k < zs.length ∧ costV zs s = zs.getD k 0 ∧ zs.getD k 0 ≠ 0 := by
  unfold costV at h ⊢
  by_cases c : 0 ≤ s ∧ s < zs.length
  · rw [if_pos c] at h ⊢
    exact ⟨s.toNat, by omega, by omega, rfl, h⟩
  · rw [if_neg c] at h
    exact absurd rfl h

set_option maxRecDepth 100000 in
set_option maxHeartbeats 1000000 in
theorem put5_any (b N : Nat) (zs : List Int) (s : Int) (bw B : Nat) (v : Value) (L : List Bool) (w : World) (h : En w b N zs) (hw : WrL w bw B v L) (hl : L.length ≤ 1125899906842560) :
    Calls Tryz.prog 125 #[.pointer (some ⟨b, 0, none⟩), .pointer (some ⟨bw, 0, none⟩), .int .i64 s] w fun e w' => e = .returned (.int .i64 (errP zs s)) ∧ ∃ v', WrL w' bw B v' (L ++ putB zs s) ∧ Kp (WS bw v) w w' ∧ Fresh w v v' := by
  obtain ⟨la, lc, ca, cc, c0, c1, c2, s1, s2⟩ := h.cells
  have HCO := cost5_any b N zs s w h
  by_cases hc : costV zs s = 0
  · have HP : Hid (errP zs s = 53 ∧ putB zs s = []) := ⟨by unfold errP; rw [if_pos hc], by unfold putB; rw [if_pos hc]⟩
    rw [hc] at HCO
    clear hc
    go_enter Tryz.func125, Tryz.ntmps125
    go_wp2_with fail
    refine HCO.mono ?_
    rintro e w1 ⟨rfl, hw1⟩
    subst w1
    go_wp2_with fail
    go_ret
    exact ⟨by rw [HP.out.1]; rfl, v, by rw [HP.out.2, List.append_nil]; exact hw, Kp.refl _ _, fun k hk => .inl hk⟩
  · obtain ⟨k, rfl, hk, hv, hv0⟩ := costV_pos hc
    have hL := (errS_zero (errC_zero h.ok).1)
    have HLN := hL.2.ln k
    have HP : Hid (errP zs k = 0 ∧ putB zs k = cbits zs k) := ⟨by unfold errP; rw [if_neg hc], by unfold putB; rw [if_neg hc, Int.toNat_natCast]⟩
    have HSM := cd_small h.ok hk
    have HT := turned_ok bw B v L (cd zs k) (ln zs k) w hw HSM.1 (by omega) hl
    have HCB : Hid (cbits zs k = (bN (cd zs k) (ln zs k)).reverse) := rfl
    rw [← HCB.out] at HT
    rw [hv, HLN.1] at HCO
    obtain ⟨g, off, rfl, ck⟩ := s2.at_ k (by rw [cds_len]; exact hk)
    rw [cds_get zs hk] at ck
    have hn288 := hL.1
    have hl0 : ln zs k ≠ 0 := by intro e; rw [HLN.1, e] at hv0; exact hv0 rfl
    have hl15 := HLN.2
    have hcs := HSM.2.2
    have HLK : Hid (zs.getD k 0 = (ln zs k : Int)) := HLN.1
    clear HLN HSM hv hv0 hc hL
    have HLL : Hid (∃ n, n = zs.length) := ⟨_, rfl⟩
    obtain ⟨n, hn⟩ := HLL.out
    have HN : Hid (n = zs.length) := hn
    rw [← hn] at c1 c2 hk hn288
    clear hn HLL
    have hki : (k : Int) < (n : Int) := by omega
    generalize cd zs k = c at *
    generalize ln zs k = m at *
    have hm0 : ¬ (m : Int) = 0 := by omega
    have hcw : IntKind.u64.wrap (c : Int) = (c : Int) := IntWalk.u64_in _ (by omega)
    go_enter Tryz.func125, Tryz.ntmps125
    go_wp2_with fail
    refine HCO.mono ?_
    rintro e w1 ⟨rfl, hw1⟩
    subst w1
    go_wp2_with fail
    refine HT.mono ?_
    rintro e w1 ⟨rfl, v', h1, h2, h3⟩
    go_wp2_with fail
    go_ret
    exact ⟨by rw [HP.out.1]; rfl, v', by rw [HP.out.2]; exact h1, h2, h3⟩
end Go.Proofs.YtcifalelnfeggaaGreatDoor

namespace Go.Proofs.YtcifalelnfeggaaGreatDoor
open Go.RowKit
set_option linter.unusedVariables false

/-- What a decoder's block holds. -/
def tbl (zs S : List Int) : List Int := cnts zs ++ S ++ [(tot zs : Int)]
def dl (most : Int) (zs S : List Int) : List Int := most :: tbl zs S
def Z288 : List Int := List.replicate 288 0
theorem Z288_len : Z288.length = 288 := List.length_replicate ..
theorem built_dec (n : Int) : (Tryz.prog.built 224 [(0, Value.int .i64 n)]).getD #[] = arr (dl n [] Z288) := by kernel_rfl
theorem tbl_len {zs S : List Int} (h : S.length = 288) : (tbl zs S).length = 305 := by simp [tbl, cnts_len, h]
theorem tbl_cnt {zs S : List Int} {l : Nat} (h : l < 16) : (tbl zs S).getD l 0 = (cC zs l : Int) := by
  have e := cnts_get zs h
  have hl := cnts_len zs
  unfold tbl
  rw [List.append_assoc]
  simpa [List.getD, List.getElem?_append_left (show l < (cnts zs).length by omega)] using e
theorem tbl_sym {zs S : List Int} (hS : S.length = 288) {i : Nat} (h : i < 288) : (tbl zs S).getD (16 + i) 0 = S.getD i 0 := by
  have hl := cnts_len zs
  unfold tbl
  rw [List.append_assoc]
  simp [List.getD, List.getElem?_append_right (show (cnts zs).length ≤ 16 + i by omega), hl, List.getElem?_append_left (show i < S.length by omega)]
theorem tbl_tot {zs S : List Int} (hS : S.length = 288) : (tbl zs S).getD 304 0 = (tot zs : Int) := by
  have hl := cnts_len zs
  unfold tbl
  simp [List.getD, hl, hS]
theorem dl_get (m : Int) (zs S : List Int) (i : Nat) : (dl m zs S).getD (1 + i) 0 = (tbl zs S).getD i 0 := by
  rw [Nat.add_comm]
  simp [dl, List.getD]

set_option maxRecDepth 100000 in
set_option maxHeartbeats 1000000 in
theorem newDec_any (n : Nat) (h1 : 1 ≤ n) (h2 : n ≤ 288) (w : World) :
    Calls Tryz.prog 129 #[.int .i64 (n : Int)] w fun e w' => e = .returned (.tuple #[.pointer (some ⟨w.heap.size, 0, none⟩), .int .i64 0]) ∧ w' = w.alloc (.cells (arr (dl n [] Z288)) 224) := by
  have h1i : ¬ (n : Int) < 1 := by omega
  have h2i : ¬ (288 : Int) < (n : Int) := by omega
  go_enter Tryz.func129, Tryz.ntmps129
  go_wp2_with (refine wpList_build rfl _ _ rfl (by kernel_rfl) ?_)
  go_ret2
  exact ⟨rfl, by rw [built_dec]⟩
set_option maxRecDepth 100000 in
set_option maxHeartbeats 1000000 in
theorem newDec_no (n : Int) (h : n < 1 ∨ 288 < n) (w : World) :
    Calls Tryz.prog 129 #[.int .i64 n] w fun e w' => e = .returned (.tuple #[.pointer none, .int .i64 1]) ∧ w' = w := by
  by_cases h1 : n < 1
  · go_enter Tryz.func129, Tryz.ntmps129
    go_wp2_with fail
    go_ret2
    exact ⟨rfl, rfl⟩
  · have h2 : 288 < n := by omega
    go_enter Tryz.func129, Tryz.ntmps129
    go_wp2_with fail
    go_ret2
    exact ⟨rfl, rfl⟩
/-- Where each symbol with a code stands. -/
def SymOk (zs S : List Int) (j : Nat) : Prop := ∀ s, s < j → zs.getD s 0 ≠ 0 → S.getD (cS zs (ln zs s) + rk zs s) 0 = (s : Int)
/-- A decoder with room for so many symbols, a code loaded. -/
structure De (w : World) (b most : Nat) (zs : List Int) : Prop where
  ok : errC zs = 0
  mo : 1 ≤ most ∧ most ≤ 288
  row : ∃ S, S.length = 288 ∧ SymOk zs S zs.length ∧ w.heap[b]? = some (.cells (arr (dl most zs S)) 224 (0, 0))
theorem errC_nil : errC [] = 0 := by decide
theorem De.new {w : World} {b n : Nat} (h1 : 1 ≤ n) (h2 : n ≤ 288) (h : w.heap[b]? = some (.cells (arr (dl n [] Z288)) 224 (0, 0))) : De w b n [] :=
  ⟨errC_nil, ⟨h1, h2⟩, Z288, Z288_len, fun s hs => by simp at hs, h⟩
theorem De.lt {w : World} {b n : Nat} {zs : List Int} (h : De w b n zs) : b < w.heap.size := by
  obtain ⟨S, _, _, h⟩ := h.row
  exact (Array.getElem?_eq_some_iff.1 h).1
theorem De.keep {w w' : World} {b n : Nat} {zs : List Int} (h : De w b n zs) (hb : w'.heap[b]? = w.heap[b]?) : De w' b n zs := by
  obtain ⟨S, h1, h2, h3⟩ := h.row
  exact ⟨h.ok, h.mo, S, h1, h2, hb.trans h3⟩

end Go.Proofs.YtcifalelnfeggaaGreatDoor

namespace Go.Proofs.YtcifalelnfeggaaGreatDoor
open Go.RowKit
set_option linter.unusedVariables false

def Z305 : Array Value := arr (List.replicate 305 0)
theorem info111 : (Tryz.prog.info? 222).map (fun i => (i.zero, i.size)) = some (some (.agg Z305), 305) := by kernel_rfl

theorem len16 {A : List Int} (h : A.length = 16) : ∃ v0 v1 v2 v3 v4 v5 v6 v7 v8 v9 v10 v11 v12 v13 v14 v15, A = [v0, v1, v2, v3, v4, v5, v6, v7, v8, v9, v10, v11, v12, v13, v14, v15] := by
  match A, h with
  | [v0, v1, v2, v3, v4, v5, v6, v7, v8, v9, v10, v11, v12, v13, v14, v15], _ => exact ⟨v0, v1, v2, v3, v4, v5, v6, v7, v8, v9, v10, v11, v12, v13, v14, v15, rfl⟩
theorem built_tbl {A : List Int} (h : A.length = 16) (t : Int) : (Tryz.prog.built 222 [(0, Value.agg (arr A)), (2, Value.int .i64 t)]) = some (arr (A ++ Z288 ++ [t])) := by
  obtain ⟨v0, v1, v2, v3, v4, v5, v6, v7, v8, v9, v10, v11, v12, v13, v14, v15, rfl⟩ := len16 h
  kernel_rfl

theorem exec_build {P : Program} {o : Oper} {ρ : Operand → Value} {t : TypeId} {parts : Array (Nat × Operand)} (ho : o.op = .build t parts) (w : World) {cells : Array Value} {l : List (Nat × Value)} (hc : P.built t l = some cells) (hl : (parts.map fun (i, x) => (i, ρ x)).toList = l) : (execOp ρ o).run P w = .ok (.value (.agg cells)) w := by
  subst hl
  unfold execOp
  simp only [ho, Sem.run_bind, run_build w t _ cells hc, Result.andThen_ok]
  rfl
theorem info305 {A : List Int} (h : A.length = 305) : (Tryz.prog.info? 222).map (·.size) = some (arr A).size := by
  rw [arr_size, h]
  kernel_rfl
theorem Z305_size : Z305.size = 305 := by unfold Z305; rw [arr_size]; exact List.length_replicate ..

def sktk (zs : List Int) (j : Nat) : List Int := (List.range 16).map fun l => if l ≤ j then (cS zs l : Int) else 0
theorem sktk_len (zs : List Int) (j : Nat) : (sktk zs j).length = 16 := by simp [sktk]
theorem sktk_get (zs : List Int) {j l : Nat} (h : l < 16) : (sktk zs j).getD l 0 = if l ≤ j then (cS zs l : Int) else 0 := by simp [sktk, List.getD, h]
theorem sktk_set (zs : List Int) {j : Nat} (h : j + 1 < 16) : (sktk zs j).set (j + 1) (cS zs (j + 1) : Int) = sktk zs (j + 1) := by
  apply List.ext_getElem (by simp [sktk])
  intro i h1 h2
  simp only [List.getElem_set, sktk, List.getElem_map, List.getElem_range]
  by_cases e : j + 1 = i
  · subst e; simp
  · rw [if_neg e]
    by_cases c : i ≤ j
    · rw [if_pos c, if_pos (by omega)]
    · rw [if_neg c, if_neg (by omega)]
theorem sktk_zero (zs : List Int) : sktk zs 0 = List.replicate 16 0 := by
  simp [sktk, List.range, List.range.loop, cS]
def nx2 (zs : List Int) (j : Nat) : List Int := (List.range 16).map fun l => (cS zs l : Int) + (cC (zs.take j) l : Int)
theorem nx2_len (zs : List Int) (j : Nat) : (nx2 zs j).length = 16 := by simp [nx2]
theorem nx2_get (zs : List Int) (j : Nat) {l : Nat} (h : l < 16) : (nx2 zs j).getD l 0 = (cS zs l : Int) + (cC (zs.take j) l : Int) := by simp [nx2, List.getD, h]
theorem nx2_zero (zs : List Int) : sktk zs 15 = nx2 zs 0 := by
  unfold nx2 sktk
  apply List.map_congr_left
  intro l hl
  rw [List.mem_range] at hl
  have : cC (zs.take 0) l = 0 := by rw [List.take_zero]; unfold cC; split <;> simp
  rw [this, if_pos (by omega)]
  simp
theorem nx2_skip {zs : List Int} {j : Nat} (h : zs.take (j + 1) = zs.take j ++ [0]) : nx2 zs (j + 1) = nx2 zs j := by
  unfold nx2
  apply List.map_congr_left
  intro l _
  rw [h, cC_snoc, if_neg (by omega)]
  simp
theorem nx2_put {zs : List Int} {j z : Nat} (h : zs.take (j + 1) = zs.take j ++ [(z : Int)]) (h0 : 0 < z) : nx2 zs (j + 1) = (nx2 zs j).set z ((cS zs z : Int) + (cC (zs.take j) z : Int) + 1) := by
  apply List.ext_getElem (by simp [nx2])
  intro i h1 h2
  simp only [List.getElem_set, nx2, List.getElem_map, List.getElem_range]
  rw [h, cC_snoc]
  by_cases e : z = i
  · subst e
    rw [if_pos ⟨by omega, rfl⟩, if_pos rfl]
    omega
  · rw [if_neg (by omega), if_neg e]
    simp
/-- Where a symbol stands in the order of the codes. -/
def pos (zs : List Int) (s : Nat) : Nat := cS zs (ln zs s) + rk zs s
theorem pos_lt {zs : List Int} (h : LOk zs) {s : Nat} (hs : s < zs.length) (h0 : zs.getD s 0 ≠ 0) : pos zs s < cS zs (ln zs s + 1) := by
  unfold pos
  rw [cS_succ]
  have := rk_lt_c h hs h0
  omega
theorem pos_tot {zs : List Int} (h : LOk zs) {s : Nat} (hs : s < zs.length) (h0 : zs.getD s 0 ≠ 0) : pos zs s < tot zs :=
  Nat.lt_of_lt_of_le (pos_lt h hs h0) (cS_mono zs (by have := (h.ln s).2; omega))
theorem pos_inj {zs : List Int} (h : LOk zs) {s t : Nat} (hs : s < zs.length) (ht : t < zs.length) (h0 : zs.getD s 0 ≠ 0) (t0 : zs.getD t 0 ≠ 0) (he : pos zs s = pos zs t) : s = t := by
  have a1 := pos_lt h hs h0
  have a2 := pos_lt h ht t0
  have b1 : cS zs (ln zs s) ≤ pos zs s := by unfold pos; omega
  have b2 : cS zs (ln zs t) ≤ pos zs t := by unfold pos; omega
  rcases Nat.lt_trichotomy (ln zs s) (ln zs t) with c | c | c
  · have := cS_mono zs (a := ln zs s + 1) (b := ln zs t) c; omega
  · refine rk_inj hs ht ?_ ?_
    · rw [(h.ln s).1, (h.ln t).1, c]
    · unfold pos at he
      rw [c] at he
      omega
  · have := cS_mono zs (a := ln zs t + 1) (b := ln zs s) c; omega
theorem SymOk.put {zs S : List Int} {j : Nat} (h : LOk zs) (hS : S.length = 288) (hk : SymOk zs S j) (hj : j < zs.length) (h0 : zs.getD j 0 ≠ 0) (ht : tot zs ≤ 288) : SymOk zs (S.set (pos zs j) (j : Int)) (j + 1) := by
  intro s hs hs0
  have hp : pos zs j < S.length := by have := pos_tot h hj h0; omega
  show (S.set (pos zs j) (j : Int)).getD (pos zs s) 0 = (s : Int)
  by_cases e : s = j
  · subst e
    simp [List.getD, hp]
  · have := hk s (by omega) hs0
    have hne : pos zs j ≠ pos zs s := fun he => e (pos_inj h (by omega) hj hs0 h0 he.symm)
    have h2 : S.getD (pos zs s) 0 = (s : Int) := this
    rw [← h2]
    simp [List.getD, hne]
theorem SymOk.skip {zs S : List Int} {j : Nat} (hk : SymOk zs S j) (h0 : zs.getD j 0 = 0) : SymOk zs S (j + 1) := by
  intro s hs hs0
  by_cases e : s = j
  · subst e; exact absurd h0 hs0
  · exact hk s (by omega) hs0
theorem tbl_set {zs S : List Int} (hS : S.length = 288) {p : Nat} (hp : p < 288) (v : Int) : (tbl zs S).set (16 + p) v = tbl zs (S.set p v) := by
  unfold tbl
  rw [List.append_assoc, List.append_assoc, List.set_append_right _ _ (by rw [cnts_len]; omega), cnts_len, Nat.add_sub_cancel_left, List.set_append_left _ _ (by omega)]
theorem pos_nx2 {zs : List Int} {j z : Nat} (h : zs.getD j 0 = (z : Int)) (h0 : 0 < z) : (pos zs j : Int) = (cS zs z : Int) + (cC (zs.take j) z : Int) := by
  unfold pos ln rk
  rw [h, cC_pos _ h0, Int.toNat_natCast]
  omega

set_option maxRecDepth 100000 in
set_option maxHeartbeats 2000000 in
theorem laid_any (a : Option Addr) (zs : List Int) (n cap : Nat) (hn : Hid (zs.length = n)) (w : World) (hs : SegZ w a zs) (hok : Hid (errC zs = 0)) :
    Calls Tryz.prog 155 #[.slice a n cap, .agg (arr (cnts zs))] w fun e w' => ∃ S : List Int, S.length = 288 ∧ SymOk zs S zs.length ∧ e = .returned (.agg (arr (tbl zs S))) ∧ Below w.heap.size w w' := by
  obtain ⟨hz111, hs111⟩ := zero_of_info info111
  have hb := cC_288 (errC_zero hok.out).1
  have h0 : (w.alloc (.cells (arr (cnts zs)) 219)).heap[w.heap.size]? = some (.cells (arr (cnts zs)) 219 (0, 0)) := heap_alloc_new w _
  have B0 : Below w.heap.size w (w.alloc (.cells (arr (cnts zs)) 219)) := (Below.refl _ _).alloc (Nat.le_refl _) _
  have z0 : (w.alloc (.cells (arr (cnts zs)) 219)).heap.size = w.heap.size + 1 := by simp
  have hu99 := Tryz.underlying219
  have hi99 : (Tryz.prog.info? 219).map (·.size) = some ((cnts zs).map (Value.int .i64)).length := by rw [List.length_map, cnts_len]; exact info16
  have HZ0 : Hid _ := z0
  clear z0
  go_enter Tryz.func155, Tryz.ntmps155
  go_wp2_with fail
  have z0 := HZ0.out
  clear HZ0
  generalize w.alloc (.cells (arr (cnts zs)) 219) = W0 at *
  have h1 : (W0.alloc (.cells Z305 222)).heap[W0.heap.size]? = some (.cells Z305 222 (0, 0)) := heap_alloc_new W0 _
  have B1 : Below W0.heap.size W0 (W0.alloc (.cells Z305 222)) := (Below.refl _ _).alloc (Nat.le_refl _) _
  have z1 : (W0.alloc (.cells Z305 222)).heap.size = W0.heap.size + 1 := by simp
  generalize W0.alloc (.cells Z305 222) = wr at *
  obtain ⟨A, eA⟩ : ∃ A, A = w.heap.size := ⟨_, rfl⟩
  obtain ⟨R, eR⟩ : ∃ R, R = A + 1 := ⟨_, rfl⟩
  have hA := (B1.block w.heap.size (by omega)).trans h0
  have Bw : Below w.heap.size w wr := B0.trans (B1.mono B0.size)
  have eR2 : W0.heap.size = R := by omega
  rw [eR2] at h1
  rw [← eA] at hA
  rw [← eA, ← eR]
  have HN : Hid (A = w.heap.size ∧ R = A + 1 ∧ wr.heap.size = R + 1) := ⟨eA, eR, by omega⟩
  clear eA eR eR2 h0 B0 z0 B1 z1
  have hAl : A < wr.heap.size := by have := HN.out; omega
  have hRl : R < wr.heap.size := by have := HN.out; omega
  have r0 := arr_range hA
  have HK : Hid (∀ w', Below wr.heap.size wr w' → w'.rangeAt A 0 ((cnts zs).map (Value.int .i64))) := fun w' hb => range_old r0 hb hAl
  have HT : Hid (∀ W, Calls Tryz.prog 169 #[.agg (arr (cnts zs))] W fun e w' => e = .returned (.int .i64 (tot zs : Int)) ∧ Below W.heap.size W w') := fun W => total_any zs hb W
  have Brr : Below wr.heap.size wr wr := Below.refl _ _
  have hbt := built_tbl (cnts_len zs) (tot zs : Int)
  have etb : cnts zs ++ Z288 ++ [(tot zs : Int)] = tbl zs Z288 := rfl
  rw [etb] at hbt
  clear etb r0
  refine wp_region_held_drew (S := fun w' => w'.rangeAt A 0 ((cnts zs).map (Value.int .i64))) (by kernel_rfl) (HK.out _ (Below.drew Brr)) (fun hHeld => ?_)
  refine wpAnyH_take (i := 0) (v := .agg (arr (cnts zs))) rfl (by kernel_rfl) (by kernel_rfl) (by kernel_rfl) (fun _ _ _ h => h) (yieldsIf_load_mid (by rfl) _ _ rfl _ _ rfl _ _ (fun w h => h) hu99 rfl hi99) hHeld ?_
  simp only [Act.put, List.setIfInBounds_toArray]
  refine wpAnyH_take (i := 1) (v := .agg (arr (cnts zs))) rfl (by kernel_rfl) (by kernel_rfl) (by kernel_rfl) (fun _ _ _ h => h) (yieldsIf_load_mid (by rfl) _ _ rfl _ _ rfl _ _ (fun w h => h) hu99 rfl hi99) hHeld ?_
  simp only [Act.put]
  refine wpAnyH_ready (rs := [2, 4]) (by kernel_rfl) (by simp) ?_
  refine AllReadyH.cons rfl (fun K hK => ?brA) (AllReadyH.cons rfl (fun K hK => ?brB) AllReadyH.nil)
  case' brA =>
    go_simp
    refine (HT.out _).mono ?_
    rintro e w3 ⟨rfl, b3⟩
    have b3w : Below wr.heap.size wr w3 := ⟨b3.os, b3.tape, b3.output, b3.size, b3.block⟩
    refine hK.out _ _ (HK.out _ b3w) (fun hHeld2 => ?_)
    clear hK K
    refine wpAnyH_take (i := 3) (v := .agg (arr (tbl zs Z288))) rfl (by kernel_rfl) (by kernel_rfl) (by kernel_rfl) (fun _ _ _ h => h) (Or.inl ⟨by rfl, fun W _ => exec_build rfl W hbt (by go_simp)⟩) hHeld2 ?_
    simp only [Act.put]
    refine wpAnyH_ready (rs := [4]) (by kernel_rfl) (by simp) ?_
    refine AllReadyH.cons rfl (fun K hK => ?_) AllReadyH.nil
    go_simp
    refine hK.out _ _ (HK.out _ (b3w.alloc b3w.size _)) (fun hHeld3 => ?_)
    clear hK K
    refine wpAnyH_ready (rs := [5]) (by kernel_rfl) (by simp) ?_
    refine AllReadyH.cons rfl (fun K hK => ?_) AllReadyH.nil
    rw [if_pos (by rfl)]
    refine wp_store_row 222 _ _ rfl w3.heap.size (arr (tbl zs Z288)) rfl rfl _ Z305 (heap_alloc_new w3 _) (info305 (tbl_len Z288_len)) (by rw [arr_size, tbl_len Z288_len, Z305_size]) (arr_one _) ?_
    rw [World.setRow_alloc_new]
    refine hK.out _ _ (HK.out _ (b3w.alloc b3w.size _)) (fun hHeld3 => ?_)
    clear hK K
    refine wpAnyH_done (by kernel_rfl) ?_ _
    have hT : (w3.alloc (.cells (arr (tbl zs Z288)) 222)).heap[w3.heap.size]? = some (.cells (arr (tbl zs Z288)) 222 (0, 0)) := heap_alloc_new w3 _
    have BT : Below wr.heap.size wr (w3.alloc (.cells (arr (tbl zs Z288)) 222)) := b3w.alloc b3w.size _
    have HTl : Hid (wr.heap.size ≤ w3.heap.size) := b3w.size
    generalize w3.alloc (.cells (arr (tbl zs Z288)) 222) = WT at *
    generalize w3.heap.size = T at *
    simp only [Act.put, List.getElem_toArray, List.getElem_cons_succ, List.getElem_cons_zero]
    clear hHeld hHeld2 hHeld3 b3 b3w
  case' brB =>
    go_simp
    have b3w : Below wr.heap.size wr (wr.alloc (.cells Z305 222)).drew := (Brr.alloc (Nat.le_refl _) _).drew
    refine hK.out _ _ (HK.out _ b3w) (fun hHeld2 => ?_)
    clear hK K
    have hZ : (wr.alloc (.cells Z305 222)).drew.heap[wr.heap.size]? = some (.cells Z305 222 (0, 0)) := heap_alloc_new _ _
    have hZl : wr.heap.size < (wr.alloc (.cells Z305 222)).drew.heap.size := by simp
    generalize (wr.alloc (.cells Z305 222)).drew = w2 at *
    refine wpAnyH_ready (rs := [2]) (by kernel_rfl) (by simp) ?_
    refine AllReadyH.cons rfl (fun K hK => ?_) AllReadyH.nil
    go_simp
    refine (HT.out _).mono ?_
    rintro e w3 ⟨rfl, b3⟩
    have b3w2 : Below wr.heap.size wr w3 := b3w.trans (b3.mono b3w.size)
    refine hK.out _ _ (HK.out _ b3w2) (fun hHeld3 => ?_)
    clear hK K
    refine wpAnyH_take (i := 3) (v := .agg (arr (tbl zs Z288))) rfl (by kernel_rfl) (by kernel_rfl) (by kernel_rfl) (fun _ _ _ h => h) (Or.inl ⟨by rfl, fun W _ => exec_build rfl W hbt (by go_simp)⟩) hHeld3 ?_
    simp only [Act.put]
    refine wpAnyH_ready (rs := [5]) (by kernel_rfl) (by simp) ?_
    refine AllReadyH.cons rfl (fun K hK => ?_) AllReadyH.nil
    rw [if_pos (by rfl)]
    have hZ3 := (b3.block _ hZl).trans hZ
    refine wp_store_row 222 _ _ rfl wr.heap.size (arr (tbl zs Z288)) rfl rfl _ Z305 hZ3 (info305 (tbl_len Z288_len)) (by rw [arr_size, tbl_len Z288_len, Z305_size]) (arr_one _) ?_
    have hT : (w3.setRow wr.heap.size (arr (tbl zs Z288))).heap[wr.heap.size]? = some (.cells (arr (tbl zs Z288)) 222 (0, 0)) := setRow_heap _ _ _ _ _ _ hZ3
    have BT : Below wr.heap.size wr (w3.setRow wr.heap.size (arr (tbl zs Z288))) := b3w2.grown (grown_setRow _ _ _) b3w2.size (fun k hk => by cases hk; exact Nat.le_refl _)
    refine hK.out _ _ (HK.out _ BT) (fun hHeld3 => ?_)
    clear hK K
    refine wpAnyH_done (by kernel_rfl) ?_ _
    have HTl : Hid (wr.heap.size ≤ wr.heap.size) := Nat.le_refl _
    generalize w3.setRow wr.heap.size (arr (tbl zs Z288)) = WT at *
    obtain ⟨T, eT⟩ : ∃ T, T = wr.heap.size := ⟨_, rfl⟩
    have HTl : Hid (wr.heap.size ≤ T) := Nat.le_of_eq eT.symm
    rw [← eT] at hT ⊢
    simp only [Act.put, List.getElem_toArray, List.getElem_cons_succ, List.getElem_cons_zero]
    clear hHeld hHeld2 hHeld3 b3 b3w b3w2 eT
  all_goals
    have hA2 := (BT.block A hAl).trans hA
    have hR2 := (BT.block R hRl).trans h1
    have BwT : Below w.heap.size w WT := Bw.trans (BT.mono Bw.size)
    have hTs : T < WT.heap.size := (Array.getElem?_eq_some_iff.1 hT).1
    clear hA h1 HK HT hbt hz111
    go_wp2_with fail
    have hN0 : (WT.alloc (.cells zero16 219)).heap[WT.heap.size]? = some (.cells (arr (sktk zs 0)) 219 (0, 0)) := by rw [sktk_zero]; exact heap_alloc_new WT _
    have BN : Below WT.heap.size WT (WT.alloc (.cells zero16 219)) := (Below.refl _ _).alloc (Nat.le_refl _) _
    change Code.wp _ _ _ _ (WT.alloc (.cells zero16 219))
    generalize WT.alloc (.cells zero16 219) = W5 at *
    obtain ⟨N, eN⟩ : ∃ N, N = WT.heap.size := ⟨_, rfl⟩
    rw [← eN] at hN0 hTs
    rw [← eN]
    have HNN : Hid (A < R ∧ R < T ∧ T < N ∧ w.heap.size = A) := by
      have h1 := HN.out
      have h2 := HTl.out
      exact ⟨by omega, by omega, hTs, h1.1.symm⟩
    have hA5 := (BN.block A (by have := HNN.out; omega)).trans hA2
    have hR5 := (BN.block R (by have := HNN.out; omega)).trans hR2
    have hT5 := (BN.block T (by have := HNN.out; omega)).trans hT
    have B5 : Below w.heap.size w W5 := BwT.trans (BN.mono BwT.size)
    clear hA2 hR2 hT BN eN
    go_loopw [14] (fun tj wq => ∃ j : Nat, j ≤ 15 ∧ tj = .int .i64 (j : Int) ∧ wq.heap[N]? = some (.cells (arr (sktk zs j)) 219 (0, 0)) ∧ W5.grownBy wq (some N)) (fun tj _ => 15 - (intOf tj).toNat)
    case atStart => exact ⟨0, by omega, rfl, hN0, World.grownBy.refl _ _⟩
    case round =>
      obtain ⟨j, hj, rfl, ho, hg⟩ := hrel
      have hA6 := (hg.block A (Array.getElem?_eq_some_iff.1 hA5).1 (by have := HNN.out; simp; omega)).trans hA5
      by_cases hj6 : j < 15
      · have hji : (j : Int) < 15 := by omega
        have c0 := arr_cell hA6 (i := j) (by rw [cnts_len]; omega)
        rw [cnts_get zs (by omega)] at c0
        have d0 := arr_cell ho (i := j) (by rw [sktk_len]; omega)
        rw [sktk_get zs (by omega), if_pos (Nat.le_refl _)] at d0
        have d1 := arr_cell ho (i := j + 1) (by rw [sktk_len]; omega)
        have f1 := arr_free ho (j + 1)
        have HSET : Hid _ := arr_set ho (j + 1) (cS zs (j + 1) : Int)
        have HF : Hid (cS zs (j + 1) = cS zs j + cC zs j) := cS_succ zs j
        have hsb : cS zs j ≤ 100000 := by
          have h1 := cS_le zs hb j
          have h2 : j * 288 ≤ 15 * 288 := Nat.mul_le_mul_right _ hj
          omega
        have hcb := hb j
        generalize (sktk zs j).getD (j + 1) 0 = old at *
        generalize cC zs j = c at *
        have HX : Hid (∃ x, x = cS zs (j + 1)) := ⟨_, rfl⟩
        obtain ⟨x, hx⟩ := HX.out
        rw [← hx] at HSET HF
        have HXX : Hid (x = cS zs (j + 1)) := hx
        clear hx HX
        generalize cS zs j = f at *
        have r1 : (f : Int) + (c : Int) = (x : Int) := by have := HF.out; omega
        have hxb : x ≤ 200000 := by have := HF.out; omega
        have hx64 : IntKind.i64.wrap (x : Int) = (x : Int) := IntWalk.i64_in _ (by omega)
        have hji1 : (j : Int) + 1 < 16 := by omega
        have hj16 : (j : Int) < 16 := by omega
        have hz1 : (0 : Int) ≤ (j : Int) + 1 := by omega
        have hwj : IntKind.i64.wrap ((j : Int) + 1) = (j : Int) + 1 := IntWalk.i64_in _ (by omega)
        have k1 : ∀ v, (wr.setCell ⟨N, j + 1, none⟩ v).drew.cell? ⟨A, j, none⟩ = some (.int .i64 (c : Int)) := fun v => (World.cell?_setCell_other _ _ _ _ (by intro e; simp only [Addr.mk.injEq] at e; have := HNN.out; omega)).trans c0
        have k2 : ∀ v, (wr.setCell ⟨N, j + 1, none⟩ v).drew.cell? ⟨N, j, none⟩ = some (.int .i64 (f : Int)) := fun v => (World.cell?_setCell_other _ _ _ _ (by intro e; simp only [Addr.mk.injEq] at e; omega)).trans d0
        go_wp2_with fail
        go_region_held3 (fun w' => w'.cell? ⟨A, j, none⟩ = some (.int .i64 (c : Int)) ∧ w'.cell? ⟨N, j, none⟩ = some (.int .i64 (f : Int))) (first | go_keep | (exact ⟨k1 _, k2 _⟩) | (exact k1 _) | (exact k2 _)) (fail)
        all_goals
          go_wp2
          go_roundw
          case rel =>
            refine ⟨j + 1, by omega, by go_num, ?_, ?_⟩
            · rw [← sktk_set zs (by omega), ← HXX.out]
              exact HSET.out
            · exact grown_drew (grownBy_trans hg (set_grown _ _ _ _))
          case measure => simp [intOf]; omega
      · obtain rfl : j = 15 := by omega
        rw [nx2_zero] at ho
        go_wp2_with fail
        have hTv := (hg.block T (Array.getElem?_eq_some_iff.1 hT5).1 (by have := HNN.out; simp; omega)).trans hT5
        have hRv := (hg.block R (Array.getElem?_eq_some_iff.1 hR5).1 (by have := HNN.out; simp; omega)).trans hR5
        have BV := B5.grown hg B5.size (fun k hk => by cases hk; have := HNN.out; omega)
        have HL := errS_zero (errC_zero hok.out).1
        have HLK : Hid (LOk zs) := HL.2
        have hn288 : n ≤ 288 := by have := hn.out; have := HL.1; omega
        have HTT : Hid (tot zs ≤ 288) := Nat.le_trans (tot_le zs HL.2) HL.1
        clear HL hg hA6 hb
        go_loopw [30] (fun tj wq => ∃ (j : Nat) (S : List Int), j ≤ n ∧ tj = .int .i64 (j : Int) ∧ Hid (S.length = 288 ∧ SymOk zs S j) ∧ wq.heap[N]? = some (.cells (arr (nx2 zs j)) 219 (0, 0)) ∧ wq.heap[T]? = some (.cells (arr (tbl zs S)) 222 (0, 0)) ∧ wq.heap[R]? = some (.cells Z305 222 (0, 0)) ∧ Below w.heap.size w wq) (fun tj _ => n - (intOf tj).toNat)
        case atStart => exact ⟨0, Z288, by omega, rfl, (⟨Z288_len, fun s hs => by omega⟩ : _ ∧ _), ho, hTv, hRv, BV⟩
        case round =>
          obtain ⟨j, S, hj, rfl, HS, hn2, ht2, hr2, Bq⟩ := hrel
          clear ho hTv hRv BV
          by_cases hjn : j < n
          · have hji : (j : Int) < (n : Int) := by omega
            obtain ⟨b, off, rfl, c0⟩ := (hs.old Bq).at_ j (by have := hn.out; omega)
            have HTK : Hid (zs.take (j + 1) = zs.take j ++ [zs.getD j 0]) := take_snocZ (by have := hn.out; omega)
            have HZB : Hid (0 ≤ zs.getD j 0 ∧ zs.getD j 0 ≤ 15) := HLK.out.get j
            have HZ : Hid (∃ z, z = zs.getD j 0) := ⟨_, rfl⟩
            obtain ⟨z, hz⟩ := HZ.out
            have HZJ : Hid (z = zs.getD j 0) := hz
            rw [← hz] at HTK c0 HZB
            clear HZ hz
            by_cases hz00 : z = 0
            · subst hz00
              go_wp2_with fail
              go_roundw
              case rel =>
                refine ⟨j + 1, S, by omega, by go_num, (⟨HS.out.1, HS.out.2.skip HZJ.out.symm⟩ : _ ∧ _), ?_, ht2, hr2, Bq⟩
                rw [nx2_skip HTK.out]; exact hn2
              case measure => simp [intOf]; omega
            · obtain ⟨k, rfl⟩ : ∃ k : Nat, z = (k : Int) := ⟨z.toNat, by have := HZB.out; omega⟩
              have hk16 : (k : Int) < 16 := by have := HZB.out; omega
              have hk0 : (0 : Int) < (k : Int) := by have := HZB.out; omega
              have HK16 : Hid (k < 16 ∧ 0 < k) := ⟨by omega, by omega⟩
              have d0 := arr_cell hn2 (i := k) (by rw [nx2_len]; omega)
              rw [nx2_get _ _ (by omega)] at d0
              have HCD : Hid ((pos zs j : Int) = (cS zs k : Int) + (cC (zs.take j) k : Int)) := pos_nx2 HZJ.out.symm HK16.out.2
              rw [← HCD.out] at d0
              have HZN : Hid (zs.getD j 0 ≠ 0) := by rw [← HZJ.out]; exact hz00
              have hpb : pos zs j < 288 := Nat.lt_of_lt_of_le (pos_tot HLK.out (by have := hn.out; omega) HZN.out) HTT.out
              have HSP : Hid (SymOk zs (S.set (pos zs j) (j : Int)) (j + 1)) := SymOk.put HLK.out HS.out.1 HS.out.2 (by have := hn.out; omega) HZN.out HTT.out
              have HC2 : Hid (∃ p, p = pos zs j) := ⟨_, rfl⟩
              obtain ⟨p, hp⟩ := HC2.out
              have HPJ : Hid (p = pos zs j) := hp
              rw [← hp] at d0 hpb HSP
              clear hp HC2
              have hpi : (p : Int) < 288 := by omega
              have t0 := arr_cell ht2 (i := 16 + p) (by rw [tbl_len HS.out.1]; omega)
              have tf := arr_free ht2 (16 + p)
              have HTS := arr_set ht2 (16 + p) (j : Int)
              rw [tbl_set HS.out.1 (by omega)] at HTS
              have hn6 : (wr.setCell ⟨T, 16 + p, none⟩ (.int .i64 (j : Int))).heap[N]? = some (.cells (arr (nx2 zs j)) 219 (0, 0)) := ((set_grown wr T (16 + p) (.int .i64 (j : Int))).block N (Array.getElem?_eq_some_iff.1 hn2).1 (by have := HNN.out; simp; omega)).trans hn2
              have hr6 : (wr.setCell ⟨T, 16 + p, none⟩ (.int .i64 (j : Int))).heap[R]? = some (.cells Z305 222 (0, 0)) := ((set_grown wr T (16 + p) (.int .i64 (j : Int))).block R (Array.getElem?_eq_some_iff.1 hr2).1 (by have := HNN.out; simp; omega)).trans hr2
              have B6 : Below w.heap.size w (wr.setCell ⟨T, 16 + p, none⟩ (.int .i64 (j : Int))) := Bq.grown (set_grown _ _ _ _) Bq.size (fun k hk => by cases hk; have := HNN.out; omega)
              have d6 := arr_cell hn6 (i := k) (by rw [nx2_len]; exact HK16.out.1)
              rw [nx2_get _ _ HK16.out.1, ← HCD.out, ← HPJ.out] at d6
              have f6 := arr_free hn6 k
              have HS6 : Hid _ := arr_set hn6 k ((p : Int) + 1)
              have HT7 : Hid (((wr.setCell ⟨T, 16 + p, none⟩ (.int .i64 (j : Int))).setCell ⟨N, k, none⟩ (.int .i64 ((p : Int) + 1))).heap[T]? = some (.cells (arr (tbl zs (S.set p (j : Int)))) 222 (0, 0))) := ((set_grown _ N k (.int .i64 ((p : Int) + 1))).block T (Array.getElem?_eq_some_iff.1 HTS).1 (by have := HNN.out; simp; omega)).trans HTS
              have HR7 : Hid (((wr.setCell ⟨T, 16 + p, none⟩ (.int .i64 (j : Int))).setCell ⟨N, k, none⟩ (.int .i64 ((p : Int) + 1))).heap[R]? = some (.cells Z305 222 (0, 0))) := ((set_grown _ N k (.int .i64 ((p : Int) + 1))).block R (Array.getElem?_eq_some_iff.1 hr6).1 (by have := HNN.out; simp; omega)).trans hr6
              have B7 : Hid (Below w.heap.size w ((wr.setCell ⟨T, 16 + p, none⟩ (.int .i64 (j : Int))).setCell ⟨N, k, none⟩ (.int .i64 ((p : Int) + 1)))) := B6.grown (set_grown _ _ _ _) B6.size (fun k hk => by cases hk; have := HNN.out; omega)
              have HSL : Hid ((S.set p (j : Int)).length = 288) := by show _ = _; rw [List.length_set]; exact HS.out.1
              generalize (tbl zs S).getD (16 + p) 0 = old at *
              clear HTS hr6 B6 hn6
              go_wp2_with fail
              go_roundw
              case rel =>
                refine ⟨j + 1, S.set p (j : Int), by omega, by go_num, (⟨HSL.out, HSP.out⟩ : _ ∧ _), ?_, HT7.out, HR7.out, B7.out⟩
                rw [nx2_put HTK.out HK16.out.2, ← HCD.out, ← HPJ.out]
                exact HS6.out
              case measure => simp [intOf]; omega
          · obtain rfl : j = n := by omega
            go_wp2_with (first
              | (refine wpList_load_row rfl 222 _ rfl T rfl _ _ _ _ ht2 Tryz.underlying222 rfl (info305 (tbl_len HS.out.1)) ?_)
              | (refine wpList_store_row rfl 222 _ _ rfl R (arr (tbl zs S)) rfl rfl _ _ hr2 (info305 (tbl_len HS.out.1)) (by rw [arr_size, tbl_len HS.out.1, Z305_size]) (arr_one _) ?_))
            have hRR : (wr.setRow R (arr (tbl zs S))).heap[R]? = some (.cells (arr (tbl zs S)) 222 (0, 0)) := setRow_heap wr R _ _ _ _ hr2
            refine bodyPost_ret (v := .agg (arr (tbl zs S))) (results_cell_row rfl _ _ R _ _ _ _ rfl hRR Tryz.underlying222 rfl (info305 (tbl_len HS.out.1))) rfl ⟨S, HS.out.1, ?_, rfl, ?_⟩
            · rw [hn.out]; exact HS.out.2
            · exact Bq.grown (grown_setRow wr R _) Bq.size (fun k hk => by cases hk; have := HNN.out; omega)
end Go.Proofs.YtcifalelnfeggaaGreatDoor

namespace Go.Proofs.YtcifalelnfeggaaGreatDoor
open Go.RowKit
set_option linter.unusedVariables false

/-- Many cells into the middle of a block. -/
theorem wpList_store_at {P : Program} {ops : Array Oper} {rest : List Oper} {o : Oper} {a : Act} {w : World} {Q : Exit → Act → World → Prop} (hgd : o.guard = none) (ty : TypeId) (x y : Operand) (ho : o.op = .store ty x y)
    (g off : Nat) (cells : Array Value) (hx : a.eval x = .pointer (some ⟨g, off, none⟩)) (hy : a.eval y = .agg cells)
    (t : TypeId) (old : Array Value) (hg : w.heap[g]? = some (.cells old t (0, 0))) (hi : (P.info? ty).map (·.size) = some cells.size)
    (hfit : off + cells.size ≤ old.size) (h1 : cells.all (·.oneCell') = true)
    (h : wpList P ops Q rest (a.put o.dst undef) (w.setRow g (old.toList.take off ++ cells.toList ++ old.toList.drop (off + cells.size)).toArray)) : wpList P ops Q (o :: rest) a w := by
  refine wpList_plain hgd fun K hK => ?_
  have hst := run_storeCells_at P g off t cells.toList 0 old w hg (by simpa using hfit) (fun v hv => (Array.all_eq_true_iff_forall_mem.1 h1) v (by simpa using hv))
  simp only [Nat.add_zero, Array.length_toList] at hst
  generalize w.setRow g (old.toList.take off ++ cells.toList ++ old.toList.drop (off + cells.size)).toArray = w2 at *
  cases hq : P.info? ty with
  | none => simp [hq] at hi
  | some i =>
    have hs : cells.size = i.size := by simp [hq] at hi; omega
    unfold Oper.wp execOp
    simp only [ho, hx, hy, Instr.storeAt, Instr.sureAddr, Sem.run_bind, Sem.run_pure, Result.andThen_ok]
    have hsv : (storeVar ty ⟨g, off, none⟩ (.agg cells)).run P w = .ok () w2 := by
      simp [storeVar, sizeOf, typeInfo, hq, Value.cells, hs, hst]
    simp only [hsv, Result.andThen_ok]
    exact hK _ _ h
theorem dl_load (m : Int) {T0 T : List Int} (h0 : T0.length = 305) (h : T.length = 305) : ((arr (m :: T0)).toList.take 1 ++ (arr T).toList ++ (arr (m :: T0)).toList.drop (1 + (arr T).size)).toArray = arr (m :: T) := by
  rw [arr_size, h]
  have e : (arr (m :: T0)).toList.drop (1 + 305) = [] := List.drop_of_length_le (by simp [arr, h0])
  rw [e]
  simp [arr]
def errD (most : Nat) (zs : List Int) : Int := if most < zs.length then 50 else errC zs
def LodQ (w : World) (b most : Nat) (zs0 zs : List Int) (e : Ending) (w' : World) : Prop := e = .returned (.int .i64 (errD most zs)) ∧ De w' b most (if errD most zs = 0 then zs else zs0) ∧ Kp (fun k => k = b) w w'

set_option maxRecDepth 100000 in
set_option maxHeartbeats 1000000 in
theorem load_any (b most : Nat) (zs0 : List Int) (a : Option Addr) (zs : List Int) (n cap : Nat) (hn : Hid (zs.length = n)) (w : World) (hD : De w b most zs0) (hs : SegZ w a zs) (hl : n ≤ 9223372036854775807) :
    Calls Tryz.prog 135 #[.pointer (some ⟨b, 0, none⟩), .slice a n cap] w fun e w' => LodQ w b most zs0 zs e w' := by
  obtain ⟨S0, hS0, hY0, hb0⟩ := hD.row
  have c0 := arr_cell hb0 (i := 0) (by simp [dl])
  have e0 : (dl most zs0 S0).getD 0 0 = (most : Int) := rfl
  rw [e0] at c0
  have hm := hD.mo
  have hm0 : ¬ (most : Int) = 0 := by omega
  clear e0
  have hbl := hD.lt
  by_cases hbig : most < n
  · have hbi : (most : Int) < (n : Int) := by omega
    have HE : Hid (errD most zs = 50) := by show _ = _; unfold errD; rw [hn.out, if_pos hbig]
    go_enter Tryz.func135, Tryz.ntmps135
    go_wp2_with fail
    go_ret
    exact ⟨by rw [HE.out]; rfl, by rw [HE.out]; exact hD, Kp.refl _ _⟩
  · have hbi : ¬ (most : Int) < (n : Int) := by omega
    have HE : Hid (errD most zs = errC zs) := by show _ = _; unfold errD; rw [hn.out, if_neg hbig]
    have HC := checked_any a zs n cap hn w hs hl
    have key : ∀ E : Int, E = 50 ∨ E = 51 ∨ E = 52 → errC zs = E → Calls Tryz.prog 135 #[.pointer (some ⟨b, 0, none⟩), .slice a n cap] w fun e w' => LodQ w b most zs0 zs e w' := by
      intro E hE hEE
      have HEE : Hid (errC zs = E) := hEE
      rw [hEE] at HC
      clear hEE
      rcases hE with rfl | rfl | rfl
      all_goals
        go_enter Tryz.func135, Tryz.ntmps135
        go_wp2_with fail
        refine HC.mono ?_
        rintro e W1 ⟨X, hX16, hXc, rfl, B1⟩
        have HX : Hid (X.length = 16) := hX16
        clear hXc hX16
        have B2 : Below w.heap.size w (W1.alloc (.cells (arr X) 219)) := B1.alloc B1.size _
        go_wp2_with (first
          | (refine wpList_store_row rfl 219 _ _ rfl W1.heap.size (arr X) rfl rfl _ zero16 (heap_alloc_new W1 _) (arr_info HX.out) (by rw [arr_size, HX.out]; rfl) (arr_one _) ?_; rw [World.setRow_alloc_new]))
        go_ret
        exact ⟨by rw [HE.out, HEE.out]; rfl, by rw [HE.out, HEE.out]; exact hD.keep (B2.block b hbl), Kp.of_below B2⟩
    rcases errC_cases zs with hok | h | h | h
    · have HOK : Hid (errC zs = 0) := hok
      rw [hok] at HC
      clear hok key
      have HLA : Hid (∀ W, Below w.heap.size w W → Calls Tryz.prog 155 #[.slice a n cap, .agg (arr (cnts zs))] W fun e w' => ∃ S : List Int, S.length = 288 ∧ SymOk zs S zs.length ∧ e = .returned (.agg (arr (tbl zs S))) ∧ Below W.heap.size W w') := fun W hW => laid_any a zs n cap hn W (hs.old hW) HOK
      go_enter Tryz.func135, Tryz.ntmps135
      go_wp2_with fail
      refine HC.mono ?_
      rintro e W1 ⟨X, hX16, hXc, rfl, B1⟩
      obtain rfl := hXc trivial
      clear hXc hX16
      have B2 : Below w.heap.size w (W1.alloc (.cells (arr (cnts zs)) 219)) := B1.alloc B1.size _
      have ho2 := new_arr (w := W1) (A := cnts zs) (t := 219)
      go_wp2_with (first
        | (refine wpList_store_row rfl 219 _ _ rfl W1.heap.size (arr (cnts zs)) rfl rfl _ zero16 (heap_alloc_new W1 _) (arr_info (cnts_len _)) (by rw [arr_size, cnts_len]; rfl) (arr_one _) ?_; rw [World.setRow_alloc_new])
        | (refine wpList_load_row rfl 219 _ rfl W1.heap.size rfl _ _ _ _ ho2 Tryz.underlying219 rfl (arr_info (cnts_len _)) ?_))
      generalize W1.alloc (.cells (arr (cnts zs)) 219) = W2 at *
      refine (HLA.out _ B2).mono ?_
      rintro e W3 ⟨S, hS, hY, rfl, B3⟩
      have HS : Hid (S.length = 288 ∧ SymOk zs S zs.length) := ⟨hS, hY⟩
      clear hS hY
      have B23 : Below w.heap.size w W3 := B2.trans (B3.mono B2.size)
      have hb3 := (B23.block b hbl).trans hb0
      go_wp2_with (first
        | (refine wpList_store_at rfl 222 _ _ rfl b 1 (arr (tbl zs S)) rfl rfl _ _ hb3 (info305 (tbl_len HS.out.1)) (by rw [arr_size, arr_size, tbl_len HS.out.1]; simp [dl, tbl_len hS0]) (arr_one _) ?_))
      have hdl : (List.take 1 (arr (dl most zs0 S0)).toList ++ ((arr (tbl zs S)).toList ++ List.drop (1 + (arr (tbl zs S)).size) (arr (dl most zs0 S0)).toList)).toArray = arr (dl most zs S) := by
        rw [← List.append_assoc]
        exact dl_load (most : Int) (tbl_len hS0) (tbl_len HS.out.1)
      rw [hdl]
      go_ret
      have hR : (W3.setRow b (arr (dl most zs S))).heap[b]? = some (.cells (arr (dl most zs S)) 224 (0, 0)) := setRow_heap W3 b _ _ _ _ hb3
      refine ⟨by rw [HE.out, HOK.out]; rfl, ?_, ?_⟩
      · rw [HE.out, HOK.out, if_pos rfl]
        exact ⟨HOK.out, hm, S, HS.out.1, HS.out.2, hR⟩
      · exact (Kp.of_below B23).trans (Kp.grown (S := fun k => k = b) (grown_setRow W3 b _) (fun i hi => by cases hi; rfl)) (fun _ _ h => h)
    · exact key 50 (.inl rfl) h
    · exact key 51 (.inr (.inl rfl)) h
    · exact key 52 (.inr (.inr rfl)) h
end Go.Proofs.YtcifalelnfeggaaGreatDoor

namespace Go.Proofs.YtcifalelnfeggaaGreatDoor
open Go.RowKit
set_option linter.unusedVariables false

/-- A Reader in a block of its own: the bits that it holds, and how many are gone. -/
structure Rd (w : World) (b : Nat) (H : List Bool) (t : Nat) : Prop where
  hp : w.heap[b]? = some (.cells #[.int .u64 (num H : Int), .int .i64 (H.length : Int), .int .i64 (t : Int)] 165 (0, 0))
  le : H.length ≤ 64
theorem Rd.b_lt {w : World} {b : Nat} {H : List Bool} {t : Nat} (h : Rd w b H t) : b < w.heap.size := (Array.getElem?_eq_some_iff.1 h.hp).1
theorem Rd.kp {w w' : World} {b : Nat} {H : List Bool} {t : Nat} {S : Nat → Prop} (h : Rd w b H t) (hk : Kp S w w') (hn : ¬ S b) : Rd w' b H t := ⟨hk.heap h.hp hn, h.le⟩
theorem Rd.fits {w : World} {b : Nat} {H : List Bool} {t : Nat} (h : Rd w b H t) : num H < 18446744073709551616 := Nat.lt_of_lt_of_le (num_lt H) (pow_le_64 h.le)
theorem Rd.new {w : World} {b : Nat} (h : w.heap[b]? = some (.cells #[.int .u64 0, .int .i64 0, .int .i64 0] 165 (0, 0))) : Rd w b [] 0 := ⟨h, by simp⟩

set_option maxRecDepth 100000 in
theorem space_any (b : Nat) (H : List Bool) (t : Nat) (w : World) (h : Rd w b H t) :
    Calls Tryz.prog 151 #[.pointer (some ⟨b, 0, none⟩)] w fun e w' => e = .returned (.int .i64 (((64 - H.length) / 8 : Nat) : Int)) ∧ w' = w := by
  have hc1 := three_cell1 h.hp
  have hle := h.le
  have HE : Hid ((((64 - H.length) / 8 : Nat) : Int) = (64 - (H.length : Int)) / 8) := by show _ = _; omega
  go_enter Tryz.func151, Tryz.ntmps151
  go_wp2
  go_ret
  exact ⟨by rw [HE.out]; rfl, rfl⟩
set_option maxRecDepth 100000 in
theorem has_any (b : Nat) (H : List Bool) (t : Nat) (w : World) (h : Rd w b H t) :
    Calls Tryz.prog 161 #[.pointer (some ⟨b, 0, none⟩)] w fun e w' => e = .returned (.int .i64 (H.length : Int)) ∧ w' = w := by
  have hc1 := three_cell1 h.hp
  go_enter Tryz.func161, Tryz.ntmps161
  go_wp2
  go_ret
  exact ⟨rfl, rfl⟩
/-- Are so many bits there, for one call? -/
def there (H : List Bool) (n : Int) : Bool := decide (0 ≤ n ∧ n ≤ 56 ∧ n ≤ H.length)
theorem there_yes {H : List Bool} {n : Int} (h : there H n = true) : ∃ k : Nat, n = k ∧ k ≤ 56 ∧ k ≤ H.length := by
  unfold there at h
  have h := of_decide_eq_true h
  exact ⟨n.toNat, by omega, by omega, by omega⟩
theorem there_no {H : List Bool} {n : Int} (h : there H n = false) : n < 0 ∨ (0 ≤ n ∧ 56 < n) ∨ (0 ≤ n ∧ n ≤ 56 ∧ (H.length : Int) < n) := by
  unfold there at h
  have h := of_decide_eq_false h
  omega
theorem there_of {H : List Bool} {k : Nat} (h1 : k ≤ 56) (h2 : k ≤ H.length) : there H k = true := by
  unfold there
  exact decide_eq_true (by omega)

set_option maxRecDepth 100000 in
set_option maxHeartbeats 400000 in
theorem peek_yes (b : Nat) (H : List Bool) (t k : Nat) (w : World) (h : Rd w b H t) (h1 : k ≤ 56) (h2 : k ≤ H.length) :
    Calls Tryz.prog 139 #[.pointer (some ⟨b, 0, none⟩), .int .i64 (k : Int)] w fun e w' => e = .returned (.tuple #[.int .u64 (num (H.take k) : Int), .bool true]) ∧ w' = w := by
  have hc0 := three_cell0 h.hp
  have hc1 := three_cell1 h.hp
  have C := low_any (num H) k w h.fits (by omega)
  rw [← num_take H k h2] at C
  have hk : (k : Int) ≤ (H.length : Int) := by omega
  go_enter Tryz.func139, Tryz.ntmps139
  go_wp2_with fail
  refine C.mono ?_
  rintro e w1 ⟨rfl, hw1⟩
  subst w1
  go_wp2
  go_ret2
  exact ⟨rfl, rfl⟩
set_option maxRecDepth 100000 in
set_option maxHeartbeats 400000 in
theorem peek_no (b : Nat) (H : List Bool) (t : Nat) (n : Int) (w : World) (h : Rd w b H t) (hn : there H n = false) :
    Calls Tryz.prog 139 #[.pointer (some ⟨b, 0, none⟩), .int .i64 n] w fun e w' => e = .returned (.tuple #[.int .u64 0, .bool false]) ∧ w' = w := by
  have hc0 := three_cell0 h.hp
  have hc1 := three_cell1 h.hp
  rcases there_no hn with hn | ⟨hn, hn2⟩ | ⟨hn, hn2, hn3⟩
  · go_enter Tryz.func139, Tryz.ntmps139
    go_wp2
    go_ret2
    exact ⟨rfl, rfl⟩
  · go_enter Tryz.func139, Tryz.ntmps139
    go_wp2
    go_ret2
    exact ⟨rfl, rfl⟩
  · go_enter Tryz.func139, Tryz.ntmps139
    go_wp2
    go_ret2
    exact ⟨rfl, rfl⟩

set_option maxRecDepth 100000 in
set_option maxHeartbeats 400000 in
theorem drop_any (b : Nat) (H : List Bool) (t k : Nat) (w : World) (h : Rd w b H t) (h2 : k ≤ H.length) (ht : t ≤ 4611686018427387904) :
    Calls Tryz.prog 121 #[.pointer (some ⟨b, 0, none⟩), .int .i64 (k : Int)] w fun e w' => e = .returned (.tuple #[]) ∧ Rd w' b (H.drop k) (t + k) ∧ w.grownBy w' (some b) := by
  have hc0 := three_cell0 h.hp
  have hc1 := three_cell1 h.hp
  have hc2 := three_cell2 h.hp
  have hf := three_free h.hp
  have hsh := shr_nat (num H) k
  have hle := h.le
  rw [← num_drop H k h2] at hsh
  have hp := h.hp
  have hnl := h.fits
  obtain ⟨q, hq⟩ : ∃ q, q = num (H.drop k) := ⟨_, rfl⟩
  rw [← hq] at hsh
  have HQ : Hid (q = num (H.drop k)) := hq
  clear hq
  go_enter Tryz.func121, Tryz.ntmps121
  go_wp2
  go_end0
  refine ⟨rfl, ⟨?_, by simp; omega⟩, grownBy_set (grownBy_set (grownBy_set (World.grownBy.refl _ _) _) _) _⟩
  rw [three_set2 (three_set1 (three_set0 hp _) _) _, HQ.out, List.length_drop]
  have e1 : ((H.length : Int) - (k : Int)) = ((H.length - k : Nat) : Int) := by omega
  have e2 : ((t : Int) + (k : Int)) = ((t + k : Nat) : Int) := by omega
  rw [e1, e2]

/-- What a Take leaves. -/
def takeL (H : List Bool) (n : Int) : List Bool := if there H n then H.drop n.toNat else H
def takeT (H : List Bool) (t : Nat) (n : Int) : Nat := if there H n then t + n.toNat else t
def takeV (H : List Bool) (n : Int) : Nat := if there H n then num (H.take n.toNat) else 0

theorem peek_any (b : Nat) (H : List Bool) (t : Nat) (n : Int) (w : World) (h : Rd w b H t) :
    Calls Tryz.prog 139 #[.pointer (some ⟨b, 0, none⟩), .int .i64 n] w fun e w' => e = .returned (.tuple #[.int .u64 (takeV H n : Int), .bool (there H n)]) ∧ w' = w := by
  unfold takeV
  cases hn : there H n
  · exact peek_no b H t n w h hn
  · obtain ⟨k, rfl, h1, h2⟩ := there_yes hn
    exact peek_yes b H t k w h h1 h2

set_option maxRecDepth 100000 in
set_option maxHeartbeats 400000 in
theorem take_any (b : Nat) (H : List Bool) (t : Nat) (n : Int) (w : World) (h : Rd w b H t) (ht : t ≤ 4611686018427387904) :
    Calls Tryz.prog 122 #[.pointer (some ⟨b, 0, none⟩), .int .i64 n] w fun e w' => e = .returned (.tuple #[.int .u64 (takeV H n : Int), .bool (there H n)]) ∧ Rd w' b (takeL H n) (takeT H t n) ∧ w.grownBy w' (some b) := by
  have C := peek_any b H t n w h
  have D : there H n = true → Calls Tryz.prog 121 #[.pointer (some ⟨b, 0, none⟩), .int .i64 n] w fun e w' => e = .returned (.tuple #[]) ∧ Rd w' b (takeL H n) (takeT H t n) ∧ w.grownBy w' (some b) := by
    intro hn
    unfold takeL takeT
    rw [hn]
    obtain ⟨k, rfl, h1, h2⟩ := there_yes hn
    exact drop_any b H t k w h h2 ht
  have HN : there H n = false → takeL H n = H ∧ takeT H t n = t := by
    intro hn
    unfold takeL takeT
    rw [hn]
    exact ⟨rfl, rfl⟩
  generalize takeL H n = H' at *
  generalize takeT H t n = t' at *
  generalize takeV H n = v at *
  cases hn : there H n
  · obtain ⟨rfl, rfl⟩ := HN hn
    rw [hn] at C
    clear D HN hn
    go_enter Tryz.func122, Tryz.ntmps122
    go_wp2_with fail
    refine C.mono ?_
    rintro e w1 ⟨rfl, hw1⟩
    subst w1
    go_wp2
    go_ret2
    exact ⟨rfl, h, World.grownBy.refl _ _⟩
  · have D := D hn
    rw [hn] at C
    clear HN hn
    go_enter Tryz.func122, Tryz.ntmps122
    go_wp2_with fail
    refine C.mono ?_
    rintro e w1 ⟨rfl, hw1⟩
    subst w1
    go_wp2_with fail
    refine D.mono ?_
    rintro e w1 ⟨rfl, h1, h2⟩
    go_wp2
    go_ret2
    exact ⟨rfl, h1, h2⟩

set_option maxRecDepth 100000 in
set_option maxHeartbeats 400000 in
theorem ralign_any (b : Nat) (H : List Bool) (t : Nat) (w : World) (h : Rd w b H t) (ht : t ≤ 4611686018427387904) :
    Calls Tryz.prog 98 #[.pointer (some ⟨b, 0, none⟩)] w fun e w' => e = .returned (.tuple #[.int .i64 ((H.length % 8 : Nat) : Int), .int .u64 (num (H.take (H.length % 8)) : Int)]) ∧ Rd w' b (H.drop (H.length % 8)) (t + H.length % 8) ∧ w.grownBy w' (some b) := by
  have hc0 := three_cell0 h.hp
  have hc1 := three_cell1 h.hp
  have hle := h.le
  have h8 : H.length % 8 ≤ H.length := Nat.mod_le _ _
  have C := low_any (num H) (H.length % 8) w h.fits (by omega)
  rw [← num_take H _ h8] at C
  have D := drop_any b H t (H.length % 8) w h h8 ht
  have hm : (H.length : Int) % 8 = ((H.length % 8 : Nat) : Int) := by omega
  generalize H.length % 8 = k at *
  generalize num (H.take k) = v at *
  go_enter Tryz.func98, Tryz.ntmps98
  go_wp2_with fail
  refine C.mono ?_
  rintro e w1 ⟨rfl, hw1⟩
  subst w1
  go_wp2_with fail
  refine D.mono ?_
  rintro e w1 ⟨rfl, h1, h2⟩
  go_wp2
  go_ret2
  exact ⟨rfl, h1, h2⟩

/-- How many bytes are taken. -/
def feedN (H : List Bool) (n : Nat) : Nat := min n ((64 - H.length) / 8)
theorem feed_step {H : List Bool} {z : Int} (hz0 : 0 ≤ z) (hz1 : z ≤ 255) (hl : H.length ≤ 56) : bits .or .u64 (num H : Int) (IntKind.u64.wrap (z * 2 ^ H.length)) = (num (H ++ bN z.toNat 8) : Int) ∧ num (H ++ bN z.toNat 8) < 18446744073709551616 := by
  have h1 := num_lt H
  have h2 : z.toNat < 2 ^ 8 := by omega
  have h3 : num H + z.toNat * 2 ^ H.length < 2 ^ (H.length + 8) := by
    have h1' : (z.toNat + 1) * 2 ^ H.length ≤ 2 ^ 8 * 2 ^ H.length := Nat.mul_le_mul_right _ h2
    rw [← Nat.pow_add, Nat.add_comm 8, Nat.add_mul, Nat.one_mul] at h1'
    omega
  have h4 := pow_le_64 (k := H.length + 8) (by omega)
  have e1 : IntKind.u64.wrap (z * 2 ^ H.length) = ((z.toNat * 2 ^ H.length : Nat) : Int) := by
    rw [show z * 2 ^ H.length = ((z.toNat * 2 ^ H.length : Nat) : Int) by rw [Int.natCast_mul, Int.toNat_of_nonneg hz0]; simp]
    generalize z.toNat * 2 ^ H.length = p at *
    rw [IntWalk.u64_in _ ⟨by omega, by omega⟩]
  have e2 : num (H ++ bN z.toNat 8) = num H + z.toNat * 2 ^ H.length := by rw [num_append, num_bN_lt h2, Nat.mul_comm]
  rw [e1, or_pow h1 (by omega), e2]
  exact ⟨rfl, by omega⟩

set_option maxRecDepth 100000 in
set_option maxHeartbeats 2000000 in
theorem feed_any (b : Nat) (H : List Bool) (t : Nat) (pa : Option Addr) (p : List Int) (pc : Nat) (w : World) (h : Rd w b H t) (hs : Seg w pa p) (hcap : p.length ≤ pc) (hfar : ∀ g off, pa = some ⟨g, off, none⟩ → 0 < p.length → g ≠ b) (hl : p.length ≤ 4611686018427387904) :
    Calls Tryz.prog 130 #[.pointer (some ⟨b, 0, none⟩), .slice pa p.length pc] w fun e w' => e = .returned (.int .i64 (feedN H p.length : Int)) ∧ Rd w' b (H ++ bB (p.take (feedN H p.length))) t ∧ (Kp (fun k => k = b) w w') := by
  have C := space_any b H t w h
  have hle := h.le
  obtain ⟨m, hm⟩ : ∃ m, m = feedN H p.length := ⟨_, rfl⟩
  rw [← hm]
  have hmp : m ≤ p.length := by rw [hm]; unfold feedN; omega
  have hm8 : H.length + 8 * m ≤ 64 := by rw [hm]; unfold feedN; omega
  have hmn : m = min p.length ((64 - H.length) / 8) := hm
  have hsl : (m : Int) ≤ (pc : Int) := by omega
  clear hm
  generalize (64 - H.length) / 8 = sp at *
  by_cases hsp : sp < p.length
  · obtain rfl : sp = m := by omega
    clear hmn
    go_enter Tryz.func130, Tryz.ntmps130
    go_wp2_with fail
    refine C.mono ?_
    rintro e w1 ⟨rfl, hw1⟩
    subst w1
    go_wp2
    go_loopw [19] (fun ti wr => ∃ i : Nat, i ≤ sp ∧ ti = .int .i64 (i : Int) ∧ Rd wr b (H ++ bB (p.take i)) t ∧ Kp (fun k => k = b) w wr) (fun ti _ => sp - (intOf ti).toNat)
    case atStart => exact ⟨0, Nat.zero_le _, rfl, by simpa [bB] using h, Kp.refl _ _⟩
    case round =>
      obtain ⟨i, hi, rfl, hr, hk⟩ := hrel
      by_cases hlt : i < sp
      · have hlt2 : (i : Int) < (sp : Int) := by omega
        have hsr : Seg wr pa p := hs.kp hk (fun g off e hp => hfar g off e hp)
        obtain ⟨g, off, rfl, hcell⟩ := hsr.at_ i (by omega)
        have hz := hs.bd i
        have HT : Hid (bB (p.take (i + 1)) = bB (p.take i) ++ bN (p.getD i 0).toNat 8) := by
          show _ = _
          rw [List.take_succ_eq_append_getElem (by omega), bB_append, bB_one]
          simp [List.getD, show i < p.length by omega]
        have hlen : (H ++ bB (p.take i)).length = H.length + 8 * i := by rw [List.length_append, bB_len, List.length_take]; omega
        have hst := feed_step (H := H ++ bB (p.take i)) hz.1 hz.2 (by omega)
        have hp := hr.hp
        have hc0 := three_cell0 hr.hp
        have hc1 := three_cell1 hr.hp
        have hf := three_free hr.hp
        have hfit := hr.fits
        have hh56 : (H ++ bB (p.take i)).length ≤ 56 := by omega
        have HL : Hid ((H ++ bB (p.take i)).length = H.length + 8 * i) := hlen
        clear hlen hsr
        generalize p.getD i 0 = z at *
        have HN : Hid (H ++ bB (p.take (i + 1)) = (H ++ bB (p.take i)) ++ bN z.toNat 8) := by show _ = _; rw [HT.out, List.append_assoc]
        generalize H ++ bB (p.take i) = G at *
        obtain ⟨y, hy⟩ : ∃ y, y = num (G ++ bN z.toNat 8) := ⟨_, rfl⟩
        rw [← hy] at hst
        have HY : Hid (y = num (G ++ bN z.toNat 8)) := hy
        have hor := hst.1
        have hy64 := hst.2
        clear hy hst
        go_wp2
        go_region
        have hp1 : ((wr.setCell ⟨b, 0, none⟩ (.int .u64 (y : Int))).drew).heap[b]? = some (.cells #[.int .u64 (y : Int), .int .i64 (G.length : Int), .int .i64 (t : Int)] 165 (0, 0)) := three_set0 hp _
        have hk1 : Kp (fun j => j = b) wr ((wr.setCell ⟨b, 0, none⟩ (.int .u64 (y : Int))).drew) := (Kp.set (S := fun j => j = b) rfl _).drew
        generalize (wr.setCell ⟨b, 0, none⟩ (.int .u64 (y : Int))).drew = w2 at *
        have hd1 := three_cell1 hp1
        have hdf := three_free hp1
        clear hc0 hc1 hf hp hor
        go_wp2
        go_roundw
        case rel =>
          refine ⟨i + 1, by omega, by go_num, ⟨?_, ?_⟩, hk.trans (hk1.trans (Kp.set (S := fun j => j = b) rfl _) (fun _ _ e => e)) (fun _ _ e => e)⟩
          · rw [three_set1 hp1 _, HN.out, ← HY.out]
            rw [show (G ++ bN z.toNat 8).length = G.length + 8 by rw [List.length_append, bN_len]]
            rfl
          · rw [HN.out, List.length_append, bN_len]; omega
        case measure => simp [intOf]; omega
      · have HI : Hid (i = sp) := by show _ = _; omega
        have hge : (sp : Int) ≤ (i : Int) := by omega
        clear hlt hi
        go_wp2
        go_ret
        rw [HI.out] at hr
        exact ⟨rfl, hr, hk⟩
  · obtain rfl : m = p.length := by omega
    clear hmn
    go_enter Tryz.func130, Tryz.ntmps130
    go_wp2_with fail
    refine C.mono ?_
    rintro e w1 ⟨rfl, hw1⟩
    subst w1
    go_wp2
    go_loopw [19] (fun ti wr => ∃ i : Nat, i ≤ p.length ∧ ti = .int .i64 (i : Int) ∧ Rd wr b (H ++ bB (p.take i)) t ∧ Kp (fun k => k = b) w wr) (fun ti _ => p.length - (intOf ti).toNat)
    case atStart => exact ⟨0, Nat.zero_le _, rfl, by simpa [bB] using h, Kp.refl _ _⟩
    case round =>
      obtain ⟨i, hi, rfl, hr, hk⟩ := hrel
      by_cases hlt : i < p.length
      · have hlt2 : (i : Int) < (p.length : Int) := by omega
        have hsr : Seg wr pa p := hs.kp hk (fun g off e hp => hfar g off e hp)
        obtain ⟨g, off, rfl, hcell⟩ := hsr.at_ i (by omega)
        have hz := hs.bd i
        have HT : Hid (bB (p.take (i + 1)) = bB (p.take i) ++ bN (p.getD i 0).toNat 8) := by
          show _ = _
          rw [List.take_succ_eq_append_getElem (by omega), bB_append, bB_one]
          simp [List.getD, show i < p.length by omega]
        have hlen : (H ++ bB (p.take i)).length = H.length + 8 * i := by rw [List.length_append, bB_len, List.length_take]; omega
        have hst := feed_step (H := H ++ bB (p.take i)) hz.1 hz.2 (by omega)
        have hp := hr.hp
        have hc0 := three_cell0 hr.hp
        have hc1 := three_cell1 hr.hp
        have hf := three_free hr.hp
        have hfit := hr.fits
        have hh56 : (H ++ bB (p.take i)).length ≤ 56 := by omega
        have HL : Hid ((H ++ bB (p.take i)).length = H.length + 8 * i) := hlen
        clear hlen hsr
        generalize p.getD i 0 = z at *
        have HN : Hid (H ++ bB (p.take (i + 1)) = (H ++ bB (p.take i)) ++ bN z.toNat 8) := by show _ = _; rw [HT.out, List.append_assoc]
        generalize H ++ bB (p.take i) = G at *
        obtain ⟨y, hy⟩ : ∃ y, y = num (G ++ bN z.toNat 8) := ⟨_, rfl⟩
        rw [← hy] at hst
        have HY : Hid (y = num (G ++ bN z.toNat 8)) := hy
        have hor := hst.1
        have hy64 := hst.2
        clear hy hst
        go_wp2
        go_region
        have hp1 : ((wr.setCell ⟨b, 0, none⟩ (.int .u64 (y : Int))).drew).heap[b]? = some (.cells #[.int .u64 (y : Int), .int .i64 (G.length : Int), .int .i64 (t : Int)] 165 (0, 0)) := three_set0 hp _
        have hk1 : Kp (fun j => j = b) wr ((wr.setCell ⟨b, 0, none⟩ (.int .u64 (y : Int))).drew) := (Kp.set (S := fun j => j = b) rfl _).drew
        generalize (wr.setCell ⟨b, 0, none⟩ (.int .u64 (y : Int))).drew = w2 at *
        have hd1 := three_cell1 hp1
        have hdf := three_free hp1
        clear hc0 hc1 hf hp hor
        go_wp2
        go_roundw
        case rel =>
          refine ⟨i + 1, by omega, by go_num, ⟨?_, ?_⟩, hk.trans (hk1.trans (Kp.set (S := fun j => j = b) rfl _) (fun _ _ e => e)) (fun _ _ e => e)⟩
          · rw [three_set1 hp1 _, HN.out, ← HY.out]
            rw [show (G ++ bN z.toNat 8).length = G.length + 8 by rw [List.length_append, bN_len]]
            rfl
          · rw [HN.out, List.length_append, bN_len]; omega
        case measure => simp [intOf]; omega
      · have HI : Hid (i = p.length) := by show _ = _; omega
        have hge : (p.length : Int) ≤ (i : Int) := by omega
        clear hlt hi
        go_wp2
        go_ret
        rw [HI.out] at hr
        exact ⟨rfl, hr, hk⟩
end Go.Proofs.YtcifalelnfeggaaGreatDoor

namespace Go.Proofs.YtcifalelnfeggaaGreatDoor
open Go.RowKit
set_option linter.unusedVariables false

/-- The first bits as a code: the first the highest. -/
def vB (H : List Bool) (l : Nat) : Nat := num (H.take l).reverse
theorem vB_zero (H : List Bool) : vB H 0 = 0 := by simp [vB, num]
theorem take_succ_b {H : List Bool} {l : Nat} (h : l < H.length) : H.take (l + 1) = H.take l ++ [H.getD l false] := by
  rw [List.take_add_one, List.getElem?_eq_getElem h]
  simp [List.getD, h]
theorem vB_succ {H : List Bool} {l : Nat} (h : l < H.length) : vB H (l + 1) = 2 * vB H l + (H.getD l false).toNat := by
  unfold vB
  rw [take_succ_b h, List.reverse_append, List.reverse_cons, List.reverse_nil, List.nil_append, List.singleton_append]
  simp only [num]
  omega
theorem vB_lt (H : List Bool) (l : Nat) : vB H l < 2 ^ l := by
  unfold vB
  have h1 := num_lt (H.take l).reverse
  have h2 : 2 ^ (H.take l).reverse.length ≤ 2 ^ l := Nat.pow_le_pow_right (by decide) (by simp; omega)
  omega
/-- The bits begin with this symbol's code. -/
def Beg (zs : List Int) (H : List Bool) (s : Nat) : Prop := s < zs.length ∧ zs.getD s 0 ≠ 0 ∧ ln zs s ≤ H.length ∧ vB H (ln zs s) = cd zs s
/-- The bits are the beginning of some code, and not the whole of it. -/
def May (zs : List Int) (H : List Bool) : Prop := ∃ s, s < zs.length ∧ zs.getD s 0 ≠ 0 ∧ H.length < ln zs s ∧ cd zs s / 2 ^ (ln zs s - H.length) = vB H H.length
theorem cd_top {zs : List Int} (h : LOk zs) {s : Nat} (hs : s < zs.length) (h0 : zs.getD s 0 ≠ 0) : cF zs (ln zs s) ≤ cd zs s ∧ cd zs s < cF zs (ln zs s) + cC zs (ln zs s) := by
  have := rk_lt_c h hs h0
  unfold cd
  rw [if_neg h0]
  omega
/-- A prefix of a prefix. -/
theorem vB_div (H : List Bool) {a b : Nat} (h : a ≤ b) (hb : b ≤ H.length) : vB H b / 2 ^ (b - a) = vB H a := by
  obtain ⟨d, rfl⟩ : ∃ d, b = a + d := ⟨b - a, by omega⟩
  clear h
  induction d with
  | zero => simp
  | succ d ih =>
    have h1 := ih (by omega)
    have h2 := vB_succ (H := H) (l := a + d) (by omega)
    have h3 : (H.getD (a + d) false).toNat < 2 := Bool.toNat_lt _
    rw [show a + (d + 1) = a + d + 1 by omega, h2, show a + d + 1 - a = d + 1 by omega, Nat.pow_succ, Nat.mul_comm (2 ^ d) 2, ← Nat.div_div_eq_div_mul]
    rw [show (2 * vB H (a + d) + (H.getD (a + d) false).toNat) / 2 = vB H (a + d) by omega]
    rw [show a + d - a = d by omega] at h1
    exact h1
theorem beg_one {zs : List Int} {H : List Bool} (h : LOk zs) {s t : Nat} (hs : Beg zs H s) (ht : Beg zs H t) : s = t := by
  obtain ⟨a1, a2, a3, a4⟩ := hs
  obtain ⟨b1, b2, b3, b4⟩ := ht
  rcases Nat.le_total (ln zs s) (ln zs t) with c | c
  · exact cd_apart h a1 b1 a2 c (by rw [← b4, vB_div H c b3, a4])
  · exact (cd_apart h b1 a1 b2 c (by rw [← a4, vB_div H c a3, b4])).symm
/-- Passed by up to and with length l. -/
def Past (zs : List Int) (H : List Bool) (l : Nat) : Prop := ∀ j, j ≤ l → cF zs j + cC zs j ≤ vB H j
theorem past_none {zs : List Int} {H : List Bool} {l : Nat} (h : LOk zs) (hp : Past zs H l) {s : Nat} (hb : Beg zs H s) : l < ln zs s := by
  rcases Nat.lt_or_ge l (ln zs s) with c | c
  · exact c
  · exfalso
    obtain ⟨a1, a2, a3, a4⟩ := hb
    have := hp (ln zs s) c
    have := (cd_top h a1 a2).2
    omega
theorem used_le {zs : List Int} (h : LOk zs) {s l : Nat} (hs : s < zs.length) (h0 : zs.getD s 0 ≠ 0) (ht : cS zs (l + 1) = tot zs) : ln zs s ≤ l := by
  rcases Nat.lt_or_ge l (ln zs s) with c | c
  · exfalso
    have h1 := cS_mono zs (a := l + 1) (b := ln zs s) c
    have h2 : cS zs (ln zs s + 1) ≤ cS zs 16 := cS_mono zs (by have := (h.ln s).2; omega)
    rw [cS_succ] at h2
    have h3 := rk_lt_c h hs h0
    unfold tot at ht
    omega
  · exact c
/-- All codes have been passed by: there is none. -/
theorem end_none {zs : List Int} {H : List Bool} {l : Nat} (h : LOk zs) (hl : l ≤ H.length) (hp : Past zs H l) (ht : cS zs (l + 1) = tot zs) : (∀ s, ¬ Beg zs H s) ∧ ¬ May zs H := by
  refine ⟨fun s hb => ?_, fun ⟨s, h1, h2, h3, _⟩ => ?_⟩
  · have h1 := past_none h hp hb
    have h2 := used_le h hb.1 hb.2.1 ht
    omega
  · have := used_le h h1 h2 ht
    omega
/-- All bits have been looked at, and codes are left: one begins so. -/
theorem end_may {zs : List Int} {H : List Bool} (h : LOk zs) (hw : spc zs = 32768 ∨ tot zs = 0 ∨ (tot zs = 1 ∧ cC zs 1 = 1)) (hl : H.length ≤ 15) (hp : Past zs H H.length) (ht : cS zs (H.length + 1) ≠ tot zs) : (∀ s, ¬ Beg zs H s) ∧ May zs H := by
  refine ⟨fun s hb => ?_, ?_⟩
  · have := past_none h hp hb
    have := hb.2.2.1
    omega
  · have hn15 : H.length < 15 := by
      rcases Nat.lt_or_ge H.length 15 with c | c
      · exact c
      · exfalso
        apply ht
        rw [show H.length = 15 by omega]
        rfl
    rcases hw with hw | hw | ⟨hw, h1⟩
    · have hv := vB_lt H H.length
      have e15 : (2 : Nat) ^ H.length * 2 ^ (15 - H.length) = 32768 := by
        rw [← Nat.pow_add, show H.length + (15 - H.length) = 15 by omega]
      have hlt : vB H H.length * 2 ^ (15 - H.length) < spc zs := by
        rw [hw, ← e15]
        exact Nat.mul_lt_mul_of_pos_right hv (Nat.two_pow_pos _)
      obtain ⟨s, hs, s0, hlo, hhi⟩ := cover h hlt
      have hgt : H.length < ln zs s := by
        rcases Nat.lt_or_ge H.length (ln zs s) with c | c
        · exact c
        · exfalso
          have h1 := hi_le h hs s0
          have h2 := cP_mono zs (a := ln zs s + 1) (b := H.length + 1) (by omega)
          have h3 : cP zs (H.length + 1) = (cF zs H.length + cC zs H.length) * 2 ^ (15 - H.length) := by
            rw [cP_succ, Nat.add_mul, cF_cP zs _ hl]
          have h4 := Nat.mul_le_mul_right (2 ^ (15 - H.length)) (hp H.length (Nat.le_refl _))
          omega
      refine ⟨s, hs, s0, hgt, ?_⟩
      have hsl := (h.ln s).2
      have e2 : vB H H.length * 2 ^ (15 - H.length) = vB H H.length * 2 ^ (ln zs s - H.length) * 2 ^ (15 - ln zs s) := by
        rw [Nat.mul_assoc, ← Nat.pow_add, show ln zs s - H.length + (15 - ln zs s) = 15 - H.length by omega]
      rw [e2] at hlo hhi
      have k1 := Nat.le_of_mul_le_mul_right hlo (Nat.two_pow_pos _)
      have k2 := Nat.lt_of_mul_lt_mul_right hhi
      have k3 : cd zs s = vB H H.length * 2 ^ (ln zs s - H.length) := by omega
      rw [k3, Nat.mul_div_cancel _ (Nat.two_pow_pos _)]
    · exfalso
      apply ht
      have h1 : cS zs (H.length + 1) ≤ cS zs 16 := cS_mono zs (by omega)
      unfold tot at hw ⊢
      omega
    · have hn0 : H.length = 0 := by
        rcases Nat.eq_zero_or_pos H.length with c | c
        · exact c
        · exfalso
          apply ht
          have h2 : cS zs 2 ≤ cS zs (H.length + 1) := cS_mono zs (by omega)
          have h3 : cS zs (H.length + 1) ≤ cS zs 16 := cS_mono zs (by omega)
          have h4 : cS zs 2 = cC zs 1 := by rw [cS_succ, cS_succ, cC_zero]; simp [cS]
          unfold tot at hw ⊢
          omega
      rw [cC_pos zs (by decide)] at h1
      obtain ⟨s, hs, e, er⟩ := rk_has zs ((1 : Nat) : Int) 0 (by omega)
      have hln : ln zs s = 1 := by unfold ln; rw [e]; rfl
      have s0 : zs.getD s 0 ≠ 0 := by rw [e]; decide
      refine ⟨s, hs, s0, by omega, ?_⟩
      have hcd : cd zs s = 0 := by
        unfold cd
        rw [if_neg s0, hln, er, cF_succ, cC_zero]
        rfl
      rw [hcd, hn0, vB_zero]
      simp
/-- What looking a code up tells. -/
def FindQ (zs : List Int) (H : List Bool) (sy le er : Int) : Prop :=
  (∃ s, Beg zs H s ∧ sy = (s : Int) ∧ le = (ln zs s : Int) ∧ er = 0) ∨ ((∀ s, ¬ Beg zs H s) ∧ May zs H ∧ sy = 0 ∧ le = 0 ∧ er = 0) ∨ ((∀ s, ¬ Beg zs H s) ∧ ¬ May zs H ∧ sy = 0 ∧ le = 0 ∧ er = 54)
end Go.Proofs.YtcifalelnfeggaaGreatDoor
