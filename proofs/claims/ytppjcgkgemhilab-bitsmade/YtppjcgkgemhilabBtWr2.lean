import Derived.Test.YtppjcgkgemhilabBtWr
namespace Go.Proofs.Ytppjcgkgemhilab
open Go.RowKit
set_option linter.unusedVariables false

theorem turned_no (b : Nat) (x : Nat) (n : Int) (w : World) (hx : x < 18446744073709551616) (hn0 : -9223372036854775808 ≤ n) (hn1 : n ≤ 9223372036854775807) (he : errW x n ≠ 0) :
    Calls Try.prog 9 #[.pointer (some ⟨b, 0, none⟩), .int .u64 (x : Int), .int .i64 n] w fun e w' => e = .returned (.int .i64 (errW x n)) ∧ w' = w := by
  rcases errW_cases x n with ⟨h1, h2⟩ | ⟨k, rfl, hk, ⟨h1, h2⟩ | ⟨h1, h2⟩⟩
  · have D := refuse_count x n w h2
    rw [h1]
    go_enter Try.func9, Try.ntmps9
    go_wp2_with fail
    refine D.mono ?_
    rintro e w1 ⟨rfl, hw1⟩
    subst w1
    go_wp2
    go_ret
    exact ⟨rfl, rfl⟩
  · exact absurd h1 he
  · have D := refuse_value x k w h2 hk hx
    rw [h1]
    clear h2
    go_enter Try.func9, Try.ntmps9
    go_wp2_with fail
    refine D.mono ?_
    rintro e w1 ⟨rfl, hw1⟩
    subst w1
    go_wp2
    go_ret
    exact ⟨rfl, rfl⟩

theorem turned_any (b B : Nat) (v : Value) (L : List Bool) (x : Nat) (n : Int) (w : World) (h : WrL w b B v L) (hx : x < 18446744073709551616) (hn0 : -9223372036854775808 ≤ n) (hn1 : n ≤ 9223372036854775807) (hl : L.length ≤ 1125899906842560) :
    Calls Try.prog 9 #[.pointer (some ⟨b, 0, none⟩), .int .u64 (x : Int), .int .i64 n] w fun e w' => e = .returned (.int .i64 (errW x n)) ∧ ∃ v', WrL w' b B v' (turnL L x n) ∧ Kp (WS b v) w w' ∧ Fresh w v v' := by
  by_cases he : errW x n = 0
  · rcases errW_cases x n with ⟨h1, h2⟩ | ⟨k, rfl, hk, ⟨h1, h2⟩ | ⟨h1, h2⟩⟩
    · omega
    · refine (turned_ok b B v L x k w h h2 hk hl).mono ?_
      rintro e w' ⟨rfl, v', h1', h2', h3'⟩
      unfold turnL
      rw [he, if_pos rfl]
      exact ⟨rfl, v', by simpa using h1', h2', h3'⟩
    · omega
  · refine (turned_no b x n w hx hn0 hn1 he).mono ?_
    rintro e w' ⟨rfl, rfl⟩
    unfold turnL
    rw [if_neg he]
    exact ⟨rfl, v, h, Kp.refl _ _, fun k e => .inl e⟩

theorem align_any (b B : Nat) (v : Value) (L : List Bool) (w : World) (h : WrL w b B v L) (hl : L.length ≤ 1125899906842560) :
    Calls Try.prog 10 #[.pointer (some ⟨b, 0, none⟩)] w fun e w' => e = .returned (.int .i64 (padN L.length)) ∧ ∃ v', WrL w' b B v' (alignL L) ∧ Kp (WS b v) w w' ∧ Fresh w v v' := by
  obtain ⟨a, cap, ws, r, c, rfl, h, hc, hL⟩ := h
  have hlen : L.length = 8 * ws.length + c := by rw [hL, List.length_append, bB_len, bN_len]
  have hl2 : ws.length ≤ 140737488355320 := by omega
  have hpad : padN L.length = (8 - c) % 8 := by unfold padN; omega
  have hc2 := three_cell2 h.hp
  by_cases h0 : c = 0
  · have hp0 : padN L.length = 0 := by omega
    have HA : Hid (alignL L = L) := by show _ = _; unfold alignL; rw [hp0]; simp
    rw [hp0]
    have HW : Hid (WrL w b B (.slice a ws.length cap) L) := ⟨a, cap, ws, r, c, rfl, h, hc, hL⟩
    subst h0
    clear hpad hp0 hlen hL hl
    go_enter Try.func10, Try.ntmps10
    go_wp2
    go_ret
    exact ⟨rfl, _, by rw [HA.out]; exact HW.out, Kp.refl _ _, fun k e => .inl e⟩
  · have hp0 : padN L.length = 8 - c := by omega
    rw [hp0]
    have HA : Hid (alignL L = bB ws ++ bN r c ++ bN 0 (8 - c)) := by show _ = _; unfold alignL; rw [hp0, bN_zero, hL]
    have C := lay_any b B a cap ws r c 0 (8 - c) w h hc (Nat.two_pow_pos _) (by omega) hl2
    have hcn : ((8 - c : Nat) : Int) = 8 - (c : Int) := by omega
    rw [hcn] at C ⊢
    have hc0 : ((c : Int) == 0) = false := by simp [h0]
    clear hpad hp0 hlen hL hl hcn
    go_enter Try.func10, Try.ntmps10
    go_wp2_with fail
    refine C.mono ?_
    rintro e w1 ⟨rfl, a', cap', ws', r', c', h', hc', hb', hk', hf'⟩
    go_wp2
    go_ret
    exact ⟨rfl, _, ⟨a', cap', ws', r', c', rfl, h', hc', by rw [HA.out]; exact hb'.symm⟩, hk', hf'⟩

theorem padN_add (n : Nat) : (n + padN n) % 8 = 0 := by unfold padN; omega
theorem alignL_len (L : List Bool) : (alignL L).length = L.length + padN L.length := by simp [alignL]

set_option maxHeartbeats 1000000 in
theorem whole_any (b B : Nat) (v : Value) (L : List Bool) (pa : Option Addr) (p : List Int) (pc : Nat) (w : World) (h : WrL w b B v L) (hs : Seg w pa p) (hnil : pa = none → pc = 0) (hfar : ∀ g off, pa = some ⟨g, off, none⟩ → 0 < p.length → ¬ WS b v g)
    (hl : L.length + 8 * p.length ≤ 1125899906842560) :
    Calls Try.prog 4 #[.pointer (some ⟨b, 0, none⟩), .slice pa p.length pc] w fun e w' => e = .returned (.tuple #[]) ∧ ∃ v', WrL w' b B v' (alignL L ++ bB p) ∧ Kp (WS b v) w w' ∧ Fresh w v v' := by
  obtain ⟨i0, hi, hz0, hz1, hz2⟩ := info_parts info_u8w
  have C := align_any b B v L w h (by omega)
  go_enter Try.func4, Try.ntmps4
  go_wp2_with fail
  refine C.mono ?_
  rintro e w1 ⟨rfl, v1, ⟨a, cap, ws, r, c, rfl, h1, hc1, hL1⟩, hk1, hf1⟩
  have hlen := alignL_len L
  have hpad := padN_add L.length
  rw [hL1, List.length_append, bB_len, bN_len] at hlen
  have hc0 : c = 0 := by omega
  subst hc0
  have hr0 : r = 0 := by have := h1.lt; simp at this; exact this
  subst hr0
  have hp8 : padN L.length < 8 := by unfold padN; omega
  have hs1 : Seg w1 pa p := hs.kp hk1 hfar
  have hd0 := three_cell0 h1.hp
  have hdf := three_free h1.hp
  have hown1 := h1.own
  have hbB := h1.bB
  clear hpad
  go_wp2_with (at_builtin; refine wpList_appS rfl (.tmp 13) (.tmp 14) 23 rfl B 5 i0 (.int .u8 0) 1 Try.underlying23 hi hz0 hz1 hz2 rfl hown1 hs1 hnil rfl rfl (by omega) (by omega) hbB ?_; intro b2 c2 w2 hown2 hg2 hfr2 hnl2; have hx0 := (hg2.cell_far ⟨b, 0, none⟩ h1.b_lt (Ne.symm h1.ne)).trans hd0; have hxf := (hg2.frozen_far ⟨b, 0, none⟩ h1.b_lt (Ne.symm h1.ne)).trans (hdf 0))
  go_end0
  have hp2 : w2.heap[b]? = some (.cells #[.slice a ws.length cap, .int .u64 ((0 : Nat) : Int), .int .i64 ((0 : Nat) : Int)] 43 (0, 0)) := by
    rw [hg2.block b h1.b_lt (Ne.symm h1.ne)]; exact h1.hp
  have hne2 : (Value.slice b2 (ws.length + p.length) c2).ownBlock ≠ some b := by
    intro e
    rcases hfr2 b e with e | e
    · exact h1.ne e
    · have := h1.b_lt; omega
  have hkb : Kp (fun j => j = b) w2 (w2.setCell ⟨b, 0, none⟩ (.slice b2 (ws.length + p.length) c2)) := Kp.set (S := fun j => j = b) rfl _
  have hk2 : Kp (WS b (.slice a ws.length cap)) w1 w2 := Kp.grown hg2 (fun i e => .inr e)
  refine ⟨rfl, .slice b2 (ws ++ p).length c2, ⟨b2, c2, ws ++ p, 0, 0, rfl, ⟨?_, ?_, ?_, ?_, ?_, ?_, by decide⟩, by decide, ?_⟩, ?_, ?_⟩
  · rw [List.length_append]; exact three_set0 hp2 _
  · rw [List.length_append, List.map_append]
    exact own_kp hown2 hkb (fun j e1 e2 => hne2 (e2 ▸ e1))
  · intro e
    rw [List.append_eq_nil_iff] at e
    obtain ⟨rfl, rfl⟩ := e
    have ha := h1.nil rfl
    subst ha
    have hcp : cap = 0 := by
      rcases hown1.2 with ⟨e0, _⟩ | ⟨g, cp, cur, e0, _⟩
      · simp at e0; exact e0
      · simp at e0
    subst hcp
    have := hnl2.2 ⟨rfl, rfl⟩
    simp at this
    exact this.1
  · intro z hz
    rw [List.mem_append] at hz
    rcases hz with hz | hz
    · exact h1.bd z hz
    · exact hs.mem z hz
  · rw [List.length_append]; exact hne2
  · exact Nat.le_trans hbB (Nat.le_trans hk2.size hkb.size)
  · rw [hL1, bB_append]; simp [bN]
  · exact (hk1.trans hk2 (fun j hj e => ws_back hf1 hj e)).trans hkb (fun j _ e => .inl e)
  · rw [List.length_append]; exact hf1.trans hfr2 hk1.size
end Go.Proofs.Ytppjcgkgemhilab
