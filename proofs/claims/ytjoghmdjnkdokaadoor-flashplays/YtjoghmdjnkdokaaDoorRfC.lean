
import Derived.Test.YtjoghmdjnkdokaaDoorRfB
namespace Go.Proofs.YtjoghmdjnkdokaaDoor
open Go.RowKit Go.Shelf
set_option linter.unusedVariables false
set_option linter.unusedSimpArgs false

/-! The document's flash: Plan, done. -/
theorem cl21_own {w : World} {N : Nat} {a : Option Addr} {c n : Nat} {zs : List Int} (h : w.ownsRow N 5 1 (.slice a n c) n (zs.map (Value.int .u8))) (hz : ∀ z ∈ zs, 0 ≤ z ∧ z ≤ 255) : Cl21 w a zs c N := by
  obtain ⟨-, a', cap', hv, hsg, hx, hcp, -⟩ := own_seg (M := 255) h (by decide) hz
  simp only [Value.slice.injEq] at hv
  obtain ⟨rfl, -, rfl⟩ := hv
  refine ⟨hsg, ?_, ?_, by have := h.1; simp at this; omega⟩
  · cases a with
    | none => exact .inl rfl
    | some x =>
      obtain ⟨h1, h2, h3, h4⟩ := hx x rfl
      refine .inr ⟨x.block, ?_, h3, h4⟩
      cases x; simp at h1 h2; simp [h1, h2]
  · intro h0
    subst h0
    rcases h.2 with ⟨h1, h2⟩ | ⟨g, cp, cur, hv, _⟩
    · simp at h1; exact h1.2
    · simp at hv
section
variable {w w' : World} {b : Nat} {g c : Nat → Nat} {A : Nat → List Pd21} {tn : List Int} {ta : Option Addr} {tc : Nat} {la : Option Addr} {lc : Nat} {V V' : Nat → Prop} {S S' : Fs21}
/-- Bytes of the call's own may be spoken of. -/
theorem Rf21.new (h : Rf21 w b g c A tn ta tc la lc V S) (hb : Below w.heap.size w w') (Q : Nat → Prop) (hQ : ∀ k, Q k → w.heap.size ≤ k ∧ k < w'.heap.size) : Rf21 w' b g c A tn ta tc la lc (fun k => V k ∨ Q k) S := by
  have h1 := h.bl
  refine (h.old hb).wid (fun _ e => .inl e) ?_ ?_ ?_ ?_
  · rintro (e | e)
    · exact h.vb e
    · have := hQ _ e; omega
  · rintro x hx (e | e)
    · exact h.vg x hx e
    · have := hQ _ e; have := h.gl hx; omega
  · rintro k hk (e | e)
    · exact h.vl k hk e
    · have := hQ _ e; have := (h.lo hk).1; omega
  · rintro k (e | e)
    · exact Nat.lt_of_lt_of_le (h.vs k e) hb.size
    · exact (hQ k e).2
end
set_option maxRecDepth 100000 in
set_option maxHeartbeats 4000000 in
theorem rpln21 {w : World} {b : Nat} {G : Nat → Prop} {S : Fs21} (h : Rl21d w b G S) (hO : Ok21 S) (n : Int) (a : Option Addr) (L : List Int) (l cap : Nat) (hs : Seg w a L) (hl : Hid (L.length = l)) (hnil : a = none → cap = 0) (hb48 : l ≤ 140737488351232) :
    Calls Tryd.prog 35 #[.pointer (some ⟨b, 0, none⟩), .int .i64 n, .slice a l cap] w fun e w' => e = .returned (.int .i64 (cuE21 S n l)) ∧ Rn21 w w' b G (cuS21 S n L) := by
  have HL : Hid (Rl21d w b G S) := h
  obtain ⟨g, c, A, tn, ta, tc, la, lc, V, h1, h2, h3, h4, h5, h6⟩ := h
  have c7 := h1.cel (i := 7) rfl
  have c0 := h1.cel (i := 0) rfl
  have HR : Hid (Rf21 w b g c A tn ta tc la lc V S ∧ G b ∧ (∀ x, x < 3 → G (g x)) ∧ (∀ k, (Value.slice la S.lg.length lc).ownBlock = some k → G k) ∧ (∀ k, V k → G k) ∧ (∀ k, G k → k < w.heap.size)) := ⟨h1, h2, h3, h4, h5, h6⟩
  clear h1 h2 h3 h4 h5 h6
  have hS : Hid (cuS21 S n L = if S.on = false then S else if n < 0 ∨ S.pg < l then S else { S with lf := n, tn := if 0 < n then L else [] }) := by show _ = _; unfold cuS21; rw [hl.out]
  have hE : Hid (cuE21 S n l = if S.on = false then 213 else if n < 0 ∨ S.pg < l then 1 else 0) := rfl
  rw [hS.out, hE.out]
  clear hS hE
  by_cases hon : S.on = false
  · rw [if_pos hon, if_pos hon]
    rw [hon] at c7
    go_enter Tryd.func35, Tryd.ntmps35
    go_wp2_with fail
    go_ret
    exact ⟨rfl, HL.out.stay (Below.refl _ _)⟩
  · rw [if_neg hon, if_neg hon]
    have hon' : S.on = true := by simpa using hon
    rw [hon'] at c7
    by_cases hn : n < 0
    · rw [if_pos (.inl hn), if_pos (.inl hn)]
      go_enter Tryd.func35, Tryd.ntmps35
      go_wp2_with fail
      go_ret
      exact ⟨rfl, HL.out.stay (Below.refl _ _)⟩
    · by_cases hp : S.pg < l
      · rw [if_pos (.inr hp), if_pos (.inr hp)]
        have hpi : (S.pg : Int) < (l : Int) := by omega
        go_enter Tryd.func35, Tryd.ntmps35
        go_wp2_with fail
        go_ret
        exact ⟨rfl, HL.out.stay (Below.refl _ _)⟩
      · rw [if_neg (by omega), if_neg (by omega)]
        have hpi : ¬ (S.pg : Int) < (l : Int) := by omega
        obtain ⟨i0, hi, hz0, hz1, hz2⟩ := info_parts info_y21
        have hm0 : (w.alloc (.cells #[] 5)).ownsRow w.heap.size 5 1 (.slice (some ⟨w.heap.size, 0, none⟩) 0 0) 0 [] := World.ownsRow_made w #[] 0 (Nat.le_refl _) (by decide) rfl
        have hb0 : Below w.heap.size w (w.alloc (.cells #[] 5)) := (Below.refl _ _).alloc (Nat.le_refl _) _
        have hs1 := hs.alloc (.cells #[] 5)
        have hmem := hs.mem
        have HLN := hl.out
        subst HLN
        have HRE : Hid (∀ (w1 : World) (a1 : Option Addr) (c1 : Nat), Below w.heap.size w w1 → Cl21 w1 a1 L c1 w.heap.size → w1.cell? ⟨b, 8, none⟩ = some (.int .i64 S.lf) ∧ w1.cell? ⟨b, 9, none⟩ = some (.slice ta tn.length tc) ∧ (∀ i, w1.frozen? ⟨b, i, none⟩ = false) ∧ Rn21 w ((w1.setCell ⟨b, 8, none⟩ (.int .i64 n)).setCell ⟨b, 9, none⟩ (.slice a1 L.length c1)) b G { S with lf := n, tn := if 0 < n then L else [] }) := fun w1 a1 c1 hb hc => by
          obtain ⟨h1, h2, h3, h4, h5, h6⟩ := HR.out
          have q := h1.old hb
          have hnew := h1.new hb (fun k => a1 = some ⟨k, 0, none⟩) (fun k e => by
            rcases hc.2.1 with e2 | ⟨k', e2, e3, e4⟩
            · rw [e2] at e; cases e
            · rw [e2] at e; cases e; exact ⟨e3, e4⟩)
          refine ⟨q.cel (i := 8) rfl, q.cel (i := 9) rfl, q.fr, ?_⟩
          have hk : Kp (fun k => k = b) w1 ((w1.setCell ⟨b, 8, none⟩ (.int .i64 n)).setCell ⟨b, 9, none⟩ (.slice a1 L.length c1)) := (Kp.set (S := fun k => k = b) rfl _).trans (Kp.set (S := fun k => k = b) rfl _) (fun _ _ e => e)
          have hre := hnew.re (S' := { S with lf := n, tn := if 0 < n then L else [] }) hk rfl rfl rfl rfl (tn' := L) (ta' := a1) (tc' := c1) ⟨fun e => by show L = if 0 < n then L else []; rw [if_pos]; have : n ≠ 0 := e; omega, hc.1, by rcases hc.2.1 with e2 | ⟨k', e2, e3, e4⟩; (exact .inl e2); (exact .inr ⟨k', e2, .inr e2⟩), hc.2.2.1, hc.2.2.2⟩ (by simp [World.setCell, Array.getElem?_modify, hnew.hp])
          refine ⟨fun k => G k ∨ a1 = some ⟨k, 0, none⟩, ⟨g, c, A, L, a1, c1, la, lc, _, hre, .inl h2, fun x hx => .inl (h3 x hx), fun k e => .inl (h4 k e), fun k e => by rcases e with e | e; (exact .inl (h5 k e)); (exact .inr e), fun k e => ?_⟩, fun k e => ?_, ?_⟩
          · rcases e with e | e
            · exact Nat.lt_of_lt_of_le (h6 k e) (Nat.le_trans hb.size hk.size)
            · rcases hc.2.1 with e2 | ⟨k', e2, e3, e4⟩
              · rw [e2] at e; cases e
              · rw [e2] at e; cases e; exact Nat.lt_of_lt_of_le e4 hk.size
          · rcases e with e | e
            · exact .inl e
            · rcases hc.2.1 with e2 | ⟨k', e2, e3, e4⟩
              · rw [e2] at e; cases e
              · rw [e2] at e; cases e; exact .inr e3
          · exact (Kp.of_below hb).trans (hk.mono (S' := G) (fun i _ e => by subst e; exact h2)) (fun _ _ e => e)
        clear hs hl HL
        generalize ({ S with lf := n, tn := if 0 < n then L else [] } : Fs21) = S1 at HRE ⊢
        go_enter Tryd.func35, Tryd.ntmps35
        go_wp2_with (first
          | (at_builtin; refine wpList_appS rfl (.tmp 25) (.tmp 26) 22 rfl w.heap.size 5 i0 (.int .u8 0) 1 Tryd.underlying22 hi hz0 hz1 hz2 rfl hm0 hs1 hnil rfl rfl (by omega) (by omega) (by have := hb0.size; omega) ?_; intro a1 c1 w1 hown1 hg1 hf1 hn1; have hb1 := hb0.trans (below_own hm0 hg1 (by have := hb0.size; omega)); rw [Nat.zero_add, List.nil_append] at hown1; obtain ⟨e8, e9, ef, HRN⟩ := HRE.out w1 a1 c1 hb1 (cl21_own hown1 hmem); have HRN' : Hid (Rn21 w ((w1.setCell ⟨b, 8, none⟩ (.int .i64 n)).setCell ⟨b, 9, none⟩ (.slice a1 L.length c1)) b G S1) := HRN; have f8 := ef 8; have f9 := ef 9; clear hf1 hg1 hn1 hown1 HRN ef hb1 hm0 hs1 hb0))
        go_ret
        exact ⟨rfl, HRN'.out⟩
end Go.Proofs.YtjoghmdjnkdokaaDoor
