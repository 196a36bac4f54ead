
import Derived.Test.YtjoghmdjnkdokaaDoorFlM
namespace Go.Proofs.YtjoghmdjnkdokaaDoor
open Go.RowKit Go.Shelf
set_option linter.unusedVariables false
set_option linter.unusedSimpArgs false

/-! The landed flash: Cut, Log. -/
section
variable {w w' : World} {b m c tc lc : Nat} {f : Int → Int → Option Value} {ta la : Option Addr} {V V' : Nat → Prop} {S S' : Fs21} {F : Nat → Prop}
theorem Fi21.wid (h : Fi21 w b m c f ta tc la lc V S) (hV : ∀ k, V k → V' k) (vb : ¬ V' b) (vm : ¬ V' m) (vl : ∀ k, (Value.slice la S.lg.length lc).ownBlock = some k → ¬ V' k) (vs : ∀ k, V' k → k < w.heap.size) : Fi21 w b m c f ta tc la lc V' S := by
  refine ⟨h.hp, h.hm, fun x y => ?_, h.ht.kp (fun _ _ => rfl) hV, h.hl, h.hc, vb, vm, vl, vs⟩
  rcases h.hf x y with q | ⟨s, v, q1, q2, q3⟩
  · exact .inl q
  · exact .inr ⟨s, v, q1, q2, q3.kp (fun _ _ => rfl) hV⟩
def cuE21 (S : Fs21) (n : Int) (l : Nat) : Int := if S.on = false then 213 else if n < 0 ∨ S.pg < l then 1 else 0
def cuS21 (S : Fs21) (n : Int) (L : List Int) : Fs21 := if S.on = false then S else if n < 0 ∨ S.pg < L.length then S else { S with lf := n, tn := if 0 < n then L else [] }
set_option maxRecDepth 100000 in
set_option maxHeartbeats 4000000 in
theorem pcut21 (hF : Fl21 w b F S) (hO : Ok21 S) (n : Int) (a : Option Addr) (L : List Int) (l cap : Nat) (hs : Seg w a L) (hl : Hid (L.length = l)) (hnil : a = none → cap = 0) :
    Calls Tryd.prog 21 #[.pointer (some ⟨b, 0, none⟩), .int .i64 n, .slice a l cap] w fun e w' => e = .returned (.int .i64 (cuE21 S n l)) ∧ Fn21 w w' b F (cuS21 S n L) := by
  obtain ⟨c0, c1, c2, c3, c4, cf⟩ := hF.cells
  have HST := pstop21 b S.pg S.on w c0 hO.pg.1 c3
  have HFl : Hid (Fl21 w b F S) := hF
  have HE : Hid (cuE21 S n l = if S.on = false then 213 else if n < 0 ∨ S.pg < l then 1 else 0) := rfl
  have HS : Hid (cuS21 S n L = if S.on = false then S else if n < 0 ∨ S.pg < l then S else { S with lf := n, tn := if 0 < n then L else [] }) := by show cuS21 S n L = _; rw [← hl.out]; rfl
  rw [HE.out, HS.out]
  have f6 := cf 6
  have f7 := cf 7
  by_cases hon : S.on = false
  · rw [hon] at HST
    rw [if_pos hon, if_pos hon]
    clear hF cf c1 c2 c3 c4
    go_enter Tryd.func21, Tryd.ntmps21
    go_wp2_with fail
    refine HST.mono ?_
    rintro e w1 ⟨rfl, hw⟩
    subst w1
    go_wp2_with fail
    go_ret
    exact ⟨rfl, HFl.out.stay (Below.refl _ _)⟩
  · have hon' : S.on = true := by simpa using hon
    rw [hon'] at HST
    rw [if_neg hon, if_neg hon]
    by_cases h1 : n < 0
    · rw [if_pos (show n < 0 ∨ S.pg < l from .inl h1), if_pos (show n < 0 ∨ S.pg < l from .inl h1)]
      clear hF cf c1 c2 c3 c4
      go_enter Tryd.func21, Tryd.ntmps21
      go_wp2_with fail
      refine HST.mono ?_
      rintro e w1 ⟨rfl, hw⟩
      subst w1
      go_wp2_with fail
      go_ret
      exact ⟨rfl, HFl.out.stay (Below.refl _ _)⟩
    · by_cases h2 : S.pg < l
      · rw [if_pos (show n < 0 ∨ S.pg < l from .inr h2), if_pos (show n < 0 ∨ S.pg < l from .inr h2)]
        have h2' : (S.pg : Int) < (l : Int) := by omega
        clear hF cf c1 c2 c3 c4
        go_enter Tryd.func21, Tryd.ntmps21
        go_wp2_with fail
        refine HST.mono ?_
        rintro e w1 ⟨rfl, hw⟩
        subst w1
        go_wp2_with fail
        go_ret
        exact ⟨rfl, HFl.out.stay (Below.refl _ _)⟩
      · rw [if_neg (show ¬ (n < 0 ∨ S.pg < l) by omega), if_neg (show ¬ (n < 0 ∨ S.pg < l) by omega)]
        have h2' : ¬ (S.pg : Int) < (l : Int) := by omega
        obtain ⟨m, c, f, ta, tc, la, lc, V, hI, hFb, hFm, hFl, hFV, hFs⟩ := hF
        have c6 := hI.cel (i := 6) rfl
        have c7 := hI.cel (i := 7) rfl
        obtain ⟨w1, hw1⟩ : ∃ w1, w1 = (w.setCell ⟨b, 6, none⟩ (.int .i64 0)).setCell ⟨b, 7, none⟩ (.slice none 0 0) := ⟨_, rfl⟩
        have HW1 : Hid ((w.setCell ⟨b, 6, none⟩ (.int .i64 0)).setCell ⟨b, 7, none⟩ (.slice none 0 0) = w1) := hw1.symm
        have k1 : Kp (fun k => k = b) w w1 := by rw [hw1]; exact (Kp.set (S := fun k => k = b) rfl _).trans (Kp.set (S := fun k => k = b) rfl _) (fun _ _ e => e)
        have hI1 : Fi21 w1 b m c f none 0 la lc V { S with lf := 0, tn := [] } := hI.re (S' := { S with lf := 0, tn := [] }) k1 rfl rfl ⟨SegK.nil (by decide) _ _, .inl rfl, fun _ => rfl, by simp⟩ (by rw [hw1]; simp [World.setCell, Array.getElem?_modify, hI.hp])
        have hsz : w1.heap.size = w.heap.size := by rw [hw1]; simp
        by_cases h3 : 0 < n
        · rw [if_pos h3]
          have hsb : ∀ k off, a = some ⟨k, off, none⟩ → 0 < L.length → k ≠ b := fun k off e hp e' => by
            obtain ⟨g', off', hx, hc⟩ := hs.at_ 0 hp
            rw [e] at hx
            cases hx
            subst e'
            rw [Nat.add_zero] at hc
            simp only [World.cell?, hI.hp] at hc
            rcases off with _ | _ | _ | _ | _ | _ | _ | _ | _ | off <;> simp at hc
          have hs1 : Seg w1 a L := hs.kp k1 (fun k off e hp => hsb k off e hp)
          have HC := pcl21 a L l cap w1 hs1 hl hnil (by have := hO.pg.2; omega)
          have d0 : w1.cell? ⟨b, 0, none⟩ = some (.int .i64 (S.pg : Int)) := hI1.cel (i := 0) rfl
          have HI1 : Hid (Fi21 w1 b m c f none 0 la lc V { S with lf := 0, tn := [] }) := hI1
          have HKS : Hid (Kp (fun k => k = b) w w1 ∧ w1.heap.size = w.heap.size) := ⟨k1, hsz⟩
          clear hs1 hs hI1 k1 hw1 hI cf c1 c2 c3 c4 hsz hsb
          go_enter Tryd.func21, Tryd.ntmps21
          go_wp2_with fail
          refine HST.mono ?_
          rintro e w1' ⟨rfl, hw⟩
          subst w1'
          go_wp2_with fail
          rw [HW1.out]
          refine HC.mono ?_
          rintro e w2 ⟨⟨ra, rc, rfl, hcl⟩, b2⟩
          have hI2 := HI1.out.old b2
          have e6 := hI2.cel (i := 6) rfl
          have e7 := hI2.cel (i := 7) rfl
          have g6 := hI2.fr 6
          have g7 := hI2.fr 7
          have HI2 : Hid (Fi21 w2 b m c f none 0 la lc V { S with lf := 0, tn := [] }) := hI2
          have HCL : Hid (Cl21 w2 ra L rc w1.heap.size) := hcl
          clear hI2 hcl
          go_wp2_with fail
          go_ret
          obtain ⟨q1, q2, q3, q4⟩ := HCL.out
          have hz := HKS.out.2
          have hVk : ∀ k, (V k ∨ ra = some ⟨k, 0, none⟩) → F k ∨ w.heap.size ≤ k := fun k e => by
            rcases e with e | e
            · exact .inl (hFV k e)
            · rcases q2 with q2 | ⟨k', q2, q5, q6⟩
              · rw [q2] at e; cases e
              · rw [q2] at e; cases e; exact .inr (by omega)
          have hra : ∀ k, ra = some ⟨k, 0, none⟩ → w.heap.size ≤ k ∧ k < w2.heap.size := fun k e => by
            rcases q2 with q2 | ⟨k', q2, q5, q6⟩
            · rw [q2] at e; cases e
            · rw [q2] at e; cases e; exact ⟨by omega, q6⟩
          have hbw := hFs b hFb
          have hmw := hFs m hFm
          have hI3 := HI2.out.wid (V' := fun k => V k ∨ ra = some ⟨k, 0, none⟩) (fun k e => .inl e) (by rintro (e | e); (exact HI2.out.vb e); (have := hra _ e; omega)) (by rintro (e | e); (exact HI2.out.vm e); (have := hra _ e; omega)) (by
            intro k e h
            rcases h with h | h
            · exact HI2.out.vl k e h
            · have := hFs k (hFl k e); have := hra _ h; omega) (by
            rintro k (e | e)
            · exact HI2.out.vs k e
            · exact (hra k e).2)
          have hp2 := hI3.hp
          refine ⟨rfl, fun k => F k ∨ ra = some ⟨k, 0, none⟩, ⟨m, c, f, ra, rc, la, lc, fun k => V k ∨ ra = some ⟨k, 0, none⟩, hI3.re (S' := { S with lf := n, tn := L }) ?_ rfl rfl ⟨q1, ?_, q3, q4⟩ ?_, .inl hFb, .inl hFm, fun k e => .inl (hFl k e), ?_, ?_⟩, ?_, ?_⟩
          · exact (Kp.set (S := fun k => k = b) rfl _).trans (Kp.set (S := fun k => k = b) rfl _) (fun _ _ e => e)
          · rcases q2 with q2 | ⟨k', q2, q5, q6⟩
            · exact .inl q2
            · exact .inr ⟨k', q2, .inr q2⟩
          · have := hl.out
            simp [World.setCell, Array.getElem?_modify, hp2, this]
          · rintro k (e | e)
            · exact .inl (hFV k e)
            · exact .inr e
          · have := b2.size
            rintro k (e | e)
            · have := hFs k e; simp; omega
            · have := hra k e; simp; omega
          · rintro k (e | e)
            · exact .inl e
            · exact .inr (hra k e).1
          · exact (((HKS.out.1.mono (S' := F) (fun i _ e => e ▸ hFb)).trans (Kp.of_below (S := F) b2) (fun _ _ e => e)).trans (Kp.set (S := F) hFb _) (fun _ _ e => e)).trans (Kp.set (S := F) hFb _) (fun _ _ e => e)
        · rw [if_neg h3]
          obtain rfl : n = 0 := by omega
          have hFN : Fn21 w w1 b F { S with lf := 0, tn := [] } := ⟨F, ⟨m, c, f, none, 0, la, lc, V, hI1, hFb, hFm, hFl, hFV, fun k e => by rw [hsz]; exact hFs k e⟩, fun _ e => .inl e, k1.mono (fun i _ e => e ▸ hFb)⟩
          have HFN : Hid (Fn21 w w1 b F { S with lf := 0, tn := [] }) := hFN
          clear hs hI1 k1 hw1 hI cf c1 c2 c3 c4 hsz hFN h3
          go_enter Tryd.func21, Tryd.ntmps21
          go_wp2_with fail
          refine HST.mono ?_
          rintro e w1' ⟨rfl, hw⟩
          subst w1'
          go_wp2_with fail
          go_ret
          rw [HW1.out]
          exact ⟨rfl, HFN.out⟩
end
end Go.Proofs.YtjoghmdjnkdokaaDoor
