
import Derived.Test.YthefcmhmcgjcoaaFlK
namespace Go.Proofs.Ythefcmhmcgjcoaa
open Go.RowKit Go.Shelf
set_option linter.unusedVariables false
set_option linter.unusedSimpArgs false

/-! The landed flash: Power, On, Ops, Turn, Limit, Wear. -/
/-- Some cells of a device are set anew. -/
theorem Fl21.re {w w' : World} {b : Nat} {F : Nat → Prop} {S S' : Fs21} (h : Fl21 w b F S) (hk : Kp (fun k => k = b) w w') (e1 : S'.pa = S.pa) (e2 : S'.lg = S.lg) (e3 : S'.tn = S.tn)
    (hp : ∀ m ta tc la lc, w.heap[b]? = some (.cells #[.int .i64 (S.pg : Int), .int .i64 (S.ps : Int), .int .i64 S.ac, .bool S.on, .int .i64 S.lm, .map (some m), .int .i64 S.lf, .slice ta S.tn.length tc, .slice la S.lg.length lc] 85 (0, 0)) → w'.heap[b]? = some (.cells #[.int .i64 (S'.pg : Int), .int .i64 (S'.ps : Int), .int .i64 S'.ac, .bool S'.on, .int .i64 S'.lm, .map (some m), .int .i64 S'.lf, .slice ta S.tn.length tc, .slice la S.lg.length lc] 85 (0, 0))) : Fn21 w w' b F S' := by
  obtain ⟨m, c, f, ta, tc, la, lc, V, h1, h2, h3, h4, h5, h6⟩ := h
  refine ⟨F, ⟨m, c, f, ta, tc, la, lc, V, h1.re hk e1 e2 (by rw [e3]; exact h1.ht) (by rw [e3, e2]; exact hp _ _ _ _ _ h1.hp), h2, h3, by rw [e2]; exact h4, h5, fun k e => Nat.lt_of_lt_of_le (h6 k e) hk.size⟩, fun _ e => .inl e, hk.mono (fun i _ e => e ▸ h2)⟩
theorem Fl21.cells {w : World} {b : Nat} {F : Nat → Prop} {S : Fs21} (h : Fl21 w b F S) : w.cell? ⟨b, 0, none⟩ = some (.int .i64 (S.pg : Int)) ∧ w.cell? ⟨b, 1, none⟩ = some (.int .i64 (S.ps : Int)) ∧ w.cell? ⟨b, 2, none⟩ = some (.int .i64 S.ac) ∧ w.cell? ⟨b, 3, none⟩ = some (.bool S.on) ∧ w.cell? ⟨b, 4, none⟩ = some (.int .i64 S.lm) ∧ ∀ i, w.frozen? ⟨b, i, none⟩ = false := by
  obtain ⟨m, c, f, ta, tc, la, lc, V, h1, _⟩ := h
  exact ⟨h1.cel (i := 0) rfl, h1.cel (i := 1) rfl, h1.cel (i := 2) rfl, h1.cel (i := 3) rfl, h1.cel (i := 4) rfl, h1.fr⟩
section
variable {w : World} {b : Nat} {F : Nat → Prop} {S : Fs21}
set_option maxRecDepth 100000 in
set_option maxHeartbeats 1000000 in
theorem ppow21 (hF : Fl21 w b F S) (hO : Ok21 S) : Calls Try.prog 14 #[.pointer (some ⟨b, 0, none⟩)] w fun e w' => e = .returned (.tuple #[]) ∧ Fn21 w w' b F { S with on := true } := by
  obtain ⟨c0, c1, c2, c3, c4, cf⟩ := hF.cells
  have HM := pmade21 b S.pg w c0 hO.pg.1
  have HF : Hid (Fl21 w b F S) := hF
  have f3 := cf 3
  clear hF cf c0 c1 c2 c4
  go_enter Try.func14, Try.ntmps14
  go_wp2_with fail
  refine HM.mono ?_
  rintro e w1 ⟨rfl, hw⟩
  subst w1
  go_wp2_with fail
  go_end0
  exact ⟨rfl, HF.out.re (Kp.set (S := fun k => k = b) rfl _) rfl rfl rfl (fun m ta tc la lc h => by simp [World.setCell, Array.getElem?_modify, h])⟩
set_option maxRecDepth 100000 in
set_option maxHeartbeats 1000000 in
theorem pon21 (hF : Fl21 w b F S) (hO : Ok21 S) : Calls Try.prog 9 #[.pointer (some ⟨b, 0, none⟩)] w fun e w' => e = .returned (.bool S.on) ∧ w' = w := by
  obtain ⟨c0, c1, c2, c3, c4, cf⟩ := hF.cells
  have HM := pstop21 b S.pg S.on w c0 hO.pg.1 c3
  clear hF cf c0 c1 c2 c4 c3
  cases hon : S.on
  all_goals
    rw [hon] at HM
    go_enter Try.func9, Try.ntmps9
    go_wp2_with fail
    refine HM.mono ?_
    rintro e w1 ⟨rfl, hw⟩
    subst w1
    go_wp2_with fail
    go_ret
    exact ⟨rfl, rfl⟩
set_option maxRecDepth 100000 in
set_option maxHeartbeats 1000000 in
theorem pops21 (hF : Fl21 w b F S) (hO : Ok21 S) : Calls Try.prog 8 #[.pointer (some ⟨b, 0, none⟩)] w fun e w' => e = .returned (.int .i64 (S.lg.length : Int)) ∧ w' = w := by
  obtain ⟨c0, c1, c2, c3, c4, cf⟩ := hF.cells
  have HM := pmade21 b S.pg w c0 hO.pg.1
  obtain ⟨m, c, f, ta, tc, la, lc, V, h1, _⟩ := hF
  have c8 := h1.cel (i := 8) rfl
  clear h1 cf c0 c1 c2 c4 c3
  go_enter Try.func8, Try.ntmps8
  go_wp2_with fail
  refine HM.mono ?_
  rintro e w1 ⟨rfl, hw⟩
  subst w1
  go_wp2_with fail
  go_ret
  exact ⟨rfl, rfl⟩
def tuS21 (S : Fs21) : Fs21 := if S.on then { S with ac := 1 - S.ac } else S
set_option maxRecDepth 100000 in
set_option maxHeartbeats 1000000 in
theorem ptrn21 (hF : Fl21 w b F S) (hO : Ok21 S) : Calls Try.prog 15 #[.pointer (some ⟨b, 0, none⟩)] w fun e w' => e = .returned (.int .i64 (st21 S.on)) ∧ Fn21 w w' b F (tuS21 S) := by
  obtain ⟨c0, c1, c2, c3, c4, cf⟩ := hF.cells
  have HM := pstop21 b S.pg S.on w c0 hO.pg.1 c3
  have HF : Hid (Fl21 w b F S) := hF
  have f2 := cf 2
  have hac : IntKind.i64.wrap (1 - S.ac) = 1 - S.ac := IntWalk.i64_in _ (by have := hO.ac; omega)
  have HT : Hid (tuS21 S = if S.on then { S with ac := 1 - S.ac } else S) := rfl
  rw [HT.out]
  clear hF cf c0 c1 c4 c3
  cases hon : S.on
  · rw [hon] at HM
    rw [if_neg (by simp)]
    go_enter Try.func15, Try.ntmps15
    go_wp2_with fail
    refine HM.mono ?_
    rintro e w1 ⟨rfl, hw⟩
    subst w1
    go_wp2_with fail
    go_ret
    exact ⟨rfl, HF.out.stay (Below.refl _ _)⟩
  · rw [hon] at HM
    rw [if_pos rfl]
    go_enter Try.func15, Try.ntmps15
    go_wp2_with fail
    refine HM.mono ?_
    rintro e w1 ⟨rfl, hw⟩
    subst w1
    go_wp2_with fail
    go_ret
    exact ⟨rfl, HF.out.re (Kp.set (S := fun k => k = b) rfl _) rfl rfl rfl (fun m ta tc la lc h => by simp [World.setCell, Array.getElem?_modify, h, hon])⟩
def liE21 (n : Int) : Int := if n < 0 ∨ 1099511627776 < n then 1 else 0
def liS21 (S : Fs21) (n : Int) : Fs21 := if n < 0 ∨ 1099511627776 < n then S else { S with lm := n }
def weV21 (S : Fs21) (x y : Int) : Int := if ms21 S.ps x y ≠ 0 then 0 else (sh21 S x y).wr
end
end Go.Proofs.Ythefcmhmcgjcoaa
