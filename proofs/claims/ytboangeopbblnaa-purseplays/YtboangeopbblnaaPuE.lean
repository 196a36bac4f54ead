
import Derived.Test.YtboangeopbblnaaPuD
import Derived.WalkSpells
namespace Go.Proofs.Ytboangeopbblnaa
open Go.RowKit Go.Maps Go.WideMaps Go.MuLone
set_option linter.unusedVariables false
set_option linter.unusedSimpArgs false
set_option maxRecDepth 100000

/-! A purse: New, Open, Hold, Held, Peak, Most. -/
structure Pm23 (w : World) (p l m : Nat) (S : Pu23) : Prop where
  hp : w.heap[p]? = some (.cells #[.pointer (some ⟨l, 0, none⟩)] 50 (0, 0))
  lg : Lg23 w l m 0 S
theorem Pm23.pl {w : World} {p l m : Nat} {S : Pu23} (h : Pm23 w p l m S) : p ≠ l ∧ p ≠ m := by
  refine ⟨fun e => ?_, fun e => h.lg.hm.no (by rw [← e]; exact h.hp)⟩
  have h1 := h.hp
  rw [e, h.lg.hl] at h1
  simp at h1
theorem Pm23.kp {w w' : World} {p l m : Nat} {S : Pu23} (h : Pm23 w p l m S) {F : Nat → Prop} (hk : Kp F w w') (h0 : ¬ F p) (h1 : ¬ F l) (h2 : ¬ F m) : Pm23 w' p l m S := ⟨hk.heap h.hp h0, h.lg.kp hk h1 h2⟩
theorem Pm23.below {w w' : World} {p l m : Nat} {S : Pu23} (h : Pm23 w p l m S) (hk : Below w.heap.size w w') : Pm23 w' p l m S := h.kp (F := fun _ => False) (.of_below hk) (fun h => h) (fun h => h) (fun h => h)
theorem Pm23.then_ {w w' : World} {p l m : Nat} {S S' : Pu23} (h : Pm23 w p l m S) (h' : Lg23 w' l m 0 S') (hk : Kp (fun k => k = l ∨ k = m) w w') : Pm23 w' p l m S' :=
  ⟨hk.heap h.hp (by have := h.pl; omega), h'⟩
theorem one_c23 {w : World} {b : Nat} {x : Value} {t : TypeId} (h : w.heap[b]? = some (.cells #[x] t (0, 0))) : w.cell? ⟨b, 0, none⟩ = some x := by simp [World.cell?, h]
set_option maxRecDepth 100000 in
theorem pmad23 {w : World} {p l m : Nat} {S : Pu23} (h : Pm23 w p l m S) : Calls Try.prog 29 #[.pointer (some ⟨p, 0, none⟩)] w fun e w' => e = .returned (.bool true) ∧ w' = w := by
  have c0 := one_c23 h.hp
  have n1 : ∀ (W : World) (a : Addr), (binOp .neq 24 (.pointer (some a)) (.pointer none)).run Try.prog W = .ok (.bool true) W := fun W a => by kernel_rfl
  have n2 : ∀ (W : World) (a : Addr), (binOp .neq 48 (.pointer (some a)) (.pointer none)).run Try.prog W = .ok (.bool true) W := fun W a => by kernel_rfl
  clear h
  go_enter Try.func29, Try.ntmps29
  go_wp2_with fail
  go_ret
  exact ⟨rfl, rfl⟩
/-- Purses that no call made. -/
def Un23 (w : World) (a : Value) : Prop := a = .pointer none ∨ ∃ p, a = .pointer (some ⟨p, 0, none⟩) ∧ w.cell? ⟨p, 0, none⟩ = some (.pointer none)
set_option maxRecDepth 100000 in
theorem pmad23_no {w : World} {a : Value} (h : Un23 w a) : Calls Try.prog 29 #[a] w fun e w' => e = .returned (.bool false) ∧ w' = w := by
  have n1 : ∀ (W : World) (a : Addr), (binOp .neq 24 (.pointer (some a)) (.pointer none)).run Try.prog W = .ok (.bool true) W := fun W a => by kernel_rfl
  rcases h with rfl | ⟨p, rfl, c0⟩
  · go_enter Try.func29, Try.ntmps29
    go_wp2_with fail
    go_ret
    exact ⟨rfl, rfl⟩
  · go_enter Try.func29, Try.ntmps29
    go_wp2_with fail
    go_ret
    exact ⟨rfl, rfl⟩
theorem new_at23 (w : World) (o : Obj) {k : Nat} (hk : k = w.heap.size) : (w.alloc o).heap[k]? = some o := by subst hk; exact new_blk23 w o
theorem made23 (w : World) : Pm23 (((w.alloc (.map #[] 0)).alloc (.cells #[.int .i32 0, .int .u32 0, .map (some w.heap.size), .int .i64 0] 62)).alloc (.cells #[.pointer (some ⟨w.heap.size + 1, 0, none⟩)] 50)) (w.heap.size + 2) (w.heap.size + 1) w.heap.size ⟨[], 0⟩ := by
  have s1 : (w.alloc (.map #[] 0)).heap.size = w.heap.size + 1 := by simp
  have m0 := Mn23.made w
  have k1 := Kp.alloc (S := fun _ => False) (w.alloc (.map #[] 0)) (.cells #[.int .i32 0, .int .u32 0, .map (some w.heap.size), .int .i64 0] 62)
  have m1 := m0.block (k1.block _ m0.lt (fun h => h))
  have l1 := new_at23 (w.alloc (.map #[] 0)) (.cells #[.int .i32 0, .int .u32 0, .map (some w.heap.size), .int .i64 0] 62) s1.symm
  generalize hW : (w.alloc (.map #[] 0)).alloc (.cells #[.int .i32 0, .int .u32 0, .map (some w.heap.size), .int .i64 0] 62) = W at *
  have s2 : W.heap.size = w.heap.size + 2 := by rw [← hW]; simp
  have k2 := Kp.alloc (S := fun _ => False) W (.cells #[.pointer (some ⟨w.heap.size + 1, 0, none⟩)] 50)
  exact ⟨new_at23 W _ s2.symm, ⟨k2.heap l1 (fun h => h), m1.block (k2.block _ m1.lt (fun h => h)), ok23_new⟩⟩
set_option maxRecDepth 100000 in
set_option maxHeartbeats 1000000 in
theorem pnew23 (w : World) : Calls Try.prog 10 #[] w fun e w' => e = .returned (.pointer (some ⟨w.heap.size + 2, 0, none⟩)) ∧ Pm23 w' (w.heap.size + 2) (w.heap.size + 1) w.heap.size ⟨[], 0⟩ ∧ Below w.heap.size w w' := by
  have hmm := @run_makeMap Try.prog
  go_enter Try.func10, Try.ntmps10
  go_wp2_with fail
  go_ret
  refine ⟨rfl, ?_, ?_⟩
  · exact made23 w
  · exact (((Below.refl _ _).alloc (Nat.le_refl _) _).alloc (by simp) _).alloc (by simp; omega) _
set_option maxRecDepth 100000 in
set_option maxHeartbeats 1000000 in
theorem pOpn23 {w : World} {p l m : Nat} {S : Pu23} (h : Pm23 w p l m S) {s : ByteArray} (hs : s.size ≤ 9223372036854775807) (n : Int) :
    Calls Try.prog 14 #[.pointer (some ⟨p, 0, none⟩), .string s, .int .i64 n] w fun e w' => e = .returned (.int .i64 (oE23 S s n)) ∧ Pm23 w' p l m (oS23 S s n) ∧ Kp (fun k => k = l ∨ k = m) w w' := by
  have c0 := one_c23 h.hp
  have hmd := pmad23 h
  have hop : Hid (Calls Try.prog 31 #[.pointer (some ⟨l, 0, none⟩), .string s, .int .i64 n] w fun e w' => e = .returned (.int .i64 (oE23 S s n)) ∧ Lg23 w' l m 0 (oS23 S s n) ∧ Kp (fun k => k = l ∨ k = m) w w') := popn23 h.lg hs n
  have HS : Hid (Pm23 w p l m S) := h
  clear h
  go_enter Try.func14, Try.ntmps14
  go_wp2_with (go_at_call 29; refine hmd.mono ?_; rintro e w' ⟨rfl, hw⟩; subst w')
  refine hop.out.mono ?_
  rintro e w' ⟨rfl, h1, h2⟩
  have HF : Hid (Pm23 w' p l m (oS23 S s n) ∧ Kp (fun k => k = l ∨ k = m) w w') := ⟨HS.out.then_ h1 h2, h2⟩
  clear h1 h2
  go_wp2_with fail
  go_ret
  exact ⟨rfl, HF.out⟩
set_option maxRecDepth 100000 in
set_option maxHeartbeats 1000000 in
theorem pHld23 {w : World} {p l m : Nat} {S : Pu23} (h : Pm23 w p l m S) {s : ByteArray} (hs : s.size ≤ 9223372036854775807) (n : Int) :
    Calls Try.prog 15 #[.pointer (some ⟨p, 0, none⟩), .string s, .int .i64 n] w fun e w' => e = .returned (.int .i64 (hE23 S s n)) ∧ Pm23 w' p l m (hS23 S s n) ∧ Kp (fun k => k = l ∨ k = m) w w' := by
  have c0 := one_c23 h.hp
  have hmd := pmad23 h
  have hop : Hid (Calls Try.prog 32 #[.pointer (some ⟨l, 0, none⟩), .string s, .int .i64 n] w fun e w' => e = .returned (.int .i64 (hE23 S s n)) ∧ Lg23 w' l m 0 (hS23 S s n) ∧ Kp (fun k => k = l ∨ k = m) w w') := phld23 h.lg hs n
  have HS : Hid (Pm23 w p l m S) := h
  clear h
  go_enter Try.func15, Try.ntmps15
  go_wp2_with (go_at_call 29; refine hmd.mono ?_; rintro e w' ⟨rfl, hw⟩; subst w')
  refine hop.out.mono ?_
  rintro e w' ⟨rfl, h1, h2⟩
  have HF : Hid (Pm23 w' p l m (hS23 S s n) ∧ Kp (fun k => k = l ∨ k = m) w w') := ⟨HS.out.then_ h1 h2, h2⟩
  clear h1 h2
  go_wp2_with fail
  go_ret
  exact ⟨rfl, HF.out⟩
set_option maxRecDepth 100000 in
set_option maxHeartbeats 1000000 in
theorem pHed23 {w : World} {p l m : Nat} {S : Pu23} (h : Pm23 w p l m S) :
    Calls Try.prog 12 #[.pointer (some ⟨p, 0, none⟩)] w fun e w' => e = .returned (.int .i64 (hs23 S.L)) ∧ Pm23 w' p l m S ∧ Kp (fun k => k = l ∨ k = m) w w' := by
  have c0 := one_c23 h.hp
  have hmd := pmad23 h
  have hop : Hid (Calls Try.prog 30 #[.pointer (some ⟨l, 0, none⟩)] w fun e w' => e = .returned (.tuple #[.int .i64 (hs23 S.L), .int .i64 S.pk, .int .i64 (ms23 S.L)]) ∧ Lg23 w' l m 0 S ∧ Kp (fun k => k = l) w w') := ptel23 h.lg
  have HS : Hid (Pm23 w p l m S) := h
  clear h
  go_enter Try.func12, Try.ntmps12
  go_wp2_with (go_at_call 29; refine hmd.mono ?_; rintro e w' ⟨rfl, hw⟩; subst w')
  refine hop.out.mono ?_
  rintro e w' ⟨rfl, h1, h2⟩
  have h3 : Kp (fun k => k = l ∨ k = m) w w' := h2.mono (fun _ _ h => .inl h)
  have HF : Hid (Pm23 w' p l m S ∧ Kp (fun k => k = l ∨ k = m) w w') := ⟨HS.out.then_ h1 h3, h3⟩
  clear h1 h2 h3
  go_wp2_with fail
  go_ret
  exact ⟨rfl, HF.out⟩
set_option maxRecDepth 100000 in
theorem pHed23_no {w : World} {a : Value} (h : Un23 w a) : Calls Try.prog 12 #[a] w fun e w' => e = .returned (.int .i64 0) ∧ w' = w := by
  have hmd := pmad23_no h
  go_enter Try.func12, Try.ntmps12
  go_wp2_with (go_at_call 29; refine hmd.mono ?_; rintro e w' ⟨rfl, hw⟩; subst w')
  go_ret
  exact ⟨rfl, rfl⟩
set_option maxRecDepth 100000 in
set_option maxHeartbeats 1000000 in
theorem pPek23 {w : World} {p l m : Nat} {S : Pu23} (h : Pm23 w p l m S) :
    Calls Try.prog 16 #[.pointer (some ⟨p, 0, none⟩)] w fun e w' => e = .returned (.int .i64 (S.pk)) ∧ Pm23 w' p l m S ∧ Kp (fun k => k = l ∨ k = m) w w' := by
  have c0 := one_c23 h.hp
  have hmd := pmad23 h
  have hop : Hid (Calls Try.prog 30 #[.pointer (some ⟨l, 0, none⟩)] w fun e w' => e = .returned (.tuple #[.int .i64 (hs23 S.L), .int .i64 S.pk, .int .i64 (ms23 S.L)]) ∧ Lg23 w' l m 0 S ∧ Kp (fun k => k = l) w w') := ptel23 h.lg
  have HS : Hid (Pm23 w p l m S) := h
  clear h
  go_enter Try.func16, Try.ntmps16
  go_wp2_with (go_at_call 29; refine hmd.mono ?_; rintro e w' ⟨rfl, hw⟩; subst w')
  refine hop.out.mono ?_
  rintro e w' ⟨rfl, h1, h2⟩
  have h3 : Kp (fun k => k = l ∨ k = m) w w' := h2.mono (fun _ _ h => .inl h)
  have HF : Hid (Pm23 w' p l m S ∧ Kp (fun k => k = l ∨ k = m) w w') := ⟨HS.out.then_ h1 h3, h3⟩
  clear h1 h2 h3
  go_wp2_with fail
  go_ret
  exact ⟨rfl, HF.out⟩
set_option maxRecDepth 100000 in
theorem pPek23_no {w : World} {a : Value} (h : Un23 w a) : Calls Try.prog 16 #[a] w fun e w' => e = .returned (.int .i64 0) ∧ w' = w := by
  have hmd := pmad23_no h
  go_enter Try.func16, Try.ntmps16
  go_wp2_with (go_at_call 29; refine hmd.mono ?_; rintro e w' ⟨rfl, hw⟩; subst w')
  go_ret
  exact ⟨rfl, rfl⟩
set_option maxRecDepth 100000 in
set_option maxHeartbeats 1000000 in
theorem pMst23 {w : World} {p l m : Nat} {S : Pu23} (h : Pm23 w p l m S) :
    Calls Try.prog 17 #[.pointer (some ⟨p, 0, none⟩)] w fun e w' => e = .returned (.int .i64 (ms23 S.L)) ∧ Pm23 w' p l m S ∧ Kp (fun k => k = l ∨ k = m) w w' := by
  have c0 := one_c23 h.hp
  have hmd := pmad23 h
  have hop : Hid (Calls Try.prog 30 #[.pointer (some ⟨l, 0, none⟩)] w fun e w' => e = .returned (.tuple #[.int .i64 (hs23 S.L), .int .i64 S.pk, .int .i64 (ms23 S.L)]) ∧ Lg23 w' l m 0 S ∧ Kp (fun k => k = l) w w') := ptel23 h.lg
  have HS : Hid (Pm23 w p l m S) := h
  clear h
  go_enter Try.func17, Try.ntmps17
  go_wp2_with (go_at_call 29; refine hmd.mono ?_; rintro e w' ⟨rfl, hw⟩; subst w')
  refine hop.out.mono ?_
  rintro e w' ⟨rfl, h1, h2⟩
  have h3 : Kp (fun k => k = l ∨ k = m) w w' := h2.mono (fun _ _ h => .inl h)
  have HF : Hid (Pm23 w' p l m S ∧ Kp (fun k => k = l ∨ k = m) w w') := ⟨HS.out.then_ h1 h3, h3⟩
  clear h1 h2 h3
  go_wp2_with fail
  go_ret
  exact ⟨rfl, HF.out⟩
set_option maxRecDepth 100000 in
theorem pMst23_no {w : World} {a : Value} (h : Un23 w a) : Calls Try.prog 17 #[a] w fun e w' => e = .returned (.int .i64 0) ∧ w' = w := by
  have hmd := pmad23_no h
  go_enter Try.func17, Try.ntmps17
  go_wp2_with (go_at_call 29; refine hmd.mono ?_; rintro e w' ⟨rfl, hw⟩; subst w')
  go_ret
  exact ⟨rfl, rfl⟩
set_option maxRecDepth 100000 in
theorem pOpn23_no {w : World} {a : Value} (h : Un23 w a) (s : ByteArray) (n : Int) : Calls Try.prog 14 #[a, .string s, .int .i64 n] w fun e w' => e = .returned (.int .i64 2) ∧ w' = w := by
  have hmd := pmad23_no h
  go_enter Try.func14, Try.ntmps14
  go_wp2_with (go_at_call 29; refine hmd.mono ?_; rintro e w' ⟨rfl, hw⟩; subst w')
  go_ret
  exact ⟨rfl, rfl⟩
set_option maxRecDepth 100000 in
theorem pHld23_no {w : World} {a : Value} (h : Un23 w a) (s : ByteArray) (n : Int) : Calls Try.prog 15 #[a, .string s, .int .i64 n] w fun e w' => e = .returned (.int .i64 2) ∧ w' = w := by
  have hmd := pmad23_no h
  go_enter Try.func15, Try.ntmps15
  go_wp2_with (go_at_call 29; refine hmd.mono ?_; rintro e w' ⟨rfl, hw⟩; subst w')
  go_ret
  exact ⟨rfl, rfl⟩
set_option maxRecDepth 100000 in
theorem pNam23_no {w : World} {a : Value} (h : Un23 w a) : Calls Try.prog 18 #[a] w fun e w' => e = .returned (.slice none 0 0) ∧ w' = w := by
  have hmd := pmad23_no h
  go_enter Try.func18, Try.ntmps18
  go_wp2_with (go_at_call 29; refine hmd.mono ?_; rintro e w' ⟨rfl, hw⟩; subst w')
  go_ret
  exact ⟨rfl, rfl⟩
end Go.Proofs.Ytboangeopbblnaa
