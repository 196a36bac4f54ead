
import Derived.Test.YtboangeopbblnaaPuB
namespace Go.Proofs.Ytboangeopbblnaa
open Go.RowKit Go.Maps Go.WideMaps Go.MuLone
set_option linter.unusedVariables false
set_option linter.unusedSimpArgs false
set_option maxRecDepth 100000

/-! The ledger's open, hold, tell. -/
theorem Lg23.turned {w w' : World} {l m : Nat} {x : Int} {S : Pu23} (h : Lg23 w l m x S) (ht : w.mapTurned w' m) {L : List Ho23} (hm : Mn23 w' m L) (ok : Ok23 ⟨L, S.pk⟩) : Lg23 w' l m x ⟨L, S.pk⟩ :=
  ⟨(ht.grown.block l h.lt.1 (fun e => h.ne (by cases e; rfl))).trans h.hl, hm, ok⟩
theorem Kp.lock23 {w : World} {l m : Nat} (y : Value) : Kp (fun k => k = l ∨ k = m) w (w.setCell ⟨l, 0, none⟩ y) := Kp.set (.inl rfl) _
set_option maxRecDepth 100000 in
set_option maxHeartbeats 4000000 in
theorem popn23 {w : World} {l m : Nat} {S : Pu23} (h : Lg23 w l m 0 S) {s : ByteArray} (hs : s.size ≤ 9223372036854775807) (n : Int) :
    Calls Try.prog 31 #[.pointer (some ⟨l, 0, none⟩), .string s, .int .i64 n] w fun e w' => e = .returned (.int .i64 (oE23 S s n)) ∧ Lg23 w' l m 0 (oS23 S s n) ∧ Kp (fun k => k = l ∨ k = m) w w' := by
  obtain ⟨w1, hw1⟩ : ∃ w1, w1 = w.setCell ⟨l, 0, none⟩ (.int .i32 1) := ⟨_, rfl⟩
  have HLk : Hid (Calls Try.prog 43 #[.pointer (some ⟨l, 0, none⟩)] w fun e w' => e = .returned (.tuple #[]) ∧ w' = w1) := by
    rw [hw1]; exact lock_free mulib23 ⟨l, 0, none⟩ w (led_c h.hl).1 (led_free h.hl 0)
  have h1 : Lg23 w1 l m 1 S := by rw [hw1]; exact h.lock 1
  have k1 : Hid (Kp (fun k => k = l ∨ k = m) w w1) := by rw [hw1]; exact Kp.lock23 _
  have HS : Hid (Lg23 w1 l m 1 S) := h1
  obtain ⟨-, -, c2, -⟩ := led_c h1.hl
  have hlen := fun ty => h1.hm.len ty
  have HO : Hid (Ok23 S) := h.ok
  clear hw1 h h1
  by_cases hb : 0 ≤ n ∧ n ≤ 1099511627776
  · have hwi : Hid (∀ W, Calls Try.prog 34 #[.int .i64 n, .int .i64 0, .int .i64 1099511627776] W fun e w' => e = .returned (.bool true) ∧ w' = W) := pwith23 n _ _ hb
    have HB : Hid (0 ≤ n ∧ n ≤ 1099511627776) := hb
    clear hb
    by_cases hL : 1024 ≤ S.L.length
    · have hL' : (1024 : Int) ≤ (S.L.length : Int) := by omega
      have he : oE23 S s n = 1 := oE23_arg (by omega)
      have hS : oS23 S s n = S := by unfold oS23; rw [he]; rfl
      rw [he, hS]
      clear he hS
      go_enter_defers Try.func31, Try.ntmps31
      go_wp2_with (first
        | (go_at_call 43; refine HLk.out.mono ?_; rintro e w' ⟨rfl, hw⟩; subst w')
        | (go_at_call 34; refine (hwi.out _).mono ?_; rintro e w' ⟨rfl, hw⟩; subst w'))
      refine leaves_cons (f := 44) (args := #[.pointer (some ⟨l, 0, none⟩)]) (by simp) (by simp [go_sem]) ?_
      refine (unlock_deferred mulib23 ⟨l, 0, none⟩ .returning _ (led_c HS.out.hl).1 (led_free HS.out.hl 0)).mono ?_
      rintro e u' w'' ⟨rfl, rfl, rfl⟩
      exact ⟨_, results_tmp rfl _ _ _, rfl, HS.out.lock 0, k1.out.trans (Kp.lock23 _) (fun _ _ h => h)⟩
    · have hL' : ¬ (1024 : Int) ≤ (S.L.length : Int) := by omega
      cases hf : fd23 S.L s with
      | some y =>
        have hlook := HS.out.hm.look hs hf
        have he : oE23 S s n = 230 := oE23_nm (by have := HB.out; omega) (by have := HB.out; omega) hL hf
        have hS : oS23 S s n = S := by unfold oS23; rw [he]; rfl
        rw [he, hS]
        have HS2 : Hid (Lg23 (w1.alloc (.cells #[.int .i64 y.mo, .int .i64 y.no] 92)) l m 1 S) := HS.out.below ((Below.refl _ _).alloc (Nat.le_refl _) _)
        clear he hS hf hL
        go_enter_defers Try.func31, Try.ntmps31
        go_wp2_with (first
          | (go_at_call 43; refine HLk.out.mono ?_; rintro e w' ⟨rfl, hw⟩; subst w')
          | (go_at_call 34; refine (hwi.out _).mono ?_; rintro e w' ⟨rfl, hw⟩; subst w'))
        refine leaves_cons (f := 44) (args := #[.pointer (some ⟨l, 0, none⟩)]) (by simp) (by simp [go_sem]) ?_
        refine (unlock_deferred mulib23 ⟨l, 0, none⟩ .returning _ (led_c HS2.out.hl).1 (led_free HS2.out.hl 0)).mono ?_
        rintro e u' w'' ⟨rfl, rfl, rfl⟩
        exact ⟨_, results_tmp rfl _ _ _, rfl, HS2.out.lock 0, (k1.out.trans (Kp.alloc (S := fun k => k = l ∨ k = m) _ _) (fun _ _ h => h)).trans (Kp.lock23 _) (fun _ _ h => h)⟩
      | none =>
        have hlook := HS.out.hm.miss hs hf
        have he : oE23 S s n = 0 := oE23_ok (by have := HB.out; omega) (by have := HB.out; omega) hL hf
        have hS : oS23 S s n = ⟨in23 ⟨s, n, 0⟩ S.L, S.pk⟩ := by unfold oS23; rw [if_pos he]
        have hok : Ok23 (oS23 S s n) := HO.out.open_ hs n
        rw [hS] at hok
        rw [he, hS]
        have HS2 : Hid (Lg23 (w1.alloc (.cells #[.int .i64 0, .int .i64 0] 92)) l m 1 S) := HS.out.below ((Below.refl _ _).alloc (Nat.le_refl _) _)
        obtain ⟨w2, hput, hM, hT⟩ := HS2.out.hm.put HO.out.so (by omega) hs hf n
        have HS3 : Hid (Lg23 w2 l m 1 ⟨in23 ⟨s, n, 0⟩ S.L, S.pk⟩) := HS2.out.turned hT hM hok
        have k2 : Hid (Kp (fun k => k = l ∨ k = m) w w2) := (k1.out.trans (Kp.alloc (S := fun k => k = l ∨ k = m) _ _) (fun _ _ h => h)).trans (Kp.grown (S := fun k => k = l ∨ k = m) hT.grown (fun i e => .inr (by cases e; rfl))) (fun _ _ h => h)
        have d2 : (w1.alloc (.cells #[.int .i64 0, .int .i64 0] 92)).cell? ⟨l, 2, none⟩ = some (.map (some m)) := (led_c HS2.out.hl).2.2.1
        clear he hS hf hL hM hT hok
        go_enter_defers Try.func31, Try.ntmps31
        go_wp2_with (first
          | (go_at_call 43; refine HLk.out.mono ?_; rintro e w' ⟨rfl, hw⟩; subst w')
          | (go_at_call 34; refine (hwi.out _).mono ?_; rintro e w' ⟨rfl, hw⟩; subst w'))
        refine leaves_cons (f := 44) (args := #[.pointer (some ⟨l, 0, none⟩)]) (by simp) (by simp [go_sem]) ?_
        refine (unlock_deferred mulib23 ⟨l, 0, none⟩ .returning _ (led_c HS3.out.hl).1 (led_free HS3.out.hl 0)).mono ?_
        rintro e u' w'' ⟨rfl, rfl, rfl⟩
        exact ⟨_, results_tmp rfl _ _ _, rfl, HS3.out.lock 0, k2.out.trans (Kp.lock23 _) (fun _ _ h => h)⟩
  · have hwi : Hid (∀ W, Calls Try.prog 34 #[.int .i64 n, .int .i64 0, .int .i64 1099511627776] W fun e w' => e = .returned (.bool false) ∧ w' = W) := pwith23_no n _ _ (by omega)
    have he : oE23 S s n = 1 := oE23_arg (by omega)
    have hS : oS23 S s n = S := by unfold oS23; rw [he]; rfl
    rw [he, hS]
    clear he hS hb
    go_enter_defers Try.func31, Try.ntmps31
    go_wp2_with (first
      | (go_at_call 43; refine HLk.out.mono ?_; rintro e w' ⟨rfl, hw⟩; subst w')
      | (go_at_call 34; refine (hwi.out _).mono ?_; rintro e w' ⟨rfl, hw⟩; subst w'))
    refine leaves_cons (f := 44) (args := #[.pointer (some ⟨l, 0, none⟩)]) (by simp) (by simp [go_sem]) ?_
    refine (unlock_deferred mulib23 ⟨l, 0, none⟩ .returning _ (led_c HS.out.hl).1 (led_free HS.out.hl 0)).mono ?_
    rintro e u' w'' ⟨rfl, rfl, rfl⟩
    exact ⟨_, results_tmp rfl _ _ _, rfl, HS.out.lock 0, k1.out.trans (Kp.lock23 _) (fun _ _ h => h)⟩
end Go.Proofs.Ytboangeopbblnaa
