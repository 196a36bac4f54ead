
import Derived.Test.YtboangeopbblnaaPuC
import Derived.Deep.CutRange
import Derived.Deep.RegionHeld3
namespace Go.Proofs.Ytboangeopbblnaa
open Go.RowKit Go.Maps Go.WideMaps Go.MuLone
set_option linter.unusedVariables false
set_option linter.unusedSimpArgs false
set_option maxRecDepth 100000

/-! The ledger's hold, tell. -/
theorem hE23_none {S : Pu23} {s : ByteArray} {n : Int} (h : fd23 S.L s = none) : hE23 S s n = 230 := by unfold hE23; rw [h]
theorem hE23_arg {S : Pu23} {s : ByteArray} {n : Int} {y : Ho23} (h : fd23 S.L s = some y) (h1 : n < 0 ∨ y.mo < n) : hE23 S s n = 1 := by unfold hE23; rw [h]; exact if_pos h1
theorem hE23_ok {S : Pu23} {s : ByteArray} {n : Int} {y : Ho23} (h : fd23 S.L s = some y) (h1 : ¬ (n < 0 ∨ y.mo < n)) : hE23 S s n = 0 := by unfold hE23; rw [h]; exact if_neg h1
theorem hS23_no {S : Pu23} {s : ByteArray} {n : Int} (h : hE23 S s n ≠ 0) : hS23 S s n = S := by unfold hS23; rw [if_neg h]
theorem hS23_ok {S : Pu23} {s : ByteArray} {n : Int} (h : hE23 S s n = 0) : hS23 S s n = ⟨up23 S.L s n, max S.pk (hs23 (up23 S.L s n))⟩ := by unfold hS23; rw [if_pos h]
theorem new_blk23 (w : World) (o : Obj) : (w.alloc o).heap[w.heap.size]? = some o := by
  show (w.heap.push o)[w.heap.size]? = some o
  exact Array.getElem?_push_size
theorem two_c23 {w : World} {b : Nat} {x y : Value} {t : TypeId} (h : w.heap[b]? = some (.cells #[x, y] t (0, 0))) : w.cell? ⟨b, 0, none⟩ = some x ∧ w.cell? ⟨b, 1, none⟩ = some y := by simp [World.cell?, h]
theorem lg23_peak {w : World} {l m : Nat} {x pk : Int} {L : List Ho23} {V : Int} (hl : w.heap[l]? = some (.cells #[.int .i32 x, .int .u32 0, .map (some m), .int .i64 pk] 62 (0, 0))) (hm : Mn23 w m L) (ok : Ok23 ⟨L, V⟩) :
    Lg23 (w.setCell ⟨l, 3, none⟩ (.int .i64 V)) l m x ⟨L, V⟩ :=
  ⟨led_set3 hl _, hm.block ((Kp.set (S := fun k => k = l) (w := w) (b := l) (i := 3) rfl (.int .i64 V)).block m hm.lt (fun e => hm.no (by rw [e]; exact hl))), ok⟩
set_option maxRecDepth 100000 in
set_option maxHeartbeats 4000000 in
theorem phld23 {w : World} {l m : Nat} {S : Pu23} (h : Lg23 w l m 0 S) {s : ByteArray} (hs : s.size ≤ 9223372036854775807) (n : Int) :
    Calls Try.prog 32 #[.pointer (some ⟨l, 0, none⟩), .string s, .int .i64 n] w fun e w' => e = .returned (.int .i64 (hE23 S s n)) ∧ Lg23 w' l m 0 (hS23 S s n) ∧ Kp (fun k => k = l ∨ k = m) w w' := by
  obtain ⟨w1, hw1⟩ : ∃ w1, w1 = w.setCell ⟨l, 0, none⟩ (.int .i32 1) := ⟨_, rfl⟩
  have HLk : Hid (Calls Try.prog 43 #[.pointer (some ⟨l, 0, none⟩)] w fun e w' => e = .returned (.tuple #[]) ∧ w' = w1) := by
    rw [hw1]; exact lock_free mulib23 ⟨l, 0, none⟩ w (led_c h.hl).1 (led_free h.hl 0)
  have h1 : Lg23 w1 l m 1 S := by rw [hw1]; exact h.lock 1
  have k1 : Hid (Kp (fun k => k = l ∨ k = m) w w1) := by rw [hw1]; exact Kp.lock23 _
  have HS : Hid (Lg23 w1 l m 1 S) := h1
  obtain ⟨-, -, c2, -⟩ := led_c h1.hl
  have HO : Hid (Ok23 S) := h.ok
  clear hw1 h h1
  cases hf : fd23 S.L s with
  | none =>
    have hlook := HS.out.hm.miss hs hf
    have he : hE23 S s n = 230 := hE23_none hf
    rw [hS23_no (by rw [he]; decide), he]
    have HS2 : Hid (Lg23 (w1.alloc (.cells #[.int .i64 0, .int .i64 0] 92)) l m 1 S) := HS.out.below ((Below.refl _ _).alloc (Nat.le_refl _) _)
    clear he hf
    go_enter_defers Try.func32, Try.ntmps32
    go_wp2_with (go_at_call 43; refine HLk.out.mono ?_; rintro e w' ⟨rfl, hw⟩; subst w')
    refine leaves_cons (f := 44) (args := #[.pointer (some ⟨l, 0, none⟩)]) (by simp) (by simp [go_sem]) ?_
    refine (unlock_deferred mulib23 ⟨l, 0, none⟩ .returning _ (led_c HS2.out.hl).1 (led_free HS2.out.hl 0)).mono ?_
    rintro e u' w'' ⟨rfl, rfl, rfl⟩
    exact ⟨_, results_tmp rfl _ _ _, rfl, HS2.out.lock 0, (k1.out.trans (Kp.alloc (S := fun k => k = l ∨ k = m) _ _) (fun _ _ h => h)).trans (Kp.lock23 _) (fun _ _ h => h)⟩
  | some y =>
    have hlook := HS.out.hm.look hs hf
    by_cases hb : n < 0 ∨ y.mo < n
    · have hwi : Hid (∀ W, Calls Try.prog 34 #[.int .i64 n, .int .i64 0, .int .i64 y.mo] W fun e w' => e = .returned (.bool false) ∧ w' = W) := pwith23_no n _ _ hb
      have he : hE23 S s n = 1 := hE23_arg hf hb
      rw [hS23_no (by rw [he]; decide), he]
      have HS2 : Hid (Lg23 (w1.alloc (.cells #[.int .i64 y.mo, .int .i64 y.no] 92)) l m 1 S) := HS.out.below ((Below.refl _ _).alloc (Nat.le_refl _) _)
      clear he hf hb
      go_enter_defers Try.func32, Try.ntmps32
      go_wp2_with (first
        | (go_at_call 43; refine HLk.out.mono ?_; rintro e w' ⟨rfl, hw⟩; subst w')
        | (go_at_call 34; refine (hwi.out _).mono ?_; rintro e w' ⟨rfl, hw⟩; subst w'))
      refine leaves_cons (f := 44) (args := #[.pointer (some ⟨l, 0, none⟩)]) (by simp) (by simp [go_sem]) ?_
      refine (unlock_deferred mulib23 ⟨l, 0, none⟩ .returning _ (led_c HS2.out.hl).1 (led_free HS2.out.hl 0)).mono ?_
      rintro e u' w'' ⟨rfl, rfl, rfl⟩
      exact ⟨_, results_tmp rfl _ _ _, rfl, HS2.out.lock 0, (k1.out.trans (Kp.alloc (S := fun k => k = l ∨ k = m) _ _) (fun _ _ h => h)).trans (Kp.lock23 _) (fun _ _ h => h)⟩
    · have hwi : Hid (∀ W, Calls Try.prog 34 #[.int .i64 n, .int .i64 0, .int .i64 y.mo] W fun e w' => e = .returned (.bool true) ∧ w' = W) := pwith23 n _ _ (by omega)
      have he : hE23 S s n = 0 := hE23_ok hf hb
      have hok := HO.out.hold s n
      rw [hS23_ok he] at hok
      rw [hS23_ok he, he]
      obtain ⟨w2, hw2⟩ : ∃ w2, w2 = w1.alloc (.cells #[.int .i64 y.mo, .int .i64 n] 92) := ⟨_, rfl⟩
      have HS2 : Hid (Lg23 w2 l m 1 S) := by rw [hw2]; exact HS.out.below ((Below.refl _ _).alloc (Nat.le_refl _) _)
      have k2 : Hid (Kp (fun k => k = l ∨ k = m) w w2) := by rw [hw2]; exact k1.out.trans (Kp.alloc (S := fun k => k = l ∨ k = m) _ _) (fun _ _ h => h)
      have d2 : w2.drew.cell? ⟨l, 2, none⟩ = some (.map (some m)) := (led_c HS2.out.hl).2.2.1
      obtain ⟨e0, e1⟩ : w2.drew.cell? ⟨w1.heap.size, 0, none⟩ = some (.int .i64 y.mo) ∧ w2.drew.cell? ⟨w1.heap.size, 1, none⟩ = some (.int .i64 n) := by rw [hw2]; exact two_c23 (new_blk23 w1 _)
      obtain ⟨w3, hput, hM, hT⟩ := (HS2.out.drew).hm.turn (by have := HO.out.ln; omega) hs hf n
      have okL : Ok23 ⟨up23 S.L s n, max S.pk (hs23 (up23 S.L s n))⟩ := hok
      have h3l : w3.heap[l]? = some (.cells #[.int .i32 1, .int .u32 0, .map (some m), .int .i64 S.pk] 62 (0, 0)) := (hT.grown.block l HS2.out.drew.lt.1 (fun e => HS2.out.ne (by cases e; rfl))).trans HS2.out.drew.hl
      have k3 : Hid (Kp (fun k => k = l ∨ k = m) w w3) := k2.out.drew.trans (Kp.grown (S := fun k => k = l ∨ k = m) hT.grown (fun i e => .inr (by cases e; rfl))) (fun _ _ h => h)
      have hsum : hs23 (up23 S.L s n) ≤ 1125899906842624 ∧ 0 ≤ hs23 (up23 S.L s n) := by have := okL.hb; dsimp only at this; omega
      have hpk := HO.out.hb
      obtain ⟨P, hP⟩ : ∃ P, P = S.pk := ⟨_, rfl⟩
      obtain ⟨U, hU⟩ : ∃ U, U = hs23 (up23 S.L s n) := ⟨_, rfl⟩
      rw [← hU] at hsum
      have hokP : Ok23 ⟨up23 S.L s n, max P U⟩ := by rw [hP, hU]; exact okL
      rw [← hP] at h3l ⊢
      rw [← hU]
      have HSm : Hid (∀ W, Below w3.heap.size w3 W → Mn23 W m (up23 S.L s n)) := fun W hW => hM.block (hW.block m hM.lt)
      have HSl : Hid (∀ W, Below w3.heap.size w3 W → W.heap[l]? = some (.cells #[.int .i32 1, .int .u32 0, .map (some m), .int .i64 P] 62 (0, 0))) := fun W hW => (hW.block l (Array.getElem?_eq_some_iff.1 h3l).1).trans h3l
      have HC : Hid (Calls Try.prog 45 #[.pointer (some ⟨l, 0, none⟩)] w3 fun e w' => e = .returned (.tuple #[.int .i64 U, .int .i64 (ms23 (up23 S.L s n))]) ∧ Below w3.heap.size w3 w') := by
        rw [hU]
        exact psums23' h3l hM okL.so okL.bd okL.ln
      clear hM hT he hf hb hok okL hpk hP hU
      go_enter_defers Try.func32, Try.ntmps32
      go_upto_region 9 with (first
        | (go_at_call 43; refine HLk.out.mono ?_; rintro e w' ⟨rfl, hw⟩; subst w')
        | (go_at_call 34; refine (hwi.out _).mono ?_; rintro e w' ⟨rfl, hw⟩; subst w'))
      rw [← hw2]
      have d2' : w2.cell? ⟨l, 2, none⟩ = some (.map (some m)) := d2
      have e0' : w2.cell? ⟨w1.heap.size, 0, none⟩ = some (.int .i64 y.mo) := e0
      have e1' : w2.cell? ⟨w1.heap.size, 1, none⟩ = some (.int .i64 n) := e1
      clear hw2
      go_region
      go_wp2_with (go_at_call 45; refine HC.out.mono ?_; rintro e w4 ⟨rfl, hB4⟩; obtain ⟨-, -, -, f3⟩ := led_c (HSl.out w4 hB4); have g3 := led_free (HSl.out w4 hB4) 3; have HB4 : Hid (Below w3.heap.size w3 w4) := hB4; clear hB4)
      · have hmx : max P U = U := by omega
        rw [hmx] at hokP ⊢
        have HF : Lg23 (w4.setCell ⟨l, 3, none⟩ (.int .i64 U)) l m 1 ⟨up23 S.L s n, U⟩ := lg23_peak (HSl.out w4 HB4.out) (HSm.out w4 HB4.out) hokP
        refine leaves_cons (f := 44) (args := #[.pointer (some ⟨l, 0, none⟩)]) (by simp) (by simp [go_sem]) ?_
        refine (unlock_deferred mulib23 ⟨l, 0, none⟩ .returning _ (led_c HF.hl).1 (led_free HF.hl 0)).mono ?_
        rintro e u' w'' ⟨rfl, rfl, rfl⟩
        exact ⟨_, results_tmp rfl _ _ _, rfl, HF.lock 0, ((k3.out.trans (Kp.of_below (S := fun k => k = l ∨ k = m) HB4.out) (fun _ _ h => h)).trans (Kp.set (S := fun k => k = l ∨ k = m) (.inl rfl) _) (fun _ _ h => h)).trans (Kp.lock23 _) (fun _ _ h => h)⟩
      · have hmx : max P U = P := by omega
        rw [hmx] at hokP ⊢
        have HF : Lg23 (w4.setCell ⟨l, 3, none⟩ (.int .i64 P)) l m 1 ⟨up23 S.L s n, P⟩ := lg23_peak (HSl.out w4 HB4.out) (HSm.out w4 HB4.out) hokP
        refine leaves_cons (f := 44) (args := #[.pointer (some ⟨l, 0, none⟩)]) (by simp) (by simp [go_sem]) ?_
        refine (unlock_deferred mulib23 ⟨l, 0, none⟩ .returning _ (led_c HF.hl).1 (led_free HF.hl 0)).mono ?_
        rintro e u' w'' ⟨rfl, rfl, rfl⟩
        exact ⟨_, results_tmp rfl _ _ _, rfl, HF.lock 0, ((k3.out.trans (Kp.of_below (S := fun k => k = l ∨ k = m) HB4.out) (fun _ _ h => h)).trans (Kp.set (S := fun k => k = l ∨ k = m) (.inl rfl) _) (fun _ _ h => h)).trans (Kp.lock23 _) (fun _ _ h => h)⟩
theorem still_all23 {P : Program} {id : Nat} {Q : Exit → Act → World → Prop} {a : Act} {w : World} {l : List Oper} (hm : P.follows .mixedOrders = true) (hB : Region.lexB .any l.toArray = true)
    (h : wpStill P l.toArray w.drew (fun a' => Q .normal a' w.drew) l a) : (Code.region id l.toArray true).wp P Q a w := wp_region_still_lit hm hB h
set_option maxRecDepth 100000 in
set_option maxHeartbeats 4000000 in
theorem ptel23 {w : World} {l m : Nat} {S : Pu23} (h : Lg23 w l m 0 S) :
    Calls Try.prog 30 #[.pointer (some ⟨l, 0, none⟩)] w fun e w' => e = .returned (.tuple #[.int .i64 (hs23 S.L), .int .i64 S.pk, .int .i64 (ms23 S.L)]) ∧ Lg23 w' l m 0 S ∧ Kp (fun k => k = l) w w' := by
  obtain ⟨w1, hw1⟩ : ∃ w1, w1 = w.setCell ⟨l, 0, none⟩ (.int .i32 1) := ⟨_, rfl⟩
  have HLk : Hid (Calls Try.prog 43 #[.pointer (some ⟨l, 0, none⟩)] w fun e w' => e = .returned (.tuple #[]) ∧ w' = w1) := by
    rw [hw1]; exact lock_free mulib23 ⟨l, 0, none⟩ w (led_c h.hl).1 (led_free h.hl 0)
  have h1 : Lg23 w1 l m 1 S := by rw [hw1]; exact h.lock 1
  have k1 : Hid (Kp (fun k => k = l) w w1) := by rw [hw1]; exact Kp.set (S := fun k => k = l) rfl _
  have HS : Hid (Lg23 w1 l m 1 S) := h1
  have HC : Hid (Calls Try.prog 45 #[.pointer (some ⟨l, 0, none⟩)] w1 fun e w' => e = .returned (.tuple #[.int .i64 (hs23 S.L), .int .i64 (ms23 S.L)]) ∧ Below w1.heap.size w1 w') := psums23 h1
  clear hw1 h h1
  go_enter_defers Try.func30, Try.ntmps30
  go_upto_region 4 with (first
    | (go_at_call 43; refine HLk.out.mono ?_; rintro e w' ⟨rfl, hw⟩; subst w')
    | (go_at_call 45; refine HC.out.mono ?_; rintro e w2 ⟨rfl, hB2⟩; have HS2 : Hid (Lg23 w2 l m 1 S) := HS.out.below hB2; have k2 : Hid (Kp (fun k => k = l) w w2) := k1.out.trans (Kp.of_below (S := fun k => k = l) hB2) (fun _ _ h => h); obtain ⟨-, -, -, f3⟩ := led_c HS2.out.drew.hl; clear hB2))
  refine still_all23 (by kernel_rfl) (by kernel_rfl) ?_
  repeat still_step
  refine wpStill_nil ?_
  go_wp2_with fail
  refine leaves_cons (f := 44) (args := #[.pointer (some ⟨l, 0, none⟩)]) (by simp) (by simp [go_sem]) ?_
  refine (unlock_deferred mulib23 ⟨l, 0, none⟩ .returning _ (led_c HS2.out.drew.hl).1 (led_free HS2.out.drew.hl 0)).mono ?_
  rintro e u' w'' ⟨rfl, rfl, rfl⟩
  exact ⟨_, results_tmp3 rfl _ _ _, rfl, HS2.out.drew.lock 0, k2.out.drew.trans (Kp.set (S := fun k => k = l) rfl _) (fun _ _ h => h)⟩
end Go.Proofs.Ytboangeopbblnaa
