import Derived.Test.YtppjcgkgemhilaaBtRr2
import Derived.Test.YtppjcgkgemhilaaWrPair
import Derived.Test.YtppjcgkgemhilaaOwnUse
import Derived.Deep.RegionHeld3
namespace Go.Proofs.Ytppjcgkgemhilaa
open Go.RowKit
set_option linter.unusedVariables false

/-- A Reader and the document's Reader beside each other. -/
structure RPair (w : World) (b bx B : Nat) (u : Value) (H : List Bool) (t : Nat) : Prop where
  r : Rd w b H t
  x : RrL w bx B u H t
  al : (t + H.length) % 8 = 0
def RS (b bx : Nat) (u : Value) : Nat → Prop := fun k => k = b ∨ WS bx u k
def DoneR (w w' : World) (b bx B : Nat) (u : Value) (H : List Bool) (t : Nat) : Prop := ∃ u', RPair w' b bx B u' H t ∧ Kp (RS b bx u) w w' ∧ Fresh w u u'
variable {w w0 w' wP wR : World} {b bx B : Nat} {u u' : Value} {H H' : List Bool} {t t' : Nat}
theorem RPair.kp {S : Nat → Prop} (h : RPair w b bx B u H t) (hk : Kp S w w') (h1 : ¬ S b) (h2 : ¬ S bx) (h3 : ∀ k, u.ownBlock = some k → ¬ S k) : RPair w' b bx B u H t :=
  ⟨h.r.kp hk h1, h.x.kp hk h2 h3, h.al⟩
theorem RPair.old (h : RPair w b bx B u H t) (hb : Below w.heap.size w w') : RPair w' b bx B u H t := h.kp (S := fun _ => False) (Kp.of_below hb) (by simp) (by simp) (by simp)
theorem RPair.done (h : RPair w' b bx B u H t) (hb : Below w.heap.size w w') : DoneR w w' b bx B u H t := ⟨u, h, Kp.of_below hb, Fresh.refl _ _⟩
theorem DoneR.after (hb : Below w.heap.size w w0) (h : DoneR w0 w' b bx B u H t) : DoneR w w' b bx B u H t := by
  obtain ⟨u', h1, h2, h3⟩ := h
  exact ⟨u', h1, (Kp.of_below hb).trans h2 (fun _ _ e => e), h3.wide hb.size⟩
theorem DoneR.then_kp {S : Nat → Prop} (h : DoneR w w0 b bx B u H t) (hk : Kp S w0 w') (hS : ∀ k, S k → w.heap.size ≤ k ∧ k ≠ b ∧ k ≠ bx ∧ ∀ {u'' : Value}, RrL w0 bx B u'' H t → Fresh w u u'' → u''.ownBlock ≠ some k) : DoneR w w' b bx B u H t := by
  obtain ⟨u', h1, h2, h3⟩ := h
  refine ⟨u', h1.kp hk (fun e => (hS _ e).2.1 rfl) (fun e => (hS _ e).2.2.1 rfl) (fun k e e2 => (hS k e2).2.2.2 h1.x h3 e), h2.trans hk (fun i hi e => by have := (hS i e).1; omega), h3⟩
theorem DoneR.then_old (h : DoneR w w0 b bx B u H t) (hb : Below w0.heap.size w0 w') : DoneR w w' b bx B u H t := by
  obtain ⟨u', h1, h2, h3⟩ := h
  exact ⟨u', h1.old hb, h2.trans (S' := fun _ => False) (Kp.of_below hb) (fun _ _ e => e.elim), h3⟩
theorem rr_kept (hx : RrL w bx B u H t) (hk : Kp (fun k => k = b) w w') (hb : b ≠ bx) (hb1 : b < B) : RrL w' bx B u H t :=
  hx.kp hk (fun e => hb e.symm) (fun k e e2 => by have := (hx.own_lt k e).1; omega)
theorem rd_kept {M : List Bool} {s : Nat} (hr : Rd w b H t) (hx : RrL w bx B u M s) (hk : Kp (WS bx u) w w') (hb : b ≠ bx) (hb1 : b < B) : Rd w' b H t := by
  refine hr.kp hk ?_
  rintro (e | e)
  · exact hb e
  · have := (hx.own_lt b e).1; omega
/-- First the one, then the other. -/
theorem rpair_pr (h : RPair w0 b bx B u H t) (hb : b ≠ bx) (hb1 : b < B) (gP : Rd wP b H' t') (kP : Kp (fun k => k = b) w0 wP) (gR : RrL wR bx B u' H' t') (kR : Kp (WS bx u) wP wR) (fR : Fresh wP u u') (al : (t' + H'.length) % 8 = 0) : DoneR w0 wR b bx B u H' t' := by
  have xP := rr_kept h.x kP hb hb1
  refine ⟨u', ⟨rd_kept gP xP kR hb hb1, gR, al⟩, ?_, fR.wide kP.size⟩
  exact (kP.mono (S' := RS b bx u) (fun _ _ e => .inl e)).trans kR (fun _ _ e => .inr e)
theorem rpair_rp (h : RPair w0 b bx B u H t) (hb : b ≠ bx) (hb1 : b < B) (gR : RrL wR bx B u' H' t') (kR : Kp (WS bx u) w0 wR) (fR : Fresh w0 u u') (gP : Rd wP b H' t') (kP : Kp (fun k => k = b) wR wP) (al : (t' + H'.length) % 8 = 0) : DoneR w0 wP b bx B u H' t' := by
  refine ⟨u', ⟨gP, rr_kept gR kP hb hb1, al⟩, ?_, fR⟩
  exact (kR.mono (S' := RS b bx u) (fun _ _ e => .inr e)).trans kP (fun _ _ e => .inl e)
theorem kp_one {w w' : World} {b : Nat} (h : w.grownBy w' (some b)) : Kp (fun k => k = b) w w' := Kp.grown h (by intro i e; cases e; rfl)

theorem take_sum (H : List Bool) (t : Nat) (n : Int) : takeT H t n + (takeL H n).length = t + H.length := by
  unfold takeT takeL
  cases hn : there H n
  · rfl
  · obtain ⟨k, rfl, h1, h2⟩ := there_yes hn
    simp only [if_true, Int.toNat_natCast, List.length_drop]
    omega
theorem takeL_le (H : List Bool) (n : Int) : (takeL H n).length ≤ H.length := by
  unfold takeL
  split <;> simp

set_option maxHeartbeats 1000000 in
theorem reads_take (b bx B : Nat) (u : Value) (H : List Bool) (t : Nat) (x : Int) (n : Int) (w : World) (h : RPair w b bx B u H t) (hb : b ≠ bx) (hb1 : b < B) (ht : t ≤ 4611686018427387904) (ba : Option Addr) (bl bc : Nat) :
    Calls Try.prog 11 #[.pointer (some ⟨b, 0, none⟩), .pointer (some ⟨bx, 0, none⟩), .agg #[.int .i64 1, .int .u64 x, .int .i64 n, .slice ba bl bc]] w fun e w' => e = .returned (.bool true) ∧ DoneR w w' b bx B u (takeL H n) (takeT H t n) := by
  obtain ⟨wA, hwA⟩ : ∃ wA, wA = w.alloc (.cells #[.int .i64 1, .int .u64 x, .int .i64 n, .slice ba bl bc] 34) := ⟨_, rfl⟩
  have bA : Below w.heap.size w wA := by rw [hwA]; exact (Below.refl _ _).alloc (Nat.le_refl _) _
  have hA : wA.heap[w.heap.size]? = some (.cells #[.int .i64 1, .int .u64 x, .int .i64 n, .slice ba bl bc] 34 (0, 0)) := by rw [hwA]; exact heap_new w _
  obtain ⟨hc0, _, hc2, _⟩ := four_cell hA
  obtain ⟨ob, hob⟩ : ∃ ob, ob = w.heap.size := ⟨_, rfl⟩
  have HW : Hid (wA = w.alloc (.cells #[.int .i64 1, .int .u64 x, .int .i64 n, .slice ba bl bc] 34)) := hwA
  have HO : Hid (ob = w.heap.size) := hob
  rw [← hob] at hc0 hc2
  have pA := h.old bA
  have hbo : ob ≠ b := by have := h.r.b_lt; omega
  have hobA : ob < wA.heap.size := World.block_lt_of_cell? wA _ hc0
  have hle := h.r.le
  have hsum := take_sum H t n
  have CT := take_any b H t n wA pA.r ht
  have HR : Hid (∀ W, RrL W bx B u H t → Calls Try.prog 35 #[.pointer (some ⟨bx, 0, none⟩), .int .i64 n] W fun e w' => e = .returned (.tuple #[.int .u64 (takeV H n : Int), .bool (there H n)]) ∧ ∃ v', RrL w' bx B v' (takeL H n) (takeT H t n) ∧ Kp (WS bx u) W w' ∧ Fresh W u v') := fun W hW => rtake_any bx B u H t n W hW ht hle
  have HAL : Hid ((takeT H t n + (takeL H n).length) % 8 = 0) := by show _ = _; rw [hsum]; exact h.al
  clear hwA hob hA hsum
  generalize takeV H n = y at *
  generalize there H n = th at *
  generalize takeL H n = H' at *
  generalize takeT H t n = t' at *
  go_enter Try.func11, Try.ntmps11
  go_wp2_with fail
  rw [← HW.out, ← HO.out]
  refine CT.mono ?_
  rintro e wP ⟨rfl, gP, gP2⟩
  have kP := kp_one gP2
  have xP := rr_kept pA.x kP hb hb1
  have c2P := (World.cell?_of_block (a := ⟨ob, 2, none⟩) (kP.block ob hobA hbo)).trans hc2
  clear CT
  go_wp2_with fail
  refine (HR.out _ xP).mono ?_
  rintro e wR ⟨rfl, u1, gR, kR, fR⟩
  go_wp2
  go_ret
  exact ⟨by simp, DoneR.after bA (rpair_pr pA hb hb1 gP kP gR kR fR HAL.out)⟩

set_option maxHeartbeats 1000000 in
theorem reads_peek (b bx B : Nat) (u : Value) (H : List Bool) (t : Nat) (x : Int) (n : Int) (w : World) (h : RPair w b bx B u H t) (ba : Option Addr) (bl bc : Nat) :
    Calls Try.prog 11 #[.pointer (some ⟨b, 0, none⟩), .pointer (some ⟨bx, 0, none⟩), .agg #[.int .i64 2, .int .u64 x, .int .i64 n, .slice ba bl bc]] w fun e w' => e = .returned (.bool true) ∧ DoneR w w' b bx B u H t := by
  obtain ⟨wA, hwA⟩ : ∃ wA, wA = w.alloc (.cells #[.int .i64 2, .int .u64 x, .int .i64 n, .slice ba bl bc] 34) := ⟨_, rfl⟩
  have bA : Below w.heap.size w wA := by rw [hwA]; exact (Below.refl _ _).alloc (Nat.le_refl _) _
  have hA : wA.heap[w.heap.size]? = some (.cells #[.int .i64 2, .int .u64 x, .int .i64 n, .slice ba bl bc] 34 (0, 0)) := by rw [hwA]; exact heap_new w _
  obtain ⟨hc0, _, hc2, _⟩ := four_cell hA
  obtain ⟨ob, hob⟩ : ∃ ob, ob = w.heap.size := ⟨_, rfl⟩
  have HW : Hid (wA = w.alloc (.cells #[.int .i64 2, .int .u64 x, .int .i64 n, .slice ba bl bc] 34)) := hwA
  have HO : Hid (ob = w.heap.size) := hob
  rw [← hob] at hc0 hc2
  have pA := h.old bA
  have CT := peek_any b H t n wA pA.r
  have CR := rpeek_any bx B u H t n wA pA.x
  clear hwA hob hA
  generalize takeV H n = y at *
  generalize there H n = th at *
  go_enter Try.func11, Try.ntmps11
  go_wp2_with fail
  rw [← HW.out, ← HO.out]
  refine CT.mono ?_
  rintro e wP ⟨rfl, hwP⟩
  subst wP
  go_wp2_with fail
  refine CR.mono ?_
  rintro e wP ⟨rfl, hwP⟩
  subst wP
  go_wp2
  go_ret
  exact ⟨by simp, pA.done bA⟩

set_option maxHeartbeats 1000000 in
theorem reads_down (b bx B : Nat) (u : Value) (H : List Bool) (t : Nat) (x : Int) (n : Int) (w : World) (h : RPair w b bx B u H t) (hb : b ≠ bx) (hb1 : b < B) (ht : t ≤ 4611686018427387904) (ba : Option Addr) (bl bc : Nat) :
    Calls Try.prog 11 #[.pointer (some ⟨b, 0, none⟩), .pointer (some ⟨bx, 0, none⟩), .agg #[.int .i64 3, .int .u64 x, .int .i64 n, .slice ba bl bc]] w fun e w' => e = .returned (.bool true) ∧ DoneR w w' b bx B u (H.drop (H.length % 8)) (t + H.length % 8) := by
  obtain ⟨wA, hwA⟩ : ∃ wA, wA = w.alloc (.cells #[.int .i64 3, .int .u64 x, .int .i64 n, .slice ba bl bc] 34) := ⟨_, rfl⟩
  have bA : Below w.heap.size w wA := by rw [hwA]; exact (Below.refl _ _).alloc (Nat.le_refl _) _
  have HW : Hid (wA = w.alloc (.cells #[.int .i64 3, .int .u64 x, .int .i64 n, .slice ba bl bc] 34)) := hwA
  have pA := h.old bA
  have hle := h.r.le
  have CT := ralign_any b H t wA pA.r ht
  have HR : Hid (∀ W, RrL W bx B u H t → Calls Try.prog 39 #[.pointer (some ⟨bx, 0, none⟩)] W fun e w' => e = .returned (.tuple #[.int .i64 ((H.length % 8 : Nat) : Int), .int .u64 (num (H.take (H.length % 8)) : Int)]) ∧ ∃ v', RrL w' bx B v' (H.drop (H.length % 8)) (t + H.length % 8) ∧ Kp (WS bx u) W w' ∧ Fresh W u v') := fun W hW => rralign_any bx B u H t W hW ht hle h.al
  have HAL : Hid ((t + H.length % 8 + (H.drop (H.length % 8)).length) % 8 = 0) := by
    show _ = _
    have := h.al
    rw [List.length_drop]
    omega
  clear hwA
  generalize num (H.take (H.length % 8)) = y at *
  generalize H.drop (H.length % 8) = H' at *
  generalize H.length % 8 = k at *
  go_enter Try.func11, Try.ntmps11
  go_wp2_with fail
  rw [← HW.out]
  refine CT.mono ?_
  rintro e wP ⟨rfl, gP, gP2⟩
  have kP := kp_one gP2
  have xP := rr_kept pA.x kP hb hb1
  clear CT
  go_wp2_with fail
  refine (HR.out _ xP).mono ?_
  rintro e wR ⟨rfl, u1, gR, kR, fR⟩
  go_wp2
  go_ret
  exact ⟨by simp, DoneR.after bA (rpair_pr pA hb hb1 gP kP gR kR fR HAL.out)⟩

set_option maxRecDepth 100000 in
set_option maxHeartbeats 4000000 in
theorem reads_ask (b bx B : Nat) (u : Value) (H : List Bool) (t : Nat) (c : Int) (x : Int) (n : Int) (w : World) (h : RPair w b bx B u H t) (hc : c ≠ 0 ∧ c ≠ 1 ∧ c ≠ 2 ∧ c ≠ 3) (ba : Option Addr) (bl bc : Nat) :
    Calls Try.prog 11 #[.pointer (some ⟨b, 0, none⟩), .pointer (some ⟨bx, 0, none⟩), .agg #[.int .i64 c, .int .u64 x, .int .i64 n, .slice ba bl bc]] w fun e w' => e = .returned (.bool true) ∧ DoneR w w' b bx B u H t := by
  obtain ⟨wA, hwA⟩ : ∃ wA, wA = w.alloc (.cells #[.int .i64 c, .int .u64 x, .int .i64 n, .slice ba bl bc] 34) := ⟨_, rfl⟩
  have bA : Below w.heap.size w wA := by rw [hwA]; exact (Below.refl _ _).alloc (Nat.le_refl _) _
  have HW : Hid (wA = w.alloc (.cells #[.int .i64 c, .int .u64 x, .int .i64 n, .slice ba bl bc] 34)) := hwA
  have pA := h.old bA
  have pD : RPair wA.drew b bx B u H t := pA.old ((Below.refl _ _).drew)
  have hle := h.r.le
  have e0 : (c == 0) = false := by simp [hc.1]
  have e1 : (c == 1) = false := by simp [hc.2.1]
  have e2 : (c == 2) = false := by simp [hc.2.2.1]
  have e3 : (c == 3) = false := by simp [hc.2.2.2]
  have C1 := has_any b H t wA.drew pD.r
  have C2 := space_any b H t wA.drew pD.r
  have C3 := rspace_any bx B u H t wA.drew pD.x hle
  have C4 := taken_any b H t wA.drew pD.r
  obtain ⟨xa, xcap, hu, hRB⟩ := pD.x
  have hx0 := hRB.cell0
  have hx1 : wA.drew.cell? ⟨bx, 1, none⟩ = some (.int .i64 (t : Int)) := by simp only [World.cell?, hRB.hp]; rfl
  clear hwA hc hu hRB
  generalize (64 - H.length) / 8 = sp at *
  go_enter Try.func11, Try.ntmps11
  go_wp2_with fail
  rw [← HW.out]
  go_region_held3 (fun w' => w'.cell? ⟨bx, 0, none⟩ = some (.slice xa H.length xcap) ∧ w'.cell? ⟨bx, 1, none⟩ = some (.int .i64 (t : Int))) (go_keep)
    (first
      | (go_at_call 19; refine C1.mono ?_; rintro e ws ⟨rfl, hws⟩; subst ws)
      | (go_at_call 40; refine C2.mono ?_; rintro e ws ⟨rfl, hws⟩; subst ws)
      | (go_at_call 41; refine C3.mono ?_; rintro e ws ⟨rfl, hws⟩; subst ws)
      | (go_at_call 22; refine C4.mono ?_; rintro e ws ⟨rfl, hws⟩; subst ws))
  all_goals
    go_wp2
    go_ret
    exact ⟨rfl, DoneR.after bA (pD.done ((Below.refl _ _).drew))⟩
end Go.Proofs.Ytppjcgkgemhilaa
