import Derived.Test.YtpodakndckflgaaGreatDoorPl
namespace Go.Proofs.YtpodakndckflgaaGreatDoor
open Go.RowKit Go.Shelf
set_option linter.unusedVariables false
set_option linter.unusedSimpArgs false
/-- A byte of a stream: is it its last; the state; what is told. -/
noncomputable def sk19 (s : R19) (k : Int) : R19 := if k = 0 then { s with l0 := s.l0 - 1 } else if k = 1 then { s with l1 := s.l1 - 1 } else { s with l2 := s.l2 - 1 }
def lk19 (s : R19) (k : Int) : Int := if k = 0 then s.l0 else if k = 1 then s.l1 else s.l2
noncomputable def sm19 (s : R19) (e : E19) (v : Int) : D19 :=
  (lk19 (sk19 s (op19 s.l0 s.l1 s.l2).1) (op19 s.l0 s.l1 s.l2).1 == 0, 0,
    (if (op19 (sk19 s (op19 s.l0 s.l1 s.l2).1).l0 (sk19 s (op19 s.l0 s.l1 s.l2).1).l1 (sk19 s (op19 s.l0 s.l1 s.l2).1).l2).2 = true then sk19 s (op19 s.l0 s.l1 s.l2).1 else { sk19 s (op19 s.l0 s.l1 s.l2).1 with nx := go19 (sk19 s (op19 s.l0 s.l1 s.l2).1) }),
    { e with kd := 3, st := (op19 s.l0 s.l1 s.l2).1, bs := e.bs ++ [v] })
theorem ev_set19 {V : World} {b k : Nat} {cs : Array Value} {t : TypeId} (v : Value) (h : V.heap[b]? = some (.cells cs t (0, 0))) : (V.setCell ⟨b, k, none⟩ v).heap[b]? = some (.cells (cs.setIfInBounds k v) t (0, 0)) := by
  simp [World.setCell, Array.getElem?_modify, h]
set_option maxRecDepth 100000 in
set_option maxHeartbeats 8000000 in
theorem pstm19 (b bt base : Nat) (s : R19) (e : E19) (v : Int) (w : World) (h : St19 w b 58 s) (hE : Ev19 w bt base e) (hne : bt ≠ b) (hbb : b < base) (hbt : bt < base) (hbs : base ≤ w.heap.size) (ho : (op19 s.l0 s.l1 s.l2).2 = true) (hl : s.l0 ≤ 4611686018427387904 ∧ s.l1 ≤ 4611686018427387904 ∧ s.l2 ≤ 4611686018427387904) (hn : e.bs.length + 1 ≤ 140737488355328) :
    Calls Tryz.prog 25 #[.pointer (some ⟨b, 0, none⟩), .int .u8 v, .pointer (some ⟨bt, 0, none⟩)] w (PQ19 b bt base (sm19 s e v) w) := by
  have OP := popn19 b 58 s w h
  obtain ⟨p, c, q, o⟩ := hE
  obtain ⟨k, hk⟩ : ∃ k, k = (op19 s.l0 s.l1 s.l2).1 := ⟨_, rfl⟩
  have hkk : k = 0 ∧ 0 < s.l0 ∨ k = 1 ∧ 0 < s.l1 ∨ k = 2 ∧ 0 < s.l2 := by
    rw [hk]
    unfold op19 at ho ⊢
    by_cases h0 : 0 < s.l0
    · rw [if_pos h0]; exact .inl ⟨rfl, h0⟩
    · rw [if_neg h0] at ho ⊢
      by_cases h1 : 0 < s.l1
      · rw [if_pos h1]; exact .inr (.inl ⟨rfl, h1⟩)
      · rw [if_neg h1] at ho ⊢
        by_cases h2 : 0 < s.l2
        · rw [if_pos h2]; exact .inr (.inr ⟨rfl, h2⟩)
        · rw [if_neg h2] at ho; cases ho
  obtain ⟨S1, hS1⟩ : ∃ S, S = sk19 s k := ⟨_, rfl⟩
  obtain ⟨w1, hw1⟩ : ∃ w1, w1 = (w.setCell ⟨bt, 0, none⟩ (.int .i64 3)).setCell ⟨bt, 14, none⟩ (.int .i64 k) := ⟨_, rfl⟩
  have q1 : w1.heap[bt]? = some (.cells (({ e with kd := 3, st := k } : E19).cs p c) 39 (0, 0)) := by rw [hw1]; exact ev_set19 _ (ev_set19 _ q)
  have k1 : Kp (fun k => k = bt) w w1 := by rw [hw1]; exact kpt_19 (kp1_19 _) (kp1_19 _)
  have o1 := own_kp o k1 (fun k hk x => by have := (o.lt k hk).1; have x : k = bt := x; omega)
  have h1 : St19 w1 b 58 s := h.kp k1 (fun x => hne (by have x : b = bt := x; exact x.symm))
  obtain ⟨g, rc, w2, hr, o2, k2, hgg⟩ := appb18 w1 v o1 hn (by have := k1.size; omega)
  have q2 : w2.heap[bt]? = some (.cells (({ e with kd := 3, st := k } : E19).cs p c) 39 (0, 0)) := k2.heap q1 (fun x => by have := (o1.lt bt x).1; omega)
  have h2 : St19 w2 b 58 s := h1.kp k2 (fun x => by have := (o1.lt b x).1; omega)
  obtain ⟨w3, hw3⟩ : ∃ w3, w3 = w2.setCell ⟨bt, 15, none⟩ (.slice (some ⟨g, 0, none⟩) (e.bs.length + 1) rc) := ⟨_, rfl⟩
  have q3 : w3.heap[bt]? = some (.cells (({ e with kd := 3, st := k, bs := e.bs ++ [v] } : E19).cs (some ⟨g, 0, none⟩) rc) 39 (0, 0)) := by
    rw [hw3]
    refine (ev_set19 _ q2).trans ?_
    unfold E19.cs
    rw [show (e.bs ++ [v]).length = e.bs.length + 1 by simp]
    rfl
  have k3 : Kp (fun k => k = bt) w2 w3 := by rw [hw3]; exact kp1_19 _
  have h3 : St19 w3 b 58 s := h2.kp k3 (fun x => hne (by have x : b = bt := x; exact x.symm))
  have o3 : w3.ownsRow base 5 1 (.slice (some ⟨g, 0, none⟩) (e.bs ++ [v]).length rc) (e.bs ++ [v]).length ((e.bs ++ [v]).map (Value.int .u8)) := by
    have := own_kp o2 k3 (fun k hk x => by have := (o2.lt k hk).1; have x : k = bt := x; omega)
    rw [show (e.bs ++ [v]).length = e.bs.length + 1 by simp, List.map_append]
    exact this
  have K3 : Kp (fun k => k = b ∨ k = bt ∨ base ≤ k) w w3 := ((k1.mono (S' := fun k => k = b ∨ k = bt ∨ base ≤ k) (fun _ _ x => .inr (.inl x))).trans k2 (fun k _ x => .inr (.inr (o1.lt k x).1))).trans k3 (fun k _ x => .inr (.inl x))
  have HEV : Hid (Ev19 w3 bt base { e with kd := 3, st := k, bs := e.bs ++ [v] }) := ⟨_, _, q3, o3⟩
  have HK3 : Hid (Kp (fun k => k = b ∨ k = bt ∨ base ≤ k) w w3 ∧ bt ≠ b ∧ b < base) := ⟨K3, hne, hbb⟩
  have HH3 : Hid (St19 w3 b 58 s) := h3
  have m0 : w.cell? ⟨bt, 0, none⟩ = some (.int .i64 e.kd) := cell18 q rfl
  have m14 : w.cell? ⟨bt, 14, none⟩ = some (.int .i64 e.st) := cell18 q rfl
  have f0 : w.frozen? ⟨bt, 0, none⟩ = false := by simp [World.frozen?, q]
  have f14 : w.frozen? ⟨bt, 14, none⟩ = false := by simp [World.frozen?, q]
  have m15 : w1.cell? ⟨bt, 15, none⟩ = some (.slice p e.bs.length c) := cell18 q1 rfl
  have m01 : w1.cell? ⟨bt, 0, none⟩ = some (.int .i64 3) := cell18 q1 rfl
  rw [hw1] at m15 m01
  have n15 : w2.cell? ⟨bt, 15, none⟩ = some (.slice p e.bs.length c) := cell18 q2 rfl
  have n0 : w2.cell? ⟨bt, 0, none⟩ = some (.int .i64 3) := cell18 q2 rfl
  have f15 : w2.frozen? ⟨bt, 15, none⟩ = false := by simp [World.frozen?, q2]
  have c0 := h3.c0
  have c19 := h3.c19
  have c20 := h3.c20
  have c21 := h3.c21
  have f19 := h3.f 19
  have f20 := h3.f 20
  have f21 := h3.f 21
  rw [hw3] at c0 c19 c20 c21 f19 f20 f21
  have HW1 : Hid ((w.setCell ⟨bt, 0, none⟩ (.int .i64 3)).setCell ⟨bt, 14, none⟩ (.int .i64 k) = w1) := hw1.symm
  have HR : Hid ((Builtin.append_ #[22, 22] 22 #[.slice p e.bs.length c, .slice (some ⟨w.heap.size, 0, none⟩) 1 1]).run Tryz.prog (w1.alloc (.cells #[.int .u8 v] 5)) = .ok (.slice (some ⟨g, 0, none⟩) (e.bs.length + 1) rc) w2) := by rw [← show w1.heap.size = w.heap.size by rw [hw1]; simp [World.setCell]]; exact hr
  have HW3 : Hid (w2.setCell ⟨bt, 15, none⟩ (.slice (some ⟨g, 0, none⟩) (e.bs.length + 1) rc) = w3) := hw3.symm
  have HKK : Hid (k = (op19 s.l0 s.l1 s.l2).1) := hk
  have HS1 : Hid (S1 = sk19 s k) := hS1
  rw [ho, ← hk] at OP
  clear h q o q1 k1 o1 h1 o2 k2 hgg q2 h2 q3 k3 h3 o3 K3 hw1 hw3 hn hbs hbt ho hk hS1 hr
  rcases hkk with ⟨rfl, hx⟩ | ⟨rfl, hx⟩ | ⟨rfl, hx⟩
  · have hS : S1 = { s with l0 := s.l0 - 1 } := HS1.out
    have hw : IntKind.i64.wrap (s.l0 - 1) = s.l0 - 1 := IntWalk.i64_in _ (by omega)
    have HQ4 : Hid (St19 (w3.setCell ⟨b, 19, none⟩ (.int .i64 (s.l0 - 1))).drew b 58 S1 ∧ Kp (fun k => k = b) w3 (w3.setCell ⟨b, 19, none⟩ (.int .i64 (s.l0 - 1))).drew) := ⟨by rw [hS]; exact HH3.out.set (s' := { s with l0 := s.l0 - 1 }) rfl, (kp1_19 _).drew⟩
    have HSM : Hid (sm19 s e v = (S1.l0 == 0, 0, (if (op19 S1.l0 S1.l1 S1.l2).2 = true then S1 else { S1 with nx := go19 S1 }), { e with kd := 3, st := 0, bs := e.bs ++ [v] })) := by
      show _ = _
      unfold sm19
      rw [← HKK.out, ← HS1.out]
      rfl
    have HLK : Hid (S1.l0 = s.l0 - 1) := by show _ = _; rw [hS]
    clear hS hl
    go_enter Tryz.func25, Tryz.ntmps25
    go_wp2_with fail
    refine OP.mono ?_
    rintro e1 u1 ⟨rfl, hu1⟩
    subst u1
    go_wp2_with (first | (at_builtin; (rw [HW1.out]); refine wpList_app18 rfl (.tmp 28) (.tmp 30) 22 rfl rfl rfl HR.out ?_))
    go_region
    rw [HW3.out]
    obtain ⟨w4, hw4⟩ : ∃ w4, w4 = (w3.setCell ⟨b, 19, none⟩ (.int .i64 (s.l0 - 1))).drew := ⟨_, rfl⟩
    have q4 : St19 w4 b 58 S1 := by rw [hw4]; exact HQ4.out.1
    have k4 : Kp (fun k => k = b) w3 w4 := by rw [hw4]; exact HQ4.out.2
    have HEW : Hid (∀ V, Kp (fun k => k = b) w3 V → Ev19 V bt base { e with kd := 3, st := 0, bs := e.bs ++ [v] } ∧ Kp (fun k => k = b ∨ k = bt ∨ base ≤ k) w V) := fun V hV => ⟨HEV.out.kp hV HK3.out.2.1 HK3.out.2.2, HK3.out.1.trans hV (fun _ _ x => .inl x)⟩
    have OP2 := popn19 b 58 S1 w4 q4
    have c0' := q4.c0
    have ck := q4.c19
    rw [← hw4]
    have HQ4' : Hid (St19 w4 b 58 S1 ∧ Kp (fun k => k = b) w3 w4) := ⟨q4, k4⟩
    clear hw4 k4 OP m0 m14 f0 f14 m15 m01 n15 n0 f15 c0 c19 c20 c21 f19 f20 f21 hw hx HQ4
    by_cases hm : (op19 S1.l0 S1.l1 S1.l2).2 = true
    · rw [hm] at OP2
      have HFN : Hid (sm19 s e v = (S1.l0 == 0, 0, S1, { e with kd := 3, st := 0, bs := e.bs ++ [v] })) := by show _ = _; rw [HSM.out, if_pos hm]
      clear q4 hm
      go_wp2_with fail
      refine OP2.mono ?_
      rintro e2 u2 ⟨rfl, hu2⟩
      subst u2
      clear OP2
      go_wp2
      go_ret2
      rw [HFN.out]
      exact ⟨rfl, HQ4'.out.1, (HEW.out w4 HQ4'.out.2).1, (HEW.out w4 HQ4'.out.2).2⟩
    · have hmf : (op19 S1.l0 S1.l1 S1.l2).2 = false := by simpa using hm
      rw [hmf] at OP2
      have HFN : Hid (sm19 s e v = (S1.l0 == 0, 0, { S1 with nx := go19 S1 }, { e with kd := 3, st := 0, bs := e.bs ++ [v] })) := by show _ = _; rw [HSM.out, if_neg hm]
      have GO := pgo19 b 58 S1 w4 q4
      clear q4 hm hmf
      go_wp2_with fail
      refine OP2.mono ?_
      rintro e2 u2 ⟨rfl, hu2⟩
      subst u2
      clear OP2
      go_wp2_with fail
      refine GO.mono ?_
      rintro e5 w5 ⟨rfl, q5, k5⟩
      have c0'' := q5.c0
      have ck' := q5.c19
      have HQ5 : Hid (St19 w5 b 58 { S1 with nx := go19 S1 } ∧ Kp (fun k => k = b) w3 w5) := ⟨q5, kpt_19 HQ4'.out.2 k5⟩
      clear GO q5 k5 c0' ck
      go_wp2
      go_ret2
      rw [HFN.out]
      exact ⟨rfl, HQ5.out.1, (HEW.out w5 HQ5.out.2).1, (HEW.out w5 HQ5.out.2).2⟩
  · have hS : S1 = { s with l1 := s.l1 - 1 } := HS1.out
    have hw : IntKind.i64.wrap (s.l1 - 1) = s.l1 - 1 := IntWalk.i64_in _ (by omega)
    have HQ4 : Hid (St19 (w3.setCell ⟨b, 20, none⟩ (.int .i64 (s.l1 - 1))).drew b 58 S1 ∧ Kp (fun k => k = b) w3 (w3.setCell ⟨b, 20, none⟩ (.int .i64 (s.l1 - 1))).drew) := ⟨by rw [hS]; exact HH3.out.set (s' := { s with l1 := s.l1 - 1 }) rfl, (kp1_19 _).drew⟩
    have HSM : Hid (sm19 s e v = (S1.l1 == 0, 0, (if (op19 S1.l0 S1.l1 S1.l2).2 = true then S1 else { S1 with nx := go19 S1 }), { e with kd := 3, st := 1, bs := e.bs ++ [v] })) := by
      show _ = _
      unfold sm19
      rw [← HKK.out, ← HS1.out]
      rfl
    have HLK : Hid (S1.l1 = s.l1 - 1) := by show _ = _; rw [hS]
    clear hS hl
    go_enter Tryz.func25, Tryz.ntmps25
    go_wp2_with fail
    refine OP.mono ?_
    rintro e1 u1 ⟨rfl, hu1⟩
    subst u1
    go_wp2_with (first | (at_builtin; (rw [HW1.out]); refine wpList_app18 rfl (.tmp 28) (.tmp 30) 22 rfl rfl rfl HR.out ?_))
    go_region
    rw [HW3.out]
    obtain ⟨w4, hw4⟩ : ∃ w4, w4 = (w3.setCell ⟨b, 20, none⟩ (.int .i64 (s.l1 - 1))).drew := ⟨_, rfl⟩
    have q4 : St19 w4 b 58 S1 := by rw [hw4]; exact HQ4.out.1
    have k4 : Kp (fun k => k = b) w3 w4 := by rw [hw4]; exact HQ4.out.2
    have HEW : Hid (∀ V, Kp (fun k => k = b) w3 V → Ev19 V bt base { e with kd := 3, st := 1, bs := e.bs ++ [v] } ∧ Kp (fun k => k = b ∨ k = bt ∨ base ≤ k) w V) := fun V hV => ⟨HEV.out.kp hV HK3.out.2.1 HK3.out.2.2, HK3.out.1.trans hV (fun _ _ x => .inl x)⟩
    have OP2 := popn19 b 58 S1 w4 q4
    have c0' := q4.c0
    have ck := q4.c20
    rw [← hw4]
    have HQ4' : Hid (St19 w4 b 58 S1 ∧ Kp (fun k => k = b) w3 w4) := ⟨q4, k4⟩
    clear hw4 k4 OP m0 m14 f0 f14 m15 m01 n15 n0 f15 c0 c19 c20 c21 f19 f20 f21 hw hx HQ4
    by_cases hm : (op19 S1.l0 S1.l1 S1.l2).2 = true
    · rw [hm] at OP2
      have HFN : Hid (sm19 s e v = (S1.l1 == 0, 0, S1, { e with kd := 3, st := 1, bs := e.bs ++ [v] })) := by show _ = _; rw [HSM.out, if_pos hm]
      clear q4 hm
      go_wp2_with fail
      refine OP2.mono ?_
      rintro e2 u2 ⟨rfl, hu2⟩
      subst u2
      clear OP2
      go_wp2
      go_ret2
      rw [HFN.out]
      exact ⟨rfl, HQ4'.out.1, (HEW.out w4 HQ4'.out.2).1, (HEW.out w4 HQ4'.out.2).2⟩
    · have hmf : (op19 S1.l0 S1.l1 S1.l2).2 = false := by simpa using hm
      rw [hmf] at OP2
      have HFN : Hid (sm19 s e v = (S1.l1 == 0, 0, { S1 with nx := go19 S1 }, { e with kd := 3, st := 1, bs := e.bs ++ [v] })) := by show _ = _; rw [HSM.out, if_neg hm]
      have GO := pgo19 b 58 S1 w4 q4
      clear q4 hm hmf
      go_wp2_with fail
      refine OP2.mono ?_
      rintro e2 u2 ⟨rfl, hu2⟩
      subst u2
      clear OP2
      go_wp2_with fail
      refine GO.mono ?_
      rintro e5 w5 ⟨rfl, q5, k5⟩
      have c0'' := q5.c0
      have ck' := q5.c20
      have HQ5 : Hid (St19 w5 b 58 { S1 with nx := go19 S1 } ∧ Kp (fun k => k = b) w3 w5) := ⟨q5, kpt_19 HQ4'.out.2 k5⟩
      clear GO q5 k5 c0' ck
      go_wp2
      go_ret2
      rw [HFN.out]
      exact ⟨rfl, HQ5.out.1, (HEW.out w5 HQ5.out.2).1, (HEW.out w5 HQ5.out.2).2⟩
  · have hS : S1 = { s with l2 := s.l2 - 1 } := HS1.out
    have hw : IntKind.i64.wrap (s.l2 - 1) = s.l2 - 1 := IntWalk.i64_in _ (by omega)
    have HQ4 : Hid (St19 (w3.setCell ⟨b, 21, none⟩ (.int .i64 (s.l2 - 1))).drew b 58 S1 ∧ Kp (fun k => k = b) w3 (w3.setCell ⟨b, 21, none⟩ (.int .i64 (s.l2 - 1))).drew) := ⟨by rw [hS]; exact HH3.out.set (s' := { s with l2 := s.l2 - 1 }) rfl, (kp1_19 _).drew⟩
    have HSM : Hid (sm19 s e v = (S1.l2 == 0, 0, (if (op19 S1.l0 S1.l1 S1.l2).2 = true then S1 else { S1 with nx := go19 S1 }), { e with kd := 3, st := 2, bs := e.bs ++ [v] })) := by
      show _ = _
      unfold sm19
      rw [← HKK.out, ← HS1.out]
      rfl
    have HLK : Hid (S1.l2 = s.l2 - 1) := by show _ = _; rw [hS]
    clear hS hl
    go_enter Tryz.func25, Tryz.ntmps25
    go_wp2_with fail
    refine OP.mono ?_
    rintro e1 u1 ⟨rfl, hu1⟩
    subst u1
    go_wp2_with (first | (at_builtin; (rw [HW1.out]); refine wpList_app18 rfl (.tmp 28) (.tmp 30) 22 rfl rfl rfl HR.out ?_))
    go_region
    rw [HW3.out]
    obtain ⟨w4, hw4⟩ : ∃ w4, w4 = (w3.setCell ⟨b, 21, none⟩ (.int .i64 (s.l2 - 1))).drew := ⟨_, rfl⟩
    have q4 : St19 w4 b 58 S1 := by rw [hw4]; exact HQ4.out.1
    have k4 : Kp (fun k => k = b) w3 w4 := by rw [hw4]; exact HQ4.out.2
    have HEW : Hid (∀ V, Kp (fun k => k = b) w3 V → Ev19 V bt base { e with kd := 3, st := 2, bs := e.bs ++ [v] } ∧ Kp (fun k => k = b ∨ k = bt ∨ base ≤ k) w V) := fun V hV => ⟨HEV.out.kp hV HK3.out.2.1 HK3.out.2.2, HK3.out.1.trans hV (fun _ _ x => .inl x)⟩
    have OP2 := popn19 b 58 S1 w4 q4
    have c0' := q4.c0
    have ck := q4.c21
    rw [← hw4]
    have HQ4' : Hid (St19 w4 b 58 S1 ∧ Kp (fun k => k = b) w3 w4) := ⟨q4, k4⟩
    clear hw4 k4 OP m0 m14 f0 f14 m15 m01 n15 n0 f15 c0 c19 c20 c21 f19 f20 f21 hw hx HQ4
    by_cases hm : (op19 S1.l0 S1.l1 S1.l2).2 = true
    · rw [hm] at OP2
      have HFN : Hid (sm19 s e v = (S1.l2 == 0, 0, S1, { e with kd := 3, st := 2, bs := e.bs ++ [v] })) := by show _ = _; rw [HSM.out, if_pos hm]
      clear q4 hm
      go_wp2_with fail
      refine OP2.mono ?_
      rintro e2 u2 ⟨rfl, hu2⟩
      subst u2
      clear OP2
      go_wp2
      go_ret2
      rw [HFN.out]
      exact ⟨rfl, HQ4'.out.1, (HEW.out w4 HQ4'.out.2).1, (HEW.out w4 HQ4'.out.2).2⟩
    · have hmf : (op19 S1.l0 S1.l1 S1.l2).2 = false := by simpa using hm
      rw [hmf] at OP2
      have HFN : Hid (sm19 s e v = (S1.l2 == 0, 0, { S1 with nx := go19 S1 }, { e with kd := 3, st := 2, bs := e.bs ++ [v] })) := by show _ = _; rw [HSM.out, if_neg hm]
      have GO := pgo19 b 58 S1 w4 q4
      clear q4 hm hmf
      go_wp2_with fail
      refine OP2.mono ?_
      rintro e2 u2 ⟨rfl, hu2⟩
      subst u2
      clear OP2
      go_wp2_with fail
      refine GO.mono ?_
      rintro e5 w5 ⟨rfl, q5, k5⟩
      have c0'' := q5.c0
      have ck' := q5.c21
      have HQ5 : Hid (St19 w5 b 58 { S1 with nx := go19 S1 } ∧ Kp (fun k => k = b) w3 w5) := ⟨q5, kpt_19 HQ4'.out.2 k5⟩
      clear GO q5 k5 c0' ck
      go_wp2
      go_ret2
      rw [HFN.out]
      exact ⟨rfl, HQ5.out.1, (HEW.out w5 HQ5.out.2).1, (HEW.out w5 HQ5.out.2).2⟩
end Go.Proofs.YtpodakndckflgaaGreatDoor
