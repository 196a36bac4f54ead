import Derived.Test.YtpodakndckflgaaGreatDoorPj
namespace Go.Proofs.YtpodakndckflgaaGreatDoor
open Go.RowKit Go.Shelf
set_option linter.unusedVariables false
set_option linter.unusedSimpArgs false
def s019 (x : Int) : R19 := ⟨0#32, 0, 0, x, 0, 0, 0, 0, 0, 0, 0, 0, ⟨0, 0, 0, 0, 0, 0⟩, 0, 0, 0, 0, 0, 0⟩
set_option maxRecDepth 100000 in
theorem pnew19 (w : World) : Calls Tryz.prog 5 #[] w fun e w' => e = .returned (.pointer (some ⟨w.heap.size, 0, none⟩)) ∧ St19 w' w.heap.size 60 (s019 1) ∧ Below w.heap.size w w' := by
  have c := cb16 w #[.int .u32 0, .int .u64 0, .int .i64 0, .int .i64 1, .int .i64 0, .int .i64 0, .int .i64 0, .int .i64 0, .int .i64 0, .int .i64 0, .int .i64 0, .int .i64 0, .int .i64 0, .int .i64 0, .int .u32 0, .int .u32 0, .int .i64 0, .int .i64 0, .int .i64 0, .int .i64 0, .int .i64 0, .int .i64 0, .int .i64 0, .int .i64 0] 60
  have HQ : Hid (St19 (w.alloc (.cells #[.int .u32 0, .int .u64 0, .int .i64 0, .int .i64 1, .int .i64 0, .int .i64 0, .int .i64 0, .int .i64 0, .int .i64 0, .int .i64 0, .int .i64 0, .int .i64 0, .int .i64 0, .int .i64 0, .int .u32 0, .int .u32 0, .int .i64 0, .int .i64 0, .int .i64 0, .int .i64 0, .int .i64 0, .int .i64 0, .int .i64 0, .int .i64 0] 60)) w.heap.size 60 (s019 1) ∧ Below w.heap.size w (w.alloc (.cells #[.int .u32 0, .int .u64 0, .int .i64 0, .int .i64 1, .int .i64 0, .int .i64 0, .int .i64 0, .int .i64 0, .int .i64 0, .int .i64 0, .int .i64 0, .int .i64 0, .int .i64 0, .int .i64 0, .int .u32 0, .int .u32 0, .int .i64 0, .int .i64 0, .int .i64 0, .int .i64 0, .int .i64 0, .int .i64 0, .int .i64 0, .int .i64 0] 60))) := ⟨c.cl, c.bl⟩
  clear c
  go_enter Tryz.func5, Tryz.ntmps5
  go_wp2
  go_ret
  exact ⟨rfl, HQ.out.1, HQ.out.2⟩
set_option maxRecDepth 100000 in
theorem prdy19 (b : Nat) (t : TypeId) (s : R19) (w : World) (h : St19 w b t s) : Calls Tryz.prog 12 #[.pointer (some ⟨b, 0, none⟩)] w fun e w' => e = .returned (.bool (s.nx != 0)) ∧ w' = w := by
  have c0 := h.c0
  have c3 := h.c3
  clear h
  go_enter Tryz.func12, Tryz.ntmps12
  go_wp2
  go_ret
  exact ⟨rfl, rfl⟩
set_option maxRecDepth 100000 in
theorem prdy19_nil (w : World) : Calls Tryz.prog 12 #[.pointer none] w fun e w' => e = .returned (.bool false) ∧ w' = w := by
  go_enter Tryz.func12, Tryz.ntmps12
  go_wp2
  go_ret
  exact ⟨rfl, rfl⟩
set_option maxRecDepth 100000 in
/-- refuses: of one that New made. -/
theorem pref19 (b : Nat) (t : TypeId) (s : R19) (w : World) (h : St19 w b t s) (hn : s.nx ≠ 0) : Calls Tryz.prog 13 #[.pointer (some ⟨b, 0, none⟩)] w fun e w' => e = .returned (.int .i64 s.wr) ∧ w' = w := by
  have RD := prdy19 b t s w h
  rw [show (s.nx != 0) = true by simp [hn]] at RD
  have c0 := h.c0
  have c23 := h.c23
  clear h hn
  go_enter Tryz.func13, Tryz.ntmps13
  go_wp2_with fail
  refine RD.mono ?_
  rintro e w' ⟨rfl, hw'⟩
  subst w'
  clear RD
  go_wp2
  go_ret
  exact ⟨rfl, rfl⟩
/-- One that no call made. -/
def Un19 (w : World) (v : Value) : Prop := v = .pointer none ∨ ∃ b, v = .pointer (some ⟨b, 0, none⟩) ∧ St19 w b 60 (s019 0)
theorem Un19.old {w w' : World} {v : Value} (h : Un19 w v) (hb : Below w.heap.size w w') : Un19 w' v := by
  rcases h with h | ⟨b, h, q⟩
  · exact .inl h
  · exact .inr ⟨b, h, q.old hb⟩
theorem Un19.rdy {w : World} {v : Value} (h : Un19 w v) : Calls Tryz.prog 12 #[v] w fun e w' => e = .returned (.bool false) ∧ w' = w := by
  rcases h with rfl | ⟨b, rfl, q⟩
  · exact prdy19_nil w
  · exact prdy19 b _ _ w q
set_option maxRecDepth 100000 in
theorem Un19.ref {w : World} {v : Value} (h : Un19 w v) : Calls Tryz.prog 13 #[v] w fun e w' => e = .returned (.int .i64 2) ∧ w' = w := by
  have RD := h.rdy
  clear h
  go_enter Tryz.func13, Tryz.ntmps13
  go_wp2_with fail
  refine RD.mono ?_
  rintro e w' ⟨rfl, hw'⟩
  subst w'
  clear RD
  go_wp2
  go_ret
  exact ⟨rfl, rfl⟩
set_option maxRecDepth 100000 in
theorem Un19.done {w : World} {v : Value} (h : Un19 w v) : Calls Tryz.prog 6 #[v] w fun e w' => e = .returned (.bool false) ∧ w' = w := by
  have RD := h.rdy
  clear h
  go_enter Tryz.func6, Tryz.ntmps6
  go_wp2_with fail
  refine RD.mono ?_
  rintro e w' ⟨rfl, hw'⟩
  subst w'
  clear RD
  go_wp2
  go_ret
  exact ⟨rfl, rfl⟩
set_option maxRecDepth 100000 in
theorem pdone19 (b : Nat) (t : TypeId) (s : R19) (w : World) (h : St19 w b t s) (hn : s.nx ≠ 0) : Calls Tryz.prog 6 #[.pointer (some ⟨b, 0, none⟩)] w fun e w' => e = .returned (.bool (s.nx == 8)) ∧ w' = w := by
  have RD := prdy19 b t s w h
  rw [show (s.nx != 0) = true by simp [hn]] at RD
  have c0 := h.c0
  have c3 := h.c3
  clear h hn
  go_enter Tryz.func6, Tryz.ntmps6
  go_wp2_with fail
  refine RD.mono ?_
  rintro e w' ⟨rfl, hw'⟩
  subst w'
  clear RD
  go_wp2
  go_ret
  exact ⟨rfl, rfl⟩
set_option maxRecDepth 100000 in
/-- End, of one that has ended. -/
theorem pend19_8 (b : Nat) (t : TypeId) (s : R19) (w : World) (h : St19 w b t s) (hn : s.nx = 8) (hw : s.wr = 0) : Calls Tryz.prog 8 #[.pointer (some ⟨b, 0, none⟩)] w fun e w' => e = .returned (.int .i64 0) ∧ w' = w := by
  have RF := pref19 b t s w h (by omega)
  have DN := pdone19 b t s w h (by omega)
  rw [hw] at RF
  rw [show (s.nx == 8) = true by simp [hn]] at DN
  clear h hn hw
  go_enter Tryz.func8, Tryz.ntmps8
  go_wp2_with fail
  refine RF.mono ?_
  rintro e w' ⟨rfl, hw'⟩
  subst w'
  clear RF
  go_wp2_with fail
  refine DN.mono ?_
  rintro e w' ⟨rfl, hw'⟩
  subst w'
  clear DN
  go_wp2
  go_ret
  exact ⟨rfl, rfl⟩
end Go.Proofs.YtpodakndckflgaaGreatDoor

namespace Go.Proofs.YtpodakndckflgaaGreatDoor
open Go.RowKit Go.Shelf
set_option linter.unusedVariables false
set_option linter.unusedSimpArgs false
theorem info_st19 : (Tryz.prog.info? 58).map (·.size) = some 24 := by kernel_rfl
theorem cs_all19 (s : R19) : s.cs.all (·.oneCell') = true := by first | kernel_rfl | (unfold R19.cs; simp [Value.oneCell'])
set_option maxRecDepth 100000 in
set_option maxHeartbeats 4000000 in
theorem Un19.step {w : World} {v : Value} (h : Un19 w v) (x : Value) : Calls Tryz.prog 7 #[v, x] w fun e w' => e = .returned (.tuple #[.agg #[.int .i64 0, .int .i64 0, .int .i64 0, .int .u32 0, .int .u32 0, .int .i64 0, .int .i64 0, .int .i64 0, .int .i64 0, .int .i64 0, .int .i64 0, .int .i64 0, .int .i64 0, .int .i64 0, .int .i64 0, .slice none 0 0], .int .i64 0, .int .i64 2]) ∧ Below w.heap.size w w' := by
  obtain ⟨w1, hw1⟩ : ∃ w1, w1 = w.alloc (.cells #[.int .i64 0, .int .i64 0, .int .i64 0, .int .u32 0, .int .u32 0, .int .i64 0, .int .i64 0, .int .i64 0, .int .i64 0, .int .i64 0, .int .i64 0, .int .i64 0, .int .i64 0, .int .i64 0, .int .i64 0, .slice none 0 0] 39) := ⟨_, rfl⟩
  have c1 := cb16 w #[.int .i64 0, .int .i64 0, .int .i64 0, .int .u32 0, .int .u32 0, .int .i64 0, .int .i64 0, .int .i64 0, .int .i64 0, .int .i64 0, .int .i64 0, .int .i64 0, .int .i64 0, .int .i64 0, .int .i64 0, .slice none 0 0] 39
  rw [← hw1] at c1
  have RF := (h.old c1.bl).ref
  have HW1 : Hid (w.alloc (.cells #[.int .i64 0, .int .i64 0, .int .i64 0, .int .u32 0, .int .u32 0, .int .i64 0, .int .i64 0, .int .i64 0, .int .i64 0, .int .i64 0, .int .i64 0, .int .i64 0, .int .i64 0, .int .i64 0, .int .i64 0, .slice none 0 0] 39) = w1) := hw1.symm
  have HC1 : Hid (w1.heap[w.heap.size]? = some (.cells #[.int .i64 0, .int .i64 0, .int .i64 0, .int .u32 0, .int .u32 0, .int .i64 0, .int .i64 0, .int .i64 0, .int .i64 0, .int .i64 0, .int .i64 0, .int .i64 0, .int .i64 0, .int .i64 0, .int .i64 0, .slice none 0 0] 39 (0, 0))) := c1.cl
  have hq := setRow_heap w1 w.heap.size _ #[.int .i64 0, .int .i64 0, .int .i64 0, .int .u32 0, .int .u32 0, .int .i64 0, .int .i64 0, .int .i64 0, .int .i64 0, .int .i64 0, .int .i64 0, .int .i64 0, .int .i64 0, .int .i64 0, .int .i64 0, .slice none 0 0] _ _ c1.cl
  have HQ : Hid ((w1.setRow w.heap.size #[.int .i64 0, .int .i64 0, .int .i64 0, .int .u32 0, .int .u32 0, .int .i64 0, .int .i64 0, .int .i64 0, .int .i64 0, .int .i64 0, .int .i64 0, .int .i64 0, .int .i64 0, .int .i64 0, .int .i64 0, .slice none 0 0]).heap[w.heap.size]? = some (.cells #[.int .i64 0, .int .i64 0, .int .i64 0, .int .u32 0, .int .u32 0, .int .i64 0, .int .i64 0, .int .i64 0, .int .i64 0, .int .i64 0, .int .i64 0, .int .i64 0, .int .i64 0, .int .i64 0, .int .i64 0, .slice none 0 0] 39 (0, 0)) ∧ Below w.heap.size w (w1.setRow w.heap.size #[.int .i64 0, .int .i64 0, .int .i64 0, .int .u32 0, .int .u32 0, .int .i64 0, .int .i64 0, .int .i64 0, .int .i64 0, .int .i64 0, .int .i64 0, .int .i64 0, .int .i64 0, .int .i64 0, .int .i64 0, .slice none 0 0])) := by
    refine ⟨hq, ?_⟩
    have k : Kp (fun k => w.heap.size ≤ k) w (w1.setRow w.heap.size #[.int .i64 0, .int .i64 0, .int .i64 0, .int .u32 0, .int .u32 0, .int .i64 0, .int .i64 0, .int .i64 0, .int .i64 0, .int .i64 0, .int .i64 0, .int .i64 0, .int .i64 0, .int .i64 0, .int .i64 0, .slice none 0 0]) := (Kp.of_below (S := fun k => w.heap.size ≤ k) c1.bl).trans (grow19 _ _ _) (fun k _ y => by have y : k = w.heap.size := y; omega)
    exact k.below (fun _ y => y) (Nat.le_refl _)
  clear h hw1 c1 hq
  go_enter Tryz.func7, Tryz.ntmps7
  go_wp2_with fail
  rw [HW1.out]
  refine RF.mono ?_
  rintro e w' ⟨rfl, hw'⟩
  subst w'
  clear RF
  go_wp2_with (refine wpList_store_row rfl 39 (.tmp 4) (.tmp 16) rfl w.heap.size #[.int .i64 0, .int .i64 0, .int .i64 0, .int .u32 0, .int .u32 0, .int .i64 0, .int .i64 0, .int .i64 0, .int .i64 0, .int .i64 0, .int .i64 0, .int .i64 0, .int .i64 0, .int .i64 0, .int .i64 0, .slice none 0 0] rfl rfl _ _ HC1.out info_ev19 rfl evc_z19 ?_)
  refine bodyPost_ret (v := .tuple #[.agg #[.int .i64 0, .int .i64 0, .int .i64 0, .int .u32 0, .int .u32 0, .int .i64 0, .int .i64 0, .int .i64 0, .int .i64 0, .int .i64 0, .int .i64 0, .int .i64 0, .int .i64 0, .int .i64 0, .int .i64 0, .slice none 0 0], .int .i64 0, .int .i64 2]) (results_ctt19 (fn := Tryz.f7) (p := 4) (u := 5) (v := 6) (ty := 39) rfl _ _ w.heap.size _ _ _ _ rfl HQ.out.1 Tryz.underlying39 rfl info_ev19) rfl ?_
  exact ⟨rfl, HQ.out.2⟩
/-- What Step answers where no byte is wrong. -/
def StQ19 (r : Int × Nat × R19 × E19) (w : World) (b : Nat) (s : R19) (en : Ending) (w' : World) : Prop :=
  ∃ p c, en = .returned (.tuple #[.agg (r.2.2.2.cs p c), .int .i64 (r.2.1 : Int), .int .i64 0]) ∧ St19 w' b 60 { r.2.2.1 with tk := s.tk + r.2.1 } ∧ w'.ownsRow w.heap.size 5 1 (.slice p r.2.2.2.bs.length c) r.2.2.2.bs.length (r.2.2.2.bs.map (Value.int .u8)) ∧ Kp (fun k => k = b) w w'
set_option maxRecDepth 100000 in
set_option maxHeartbeats 8000000 in
theorem pSt19_ok {D : R19 → E19 → Int → D19} {I : R19 → E19 → List Int → Prop} (hD : DC19 D I) (b : Nat) (s : R19) (za : Option Addr) (zc : Nat) (z : List Int) (w : World) (ht : Tab w) (h : St19 w b 60 s) (hI : I s e019 z) (hz : Seg w za z) (hzb : ∀ x off, za = some ⟨x, off, none⟩ → 0 < z.length → x ≠ b) (hl : z.length ≤ 140737488355328) (hb0 : b ≠ 0) (htk : 0 ≤ s.tk ∧ s.tk ≤ 4611686018427387904) (hnx : s.nx ≠ 0) (hwr : s.wr = 0) (hok : (run19 D s e019 0 z).1 = 0) :
    Calls Tryz.prog 7 #[.pointer (some ⟨b, 0, none⟩), .slice za z.length zc] w (StQ19 (run19 D s e019 0 z) w b s) := by
  obtain ⟨b4, hb4⟩ : ∃ b4, b4 = w.heap.size := ⟨_, rfl⟩
  obtain ⟨w1, hw1⟩ : ∃ w1, w1 = w.alloc (.cells #[.int .i64 0, .int .i64 0, .int .i64 0, .int .u32 0, .int .u32 0, .int .i64 0, .int .i64 0, .int .i64 0, .int .i64 0, .int .i64 0, .int .i64 0, .int .i64 0, .int .i64 0, .int .i64 0, .int .i64 0, .slice none 0 0] 39) := ⟨_, rfl⟩
  have c1 := cb16 w #[.int .i64 0, .int .i64 0, .int .i64 0, .int .u32 0, .int .u32 0, .int .i64 0, .int .i64 0, .int .i64 0, .int .i64 0, .int .i64 0, .int .i64 0, .int .i64 0, .int .i64 0, .int .i64 0, .int .i64 0, .slice none 0 0] 39
  rw [← hw1] at c1
  obtain ⟨b8, hb8⟩ : ∃ b8, b8 = w1.heap.size := ⟨_, rfl⟩
  obtain ⟨w2, hw2⟩ : ∃ w2, w2 = w1.alloc (.cells #[.int .u32 0, .int .u64 0, .int .i64 0, .int .i64 0, .int .i64 0, .int .i64 0, .int .i64 0, .int .i64 0, .int .i64 0, .int .i64 0, .int .i64 0, .int .i64 0, .int .i64 0, .int .i64 0, .int .u32 0, .int .u32 0, .int .i64 0, .int .i64 0, .int .i64 0, .int .i64 0, .int .i64 0, .int .i64 0, .int .i64 0, .int .i64 0] 58) := ⟨_, rfl⟩
  have c2 := cb16 w1 #[.int .u32 0, .int .u64 0, .int .i64 0, .int .i64 0, .int .i64 0, .int .i64 0, .int .i64 0, .int .i64 0, .int .i64 0, .int .i64 0, .int .i64 0, .int .i64 0, .int .i64 0, .int .i64 0, .int .u32 0, .int .u32 0, .int .i64 0, .int .i64 0, .int .i64 0, .int .i64 0, .int .i64 0, .int .i64 0, .int .i64 0, .int .i64 0] 58
  rw [← hw2] at c2
  obtain ⟨w3, hw3⟩ : ∃ w3, w3 = w2.setRow b8 s.cs := ⟨_, rfl⟩
  have s1 := c1.sz
  have s2 := c2.sz
  have hbw := h.lt
  have k3 : Kp (fun k => k = b8) w2 w3 := by rw [hw3]; exact grow19 _ _ _
  have B2 : Below w.heap.size w w2 := c1.bl.trans (c2.bl.mono (by omega))
  have K3 : Kp (fun k => b4 ≤ k) w w3 := (Kp.of_below (S := fun k => b4 ≤ k) B2).trans k3 (fun k _ x => by have x : k = b8 := x; omega)
  have B3 : Below w.heap.size w w3 := K3.below (fun k x => by have x : b4 ≤ k := x; omega) (Nat.le_refl _)
  have q82 : w2.heap[b8]? = some (.cells #[.int .u32 0, .int .u64 0, .int .i64 0, .int .i64 0, .int .i64 0, .int .i64 0, .int .i64 0, .int .i64 0, .int .i64 0, .int .i64 0, .int .i64 0, .int .i64 0, .int .i64 0, .int .i64 0, .int .u32 0, .int .u32 0, .int .i64 0, .int .i64 0, .int .i64 0, .int .i64 0, .int .i64 0, .int .i64 0, .int .i64 0, .int .i64 0] 58 (0, 0)) := by rw [hb8]; exact c2.cl
  have q83 : St19 w3 b8 58 s := by rw [hw3]; exact setRow_heap w2 b8 _ s.cs _ _ q82
  have q41 : w1.heap[b4]? = some (.cells #[.int .i64 0, .int .i64 0, .int .i64 0, .int .u32 0, .int .u32 0, .int .i64 0, .int .i64 0, .int .i64 0, .int .i64 0, .int .i64 0, .int .i64 0, .int .i64 0, .int .i64 0, .int .i64 0, .int .i64 0, .slice none 0 0] 39 (0, 0)) := by rw [hb4]; exact c1.cl
  have q43 : w3.heap[b4]? = some (.cells #[.int .i64 0, .int .i64 0, .int .i64 0, .int .u32 0, .int .u32 0, .int .i64 0, .int .i64 0, .int .i64 0, .int .i64 0, .int .i64 0, .int .i64 0, .int .i64 0, .int .i64 0, .int .i64 0, .int .i64 0, .slice none 0 0] 39 (0, 0)) := k3.heap ((c2.bl.block _ (by omega)).trans q41) (by show ¬ b4 = b8; omega)
  have qb3 : St19 w3 b 60 s := h.old B3
  have RF := pref19 b 60 s w1 (h.old c1.bl) hnx
  rw [hwr] at RF
  have SP := pstp19 hD b8 s za zc z w3 (ht.old B3) q83 hI (hz.old B3) (fun x off e hp => by have := hz.lt x off e hp; omega) hl (by omega) htk
  have HSP : Hid (Calls Tryz.prog 14 #[.pointer (some ⟨b8, 0, none⟩), .slice za z.length zc] w3 (SpQ19 D w3 b8 s z)) := SP
  have HW1 : Hid (w.alloc (.cells #[.int .i64 0, .int .i64 0, .int .i64 0, .int .u32 0, .int .u32 0, .int .i64 0, .int .i64 0, .int .i64 0, .int .i64 0, .int .i64 0, .int .i64 0, .int .i64 0, .int .i64 0, .int .i64 0, .int .i64 0, .slice none 0 0] 39) = w1 ∧ w.heap.size = b4) := ⟨hw1.symm, hb4.symm⟩
  have HW2 : Hid (w1.alloc (.cells #[.int .u32 0, .int .u64 0, .int .i64 0, .int .i64 0, .int .i64 0, .int .i64 0, .int .i64 0, .int .i64 0, .int .i64 0, .int .i64 0, .int .i64 0, .int .i64 0, .int .i64 0, .int .i64 0, .int .u32 0, .int .u32 0, .int .i64 0, .int .i64 0, .int .i64 0, .int .i64 0, .int .i64 0, .int .i64 0, .int .i64 0, .int .i64 0] 58) = w2 ∧ w1.heap.size = b8) := ⟨hw2.symm, hb8.symm⟩
  have HW3 : Hid (w2.setRow b8 s.cs = w3) := hw3.symm
  have HQ82 : Hid (w2.heap[b8]? = some (.cells #[.int .u32 0, .int .u64 0, .int .i64 0, .int .i64 0, .int .i64 0, .int .i64 0, .int .i64 0, .int .i64 0, .int .i64 0, .int .i64 0, .int .i64 0, .int .i64 0, .int .i64 0, .int .i64 0, .int .u32 0, .int .u32 0, .int .i64 0, .int .i64 0, .int .i64 0, .int .i64 0, .int .i64 0, .int .i64 0, .int .i64 0, .int .i64 0] 58 (0, 0))) := q82
  have hb1 := h.old c1.bl
  have HB1 : Hid (w1.heap[b]? = some (.cells s.cs 60 (0, 0))) := hb1
  have d0 := hb1.c0
  have HNE : Hid (b < b4 ∧ b4 + 1 = b8 ∧ w3.heap.size = b8 + 1 ∧ w.heap.size = b4) := ⟨by omega, by omega, by rw [hw3]; simp [World.setRow]; omega, hb4.symm⟩
  have HQ3 : Hid (St19 w3 b 60 s ∧ w3.heap[b4]? = some (.cells #[.int .i64 0, .int .i64 0, .int .i64 0, .int .u32 0, .int .u32 0, .int .i64 0, .int .i64 0, .int .i64 0, .int .i64 0, .int .i64 0, .int .i64 0, .int .i64 0, .int .i64 0, .int .i64 0, .int .i64 0, .slice none 0 0] 39 (0, 0)) ∧ Below w.heap.size w w3) := ⟨qb3, q43, B3⟩
  have HOK : Hid ((run19 D s e019 0 z).1 = 0) := hok
  clear SP hw1 hw2 hw3 hb4 hb8 c1 c2 s1 s2 hbw k3 B2 K3 B3 q82 q83 q41 q43 qb3 hD hI hz hzb hl hb0 htk hnx hwr hok h ht hb1
  go_enter Tryz.func7, Tryz.ntmps7
  go_wp2_with fail
  rw [HW1.out.1, HW1.out.2]
  refine RF.mono ?_
  rintro e w' ⟨rfl, hw'⟩
  subst w'
  clear RF
  go_wp2_with (first
    | (refine wpList_load_row rfl 58 (.tmp 20) rfl b rfl _ _ _ _ HB1.out Tryz.underlying58 rfl info_st19 ?_)
    | (rw [HW2.out.1, HW2.out.2]; refine wpList_store_row rfl 58 (.tmp 8) (.tmp 21) rfl b8 s.cs rfl rfl _ _ HQ82.out info_st19 rfl (cs_all19 s) ?_; rw [HW3.out]))
  refine HSP.out.mono ?_
  rintro en w4 (⟨hx, -⟩ | ⟨-, p, c, rfl, q8, o4, k4⟩)
  · exact absurd HOK.out hx
  obtain ⟨r, hr⟩ : ∃ r, r = run19 D s e019 0 z := ⟨_, rfl⟩
  rw [← hr] at q8 o4
  rw [← hr]
  have HRE : Hid (r = run19 D s e019 0 z) := hr
  clear hr HOK
  obtain ⟨k, hk⟩ : ∃ k, k = r.2.1 := ⟨_, rfl⟩
  obtain ⟨S, hS⟩ : ∃ S : R19, S = { r.2.2.1 with tk := s.tk + r.2.1 } := ⟨_, rfl⟩
  obtain ⟨e', he'⟩ : ∃ e', e' = r.2.2.2 := ⟨_, rfl⟩
  have HFIN : Hid (∀ (p : Option Addr) (c : Nat) (w' : World), St19 w' b 60 S → w'.ownsRow w.heap.size 5 1 (.slice p e'.bs.length c) e'.bs.length (e'.bs.map (Value.int .u8)) → Kp (fun k => k = b) w w' → StQ19 r w b s (.returned (.tuple #[.agg (e'.cs p c), .int .i64 (k : Int), .int .i64 0])) w') := fun p c w' x y v => ⟨p, c, by rw [he', hk], by rw [hS] at x; exact x, by rw [he'] at y; exact y, v⟩
  rw [← hS] at q8
  rw [← he'] at o4
  rw [← he', ← hk]
  clear hS he' hk
  have ne := HNE.out
  obtain ⟨b9, hb9⟩ : ∃ b9, b9 = w4.heap.size := ⟨_, rfl⟩
  obtain ⟨w5, hw5⟩ : ∃ w5, w5 = w4.alloc (.cells #[.int .i64 0, .int .i64 0, .int .i64 0, .int .u32 0, .int .u32 0, .int .i64 0, .int .i64 0, .int .i64 0, .int .i64 0, .int .i64 0, .int .i64 0, .int .i64 0, .int .i64 0, .int .i64 0, .int .i64 0, .slice none 0 0] 39) := ⟨_, rfl⟩
  have c5 := cb16 w4 #[.int .i64 0, .int .i64 0, .int .i64 0, .int .u32 0, .int .u32 0, .int .i64 0, .int .i64 0, .int .i64 0, .int .i64 0, .int .i64 0, .int .i64 0, .int .i64 0, .int .i64 0, .int .i64 0, .int .i64 0, .slice none 0 0] 39
  rw [← hw5] at c5
  have q95 : w5.heap[b9]? = some (.cells #[.int .i64 0, .int .i64 0, .int .i64 0, .int .u32 0, .int .u32 0, .int .i64 0, .int .i64 0, .int .i64 0, .int .i64 0, .int .i64 0, .int .i64 0, .int .i64 0, .int .i64 0, .int .i64 0, .int .i64 0, .slice none 0 0] 39 (0, 0)) := by rw [hb9]; exact c5.cl
  obtain ⟨w6, hw6⟩ : ∃ w6, w6 = w5.setRow b9 (e'.cs p c) := ⟨_, rfl⟩
  obtain ⟨w7, hw7⟩ : ∃ w7, w7 = w6.setRow b S.cs := ⟨_, rfl⟩
  obtain ⟨w8, hw8⟩ : ∃ w8, w8 = w7.setRow b4 (e'.cs p c) := ⟨_, rfl⟩
  have s4 := k4.size
  have s5 := c5.sz
  have k6 : Kp (fun k => k = b9) w5 w6 := by rw [hw6]; exact grow19 _ _ _
  have k7 : Kp (fun k => k = b) w6 w7 := by rw [hw7]; exact grow19 _ _ _
  have k8 : Kp (fun k => k = b4) w7 w8 := by rw [hw8]; exact grow19 _ _ _
  have qb4 : St19 w4 b 60 s := HQ3.out.1.kp k4 (by show ¬ b = b8; omega)
  have qb6 : St19 w6 b 60 s := (qb4.old c5.bl).kp k6 (by show ¬ b = b9; omega)
  have q86 : St19 w6 b8 58 S := (q8.old c5.bl).kp k6 (by show ¬ b8 = b9; omega)
  have q96 : w6.heap[b9]? = some (.cells (e'.cs p c) 39 (0, 0)) := by rw [hw6]; exact setRow_heap w5 b9 _ _ _ _ q95
  have q97 : w7.heap[b9]? = some (.cells (e'.cs p c) 39 (0, 0)) := k7.heap q96 (by show ¬ b9 = b; omega)
  have q46 : w6.heap[b4]? = some (.cells #[.int .i64 0, .int .i64 0, .int .i64 0, .int .u32 0, .int .u32 0, .int .i64 0, .int .i64 0, .int .i64 0, .int .i64 0, .int .i64 0, .int .i64 0, .int .i64 0, .int .i64 0, .int .i64 0, .int .i64 0, .slice none 0 0] 39 (0, 0)) := k6.heap ((c5.bl.block _ (by omega)).trans (k4.heap HQ3.out.2.1 (by show ¬ b4 = b8; omega))) (by show ¬ b4 = b9; omega)
  have q47 : w7.heap[b4]? = some (.cells #[.int .i64 0, .int .i64 0, .int .i64 0, .int .u32 0, .int .u32 0, .int .i64 0, .int .i64 0, .int .i64 0, .int .i64 0, .int .i64 0, .int .i64 0, .int .i64 0, .int .i64 0, .int .i64 0, .int .i64 0, .slice none 0 0] 39 (0, 0)) := k7.heap q46 (by show ¬ b4 = b; omega)
  have q48 : w8.heap[b4]? = some (.cells (e'.cs p c) 39 (0, 0)) := by rw [hw8]; exact setRow_heap w7 b4 _ _ _ _ q47
  have qb7 : St19 w7 b 60 S := by rw [hw7]; exact setRow_heap w6 b _ _ _ _ qb6
  have qb8 : St19 w8 b 60 S := qb7.kp k8 (by show ¬ b = b4; omega)
  have HQS : Hid (w5.heap[b9]? = some (.cells #[.int .i64 0, .int .i64 0, .int .i64 0, .int .u32 0, .int .u32 0, .int .i64 0, .int .i64 0, .int .i64 0, .int .i64 0, .int .i64 0, .int .i64 0, .int .i64 0, .int .i64 0, .int .i64 0, .int .i64 0, .slice none 0 0] 39 (0, 0)) ∧ w6.heap[b8]? = some (.cells S.cs 58 (0, 0)) ∧ w6.heap[b]? = some (.cells s.cs 60 (0, 0)) ∧ w7.heap[b9]? = some (.cells (e'.cs p c) 39 (0, 0)) ∧ w7.heap[b4]? = some (.cells #[.int .i64 0, .int .i64 0, .int .i64 0, .int .u32 0, .int .u32 0, .int .i64 0, .int .i64 0, .int .i64 0, .int .i64 0, .int .i64 0, .int .i64 0, .int .i64 0, .int .i64 0, .int .i64 0, .int .i64 0, .slice none 0 0] 39 (0, 0)) ∧ w8.heap[b4]? = some (.cells (e'.cs p c) 39 (0, 0))) := ⟨q95, q86, qb6, q97, q47, q48⟩
  have HP : Hid (StQ19 r w b s (.returned (.tuple #[.agg (e'.cs p c), .int .i64 (k : Int), .int .i64 0])) w8) := by
    refine HFIN.out p c w8 qb8 ?_ ?_
    · have o5 := own_kp o4 (Kp.of_below (S := fun _ => False) c5.bl) (fun _ _ x => x)
      have o6 := own_kp o5 k6 (fun k hk x => by have := (o4.lt k hk).2; have x : k = b9 := x; omega)
      have o7 := own_kp o6 k7 (fun k hk x => by have := (o4.lt k hk).1; have x : k = b := x; omega)
      have o8 := own_kp o7 k8 (fun k hk x => by have := (o4.lt k hk).1; have x : k = b4 := x; omega)
      exact own_base o8 (by omega)
    · have j4 : Kp (fun k => k = b ∨ b4 ≤ k) w w4 := (Kp.of_below (S := fun k => k = b ∨ b4 ≤ k) HQ3.out.2.2).trans k4 (fun k _ x => by have x : k = b8 := x; omega)
      have j5 : Kp (fun k => k = b ∨ b4 ≤ k) w w5 := j4.trans (Kp.of_below (S := fun _ => False) c5.bl) (fun _ _ x => x.elim)
      have j6 := j5.trans k6 (fun k _ x => by have x : k = b9 := x; omega)
      have j7 := j6.trans k7 (fun k _ x => .inl x)
      have j8 := j7.trans k8 (fun k _ x => by have x : k = b4 := x; omega)
      exact j8.mono (fun k hk x => by omega)
  have g0 := qb6.c0
  have HW5 : Hid (w4.alloc (.cells #[.int .i64 0, .int .i64 0, .int .i64 0, .int .u32 0, .int .u32 0, .int .i64 0, .int .i64 0, .int .i64 0, .int .i64 0, .int .i64 0, .int .i64 0, .int .i64 0, .int .i64 0, .int .i64 0, .int .i64 0, .slice none 0 0] 39) = w5 ∧ w4.heap.size = b9) := ⟨hw5.symm, hb9.symm⟩
  have HW6 : Hid (w5.setRow b9 (e'.cs p c) = w6) := hw6.symm
  have HW7 : Hid (w6.setRow b S.cs = w7) := hw7.symm
  have HW8 : Hid (w7.setRow b4 (e'.cs p c) = w8) := hw8.symm
  clear hw5 hw6 hw7 hw8 hb9 c5 q95 s4 s5 k6 k7 k8 qb4 qb6 q86 q96 q97 q46 q47 q48 qb7 qb8 q8 o4 k4 ne d0
  go_wp2_with (first
    | (rw [HW5.out.1, HW5.out.2]; refine wpList_store_row rfl 39 (.tmp 9) (.tmp 25) rfl b9 (e'.cs p c) rfl rfl _ _ HQS.out.1 info_ev19 (evc_size19 e' p c) (evc_all19 e' p c) ?_; rw [HW6.out])
    | (refine wpList_load_row rfl 58 (.tmp 8) rfl b8 rfl _ _ _ _ HQS.out.2.1 Tryz.underlying58 rfl info_st19 ?_)
    | (refine wpList_store_row rfl 58 (.tmp 40) (.tmp 38) rfl b S.cs rfl rfl _ _ HQS.out.2.2.1 info_st19 rfl (cs_all19 S) ?_; rw [HW7.out])
    | (refine wpList_load_row rfl 39 (.tmp 9) rfl b9 rfl _ _ _ _ HQS.out.2.2.2.1 Tryz.underlying39 rfl info_ev19 ?_)
    | (refine wpList_store_row rfl 39 (.tmp 4) (.tmp 41) rfl b4 (e'.cs p c) rfl rfl _ _ HQS.out.2.2.2.2.1 info_ev19 (evc_size19 e' p c) (evc_all19 e' p c) ?_; rw [HW8.out]))
  refine bodyPost_ret (v := .tuple #[.agg (e'.cs p c), .int .i64 (k : Int), .int .i64 0]) (results_ctt19 (fn := Tryz.f7) (p := 4) (u := 5) (v := 6) (ty := 39) rfl _ _ b4 _ _ _ _ rfl HQS.out.2.2.2.2.2 Tryz.underlying39 rfl info_ev19) rfl ?_
  rw [← HRE.out]
  exact HP.out
end Go.Proofs.YtpodakndckflgaaGreatDoor

namespace Go.Proofs.YtpodakndckflgaaGreatDoor
open Go.RowKit Go.Shelf
set_option linter.unusedVariables false
set_option linter.unusedSimpArgs false
set_option maxRecDepth 100000 in
set_option maxHeartbeats 8000000 in
theorem pSt19_no {D : R19 → E19 → Int → D19} {I : R19 → E19 → List Int → Prop} (hD : DC19 D I) (b : Nat) (s : R19) (za : Option Addr) (zc : Nat) (z : List Int) (w : World) (ht : Tab w) (h : St19 w b 60 s) (hI : I s e019 z) (hz : Seg w za z) (hzb : ∀ x off, za = some ⟨x, off, none⟩ → 0 < z.length → x ≠ b) (hl : z.length ≤ 140737488355328) (hb0 : b ≠ 0) (htk : 0 ≤ s.tk ∧ s.tk ≤ 4611686018427387904) (hnx : s.nx ≠ 0) (hwr : s.wr = 0) (hok : (run19 D s e019 0 z).1 ≠ 0) :
    Calls Tryz.prog 7 #[.pointer (some ⟨b, 0, none⟩), .slice za z.length zc] w (fun en w' => en = .returned (.tuple #[.agg #[.int .i64 0, .int .i64 0, .int .i64 0, .int .u32 0, .int .u32 0, .int .i64 0, .int .i64 0, .int .i64 0, .int .i64 0, .int .i64 0, .int .i64 0, .int .i64 0, .int .i64 0, .int .i64 0, .int .i64 0, .slice none 0 0], .int .i64 0, .int .i64 (run19 D s e019 0 z).1]) ∧ St19 w' b 60 { s with wr := (run19 D s e019 0 z).1 } ∧ Kp (fun k => k = b) w w') := by
  obtain ⟨b4, hb4⟩ : ∃ b4, b4 = w.heap.size := ⟨_, rfl⟩
  obtain ⟨w1, hw1⟩ : ∃ w1, w1 = w.alloc (.cells #[.int .i64 0, .int .i64 0, .int .i64 0, .int .u32 0, .int .u32 0, .int .i64 0, .int .i64 0, .int .i64 0, .int .i64 0, .int .i64 0, .int .i64 0, .int .i64 0, .int .i64 0, .int .i64 0, .int .i64 0, .slice none 0 0] 39) := ⟨_, rfl⟩
  have c1 := cb16 w #[.int .i64 0, .int .i64 0, .int .i64 0, .int .u32 0, .int .u32 0, .int .i64 0, .int .i64 0, .int .i64 0, .int .i64 0, .int .i64 0, .int .i64 0, .int .i64 0, .int .i64 0, .int .i64 0, .int .i64 0, .slice none 0 0] 39
  rw [← hw1] at c1
  obtain ⟨b8, hb8⟩ : ∃ b8, b8 = w1.heap.size := ⟨_, rfl⟩
  obtain ⟨w2, hw2⟩ : ∃ w2, w2 = w1.alloc (.cells #[.int .u32 0, .int .u64 0, .int .i64 0, .int .i64 0, .int .i64 0, .int .i64 0, .int .i64 0, .int .i64 0, .int .i64 0, .int .i64 0, .int .i64 0, .int .i64 0, .int .i64 0, .int .i64 0, .int .u32 0, .int .u32 0, .int .i64 0, .int .i64 0, .int .i64 0, .int .i64 0, .int .i64 0, .int .i64 0, .int .i64 0, .int .i64 0] 58) := ⟨_, rfl⟩
  have c2 := cb16 w1 #[.int .u32 0, .int .u64 0, .int .i64 0, .int .i64 0, .int .i64 0, .int .i64 0, .int .i64 0, .int .i64 0, .int .i64 0, .int .i64 0, .int .i64 0, .int .i64 0, .int .i64 0, .int .i64 0, .int .u32 0, .int .u32 0, .int .i64 0, .int .i64 0, .int .i64 0, .int .i64 0, .int .i64 0, .int .i64 0, .int .i64 0, .int .i64 0] 58
  rw [← hw2] at c2
  obtain ⟨w3, hw3⟩ : ∃ w3, w3 = w2.setRow b8 s.cs := ⟨_, rfl⟩
  have s1 := c1.sz
  have s2 := c2.sz
  have hbw := h.lt
  have k3 : Kp (fun k => k = b8) w2 w3 := by rw [hw3]; exact grow19 _ _ _
  have B2 : Below w.heap.size w w2 := c1.bl.trans (c2.bl.mono (by omega))
  have K3 : Kp (fun k => b4 ≤ k) w w3 := (Kp.of_below (S := fun k => b4 ≤ k) B2).trans k3 (fun k _ x => by have x : k = b8 := x; omega)
  have B3 : Below w.heap.size w w3 := K3.below (fun k x => by have x : b4 ≤ k := x; omega) (Nat.le_refl _)
  have q82 : w2.heap[b8]? = some (.cells #[.int .u32 0, .int .u64 0, .int .i64 0, .int .i64 0, .int .i64 0, .int .i64 0, .int .i64 0, .int .i64 0, .int .i64 0, .int .i64 0, .int .i64 0, .int .i64 0, .int .i64 0, .int .i64 0, .int .u32 0, .int .u32 0, .int .i64 0, .int .i64 0, .int .i64 0, .int .i64 0, .int .i64 0, .int .i64 0, .int .i64 0, .int .i64 0] 58 (0, 0)) := by rw [hb8]; exact c2.cl
  have q83 : St19 w3 b8 58 s := by rw [hw3]; exact setRow_heap w2 b8 _ s.cs _ _ q82
  have q41 : w1.heap[b4]? = some (.cells #[.int .i64 0, .int .i64 0, .int .i64 0, .int .u32 0, .int .u32 0, .int .i64 0, .int .i64 0, .int .i64 0, .int .i64 0, .int .i64 0, .int .i64 0, .int .i64 0, .int .i64 0, .int .i64 0, .int .i64 0, .slice none 0 0] 39 (0, 0)) := by rw [hb4]; exact c1.cl
  have q43 : w3.heap[b4]? = some (.cells #[.int .i64 0, .int .i64 0, .int .i64 0, .int .u32 0, .int .u32 0, .int .i64 0, .int .i64 0, .int .i64 0, .int .i64 0, .int .i64 0, .int .i64 0, .int .i64 0, .int .i64 0, .int .i64 0, .int .i64 0, .slice none 0 0] 39 (0, 0)) := k3.heap ((c2.bl.block _ (by omega)).trans q41) (by show ¬ b4 = b8; omega)
  have qb3 : St19 w3 b 60 s := h.old B3
  have RF := pref19 b 60 s w1 (h.old c1.bl) hnx
  rw [hwr] at RF
  have SP := pstp19 hD b8 s za zc z w3 (ht.old B3) q83 hI (hz.old B3) (fun x off e hp => by have := hz.lt x off e hp; omega) hl (by omega) htk
  have HSP : Hid (Calls Tryz.prog 14 #[.pointer (some ⟨b8, 0, none⟩), .slice za z.length zc] w3 (SpQ19 D w3 b8 s z)) := SP
  have HW1 : Hid (w.alloc (.cells #[.int .i64 0, .int .i64 0, .int .i64 0, .int .u32 0, .int .u32 0, .int .i64 0, .int .i64 0, .int .i64 0, .int .i64 0, .int .i64 0, .int .i64 0, .int .i64 0, .int .i64 0, .int .i64 0, .int .i64 0, .slice none 0 0] 39) = w1 ∧ w.heap.size = b4) := ⟨hw1.symm, hb4.symm⟩
  have HW2 : Hid (w1.alloc (.cells #[.int .u32 0, .int .u64 0, .int .i64 0, .int .i64 0, .int .i64 0, .int .i64 0, .int .i64 0, .int .i64 0, .int .i64 0, .int .i64 0, .int .i64 0, .int .i64 0, .int .i64 0, .int .i64 0, .int .u32 0, .int .u32 0, .int .i64 0, .int .i64 0, .int .i64 0, .int .i64 0, .int .i64 0, .int .i64 0, .int .i64 0, .int .i64 0] 58) = w2 ∧ w1.heap.size = b8) := ⟨hw2.symm, hb8.symm⟩
  have HW3 : Hid (w2.setRow b8 s.cs = w3) := hw3.symm
  have HQ82 : Hid (w2.heap[b8]? = some (.cells #[.int .u32 0, .int .u64 0, .int .i64 0, .int .i64 0, .int .i64 0, .int .i64 0, .int .i64 0, .int .i64 0, .int .i64 0, .int .i64 0, .int .i64 0, .int .i64 0, .int .i64 0, .int .i64 0, .int .u32 0, .int .u32 0, .int .i64 0, .int .i64 0, .int .i64 0, .int .i64 0, .int .i64 0, .int .i64 0, .int .i64 0, .int .i64 0] 58 (0, 0))) := q82
  have hb1 := h.old c1.bl
  have HB1 : Hid (w1.heap[b]? = some (.cells s.cs 60 (0, 0))) := hb1
  have d0 := hb1.c0
  have HNE : Hid (b < b4 ∧ b4 + 1 = b8 ∧ w3.heap.size = b8 + 1 ∧ w.heap.size = b4) := ⟨by omega, by omega, by rw [hw3]; simp [World.setRow]; omega, hb4.symm⟩
  have HQ3 : Hid (St19 w3 b 60 s ∧ w3.heap[b4]? = some (.cells #[.int .i64 0, .int .i64 0, .int .i64 0, .int .u32 0, .int .u32 0, .int .i64 0, .int .i64 0, .int .i64 0, .int .i64 0, .int .i64 0, .int .i64 0, .int .i64 0, .int .i64 0, .int .i64 0, .int .i64 0, .slice none 0 0] 39 (0, 0)) ∧ Below w.heap.size w w3) := ⟨qb3, q43, B3⟩
  have HOK : Hid ((run19 D s e019 0 z).1 ≠ 0) := hok
  clear SP hw1 hw2 hw3 hb4 hb8 c1 c2 s1 s2 hbw k3 B2 K3 B3 q82 q83 q41 q43 qb3 hD hI hz hzb hl hb0 htk hnx hwr hok h ht hb1
  go_enter Tryz.func7, Tryz.ntmps7
  go_wp2_with fail
  rw [HW1.out.1, HW1.out.2]
  refine RF.mono ?_
  rintro e w' ⟨rfl, hw'⟩
  subst w'
  clear RF
  go_wp2_with (first
    | (refine wpList_load_row rfl 58 (.tmp 20) rfl b rfl _ _ _ _ HB1.out Tryz.underlying58 rfl info_st19 ?_)
    | (rw [HW2.out.1, HW2.out.2]; refine wpList_store_row rfl 58 (.tmp 8) (.tmp 21) rfl b8 s.cs rfl rfl _ _ HQ82.out info_st19 rfl (cs_all19 s) ?_; rw [HW3.out]))
  refine HSP.out.mono ?_
  rintro en w4 (⟨hx, rfl, k4⟩ | ⟨hx, -⟩)
  rotate_left
  · exact absurd hx HOK.out
  obtain ⟨er, hr⟩ : ∃ r, r = (run19 D s e019 0 z).1 := ⟨_, rfl⟩
  rw [← hr] at hx
  rw [← hr]
  have HRE : Hid (er = (run19 D s e019 0 z).1) := hr
  have hxb : (er != 0) = true := by simp [hx]
  clear hr HOK hx
  have ne := HNE.out
  obtain ⟨b9, hb9⟩ : ∃ b9, b9 = w4.heap.size := ⟨_, rfl⟩
  obtain ⟨w5, hw5⟩ : ∃ w5, w5 = w4.alloc (.cells #[.int .i64 0, .int .i64 0, .int .i64 0, .int .u32 0, .int .u32 0, .int .i64 0, .int .i64 0, .int .i64 0, .int .i64 0, .int .i64 0, .int .i64 0, .int .i64 0, .int .i64 0, .int .i64 0, .int .i64 0, .slice none 0 0] 39) := ⟨_, rfl⟩
  have c5 := cb16 w4 #[.int .i64 0, .int .i64 0, .int .i64 0, .int .u32 0, .int .u32 0, .int .i64 0, .int .i64 0, .int .i64 0, .int .i64 0, .int .i64 0, .int .i64 0, .int .i64 0, .int .i64 0, .int .i64 0, .int .i64 0, .slice none 0 0] 39
  rw [← hw5] at c5
  have q95 : w5.heap[b9]? = some (.cells #[.int .i64 0, .int .i64 0, .int .i64 0, .int .u32 0, .int .u32 0, .int .i64 0, .int .i64 0, .int .i64 0, .int .i64 0, .int .i64 0, .int .i64 0, .int .i64 0, .int .i64 0, .int .i64 0, .int .i64 0, .slice none 0 0] 39 (0, 0)) := by rw [hb9]; exact c5.cl
  obtain ⟨w6, hw6⟩ : ∃ w6, w6 = w5.setRow b9 #[.int .i64 0, .int .i64 0, .int .i64 0, .int .u32 0, .int .u32 0, .int .i64 0, .int .i64 0, .int .i64 0, .int .i64 0, .int .i64 0, .int .i64 0, .int .i64 0, .int .i64 0, .int .i64 0, .int .i64 0, .slice none 0 0] := ⟨_, rfl⟩
  obtain ⟨w7, hw7⟩ : ∃ w7, w7 = w6.setCell ⟨b, 23, none⟩ (.int .i64 er) := ⟨_, rfl⟩
  obtain ⟨w8, hw8⟩ : ∃ w8, w8 = w7.setRow b4 #[.int .i64 0, .int .i64 0, .int .i64 0, .int .u32 0, .int .u32 0, .int .i64 0, .int .i64 0, .int .i64 0, .int .i64 0, .int .i64 0, .int .i64 0, .int .i64 0, .int .i64 0, .int .i64 0, .int .i64 0, .slice none 0 0] := ⟨_, rfl⟩
  have s4 := k4.size
  have s5 := c5.sz
  have k6 : Kp (fun k => k = b9) w5 w6 := by rw [hw6]; exact grow19 _ _ _
  have k7 : Kp (fun k => k = b) w6 w7 := by rw [hw7]; exact kp1_19 _
  have k8 : Kp (fun k => k = b4) w7 w8 := by rw [hw8]; exact grow19 _ _ _
  have qb4 : St19 w4 b 60 s := HQ3.out.1.kp k4 (by show ¬ b = b8; omega)
  have qb6 : St19 w6 b 60 s := (qb4.old c5.bl).kp k6 (by show ¬ b = b9; omega)
  have q46 : w6.heap[b4]? = some (.cells #[.int .i64 0, .int .i64 0, .int .i64 0, .int .u32 0, .int .u32 0, .int .i64 0, .int .i64 0, .int .i64 0, .int .i64 0, .int .i64 0, .int .i64 0, .int .i64 0, .int .i64 0, .int .i64 0, .int .i64 0, .slice none 0 0] 39 (0, 0)) := k6.heap ((c5.bl.block _ (by omega)).trans (k4.heap HQ3.out.2.1 (by show ¬ b4 = b8; omega))) (by show ¬ b4 = b9; omega)
  have q47 : w7.heap[b4]? = some (.cells #[.int .i64 0, .int .i64 0, .int .i64 0, .int .u32 0, .int .u32 0, .int .i64 0, .int .i64 0, .int .i64 0, .int .i64 0, .int .i64 0, .int .i64 0, .int .i64 0, .int .i64 0, .int .i64 0, .int .i64 0, .slice none 0 0] 39 (0, 0)) := k7.heap q46 (by show ¬ b4 = b; omega)
  have q48 : w8.heap[b4]? = some (.cells #[.int .i64 0, .int .i64 0, .int .i64 0, .int .u32 0, .int .u32 0, .int .i64 0, .int .i64 0, .int .i64 0, .int .i64 0, .int .i64 0, .int .i64 0, .int .i64 0, .int .i64 0, .int .i64 0, .int .i64 0, .slice none 0 0] 39 (0, 0)) := by rw [hw8]; exact setRow_heap w7 b4 _ _ _ _ q47
  have qb7 : St19 w7 b 60 { s with wr := er } := by rw [hw7]; exact qb6.set (s' := { s with wr := er }) rfl
  have qb8 : St19 w8 b 60 { s with wr := er } := qb7.kp k8 (by show ¬ b = b4; omega)
  have HQS : Hid (w5.heap[b9]? = some (.cells #[.int .i64 0, .int .i64 0, .int .i64 0, .int .u32 0, .int .u32 0, .int .i64 0, .int .i64 0, .int .i64 0, .int .i64 0, .int .i64 0, .int .i64 0, .int .i64 0, .int .i64 0, .int .i64 0, .int .i64 0, .slice none 0 0] 39 (0, 0)) ∧ w7.heap[b4]? = some (.cells #[.int .i64 0, .int .i64 0, .int .i64 0, .int .u32 0, .int .u32 0, .int .i64 0, .int .i64 0, .int .i64 0, .int .i64 0, .int .i64 0, .int .i64 0, .int .i64 0, .int .i64 0, .int .i64 0, .int .i64 0, .slice none 0 0] 39 (0, 0)) ∧ w8.heap[b4]? = some (.cells #[.int .i64 0, .int .i64 0, .int .i64 0, .int .u32 0, .int .u32 0, .int .i64 0, .int .i64 0, .int .i64 0, .int .i64 0, .int .i64 0, .int .i64 0, .int .i64 0, .int .i64 0, .int .i64 0, .int .i64 0, .slice none 0 0] 39 (0, 0))) := ⟨q95, q47, q48⟩
  have HP : Hid (St19 w8 b 60 { s with wr := er } ∧ Kp (fun k => k = b) w w8) := by
    refine ⟨qb8, ?_⟩
    have j4 : Kp (fun k => k = b ∨ b4 ≤ k) w w4 := (Kp.of_below (S := fun k => k = b ∨ b4 ≤ k) HQ3.out.2.2).trans k4 (fun k _ x => by have x : k = b8 := x; omega)
    have j5 : Kp (fun k => k = b ∨ b4 ≤ k) w w5 := j4.trans (Kp.of_below (S := fun _ => False) c5.bl) (fun _ _ x => x.elim)
    have j6 := j5.trans k6 (fun k _ x => by have x : k = b9 := x; omega)
    have j7 := j6.trans k7 (fun k _ x => .inl x)
    have j8 := j7.trans k8 (fun k _ x => by have x : k = b4 := x; omega)
    exact j8.mono (fun k hk x => by omega)
  have g0 := qb6.c0
  have g23 := qb6.c23
  have f23 := qb6.f 23
  have HW5 : Hid (w4.alloc (.cells #[.int .i64 0, .int .i64 0, .int .i64 0, .int .u32 0, .int .u32 0, .int .i64 0, .int .i64 0, .int .i64 0, .int .i64 0, .int .i64 0, .int .i64 0, .int .i64 0, .int .i64 0, .int .i64 0, .int .i64 0, .slice none 0 0] 39) = w5 ∧ w4.heap.size = b9) := ⟨hw5.symm, hb9.symm⟩
  have HW6 : Hid (w5.setRow b9 #[.int .i64 0, .int .i64 0, .int .i64 0, .int .u32 0, .int .u32 0, .int .i64 0, .int .i64 0, .int .i64 0, .int .i64 0, .int .i64 0, .int .i64 0, .int .i64 0, .int .i64 0, .int .i64 0, .int .i64 0, .slice none 0 0] = w6) := hw6.symm
  have HW7 : Hid (w6.setCell ⟨b, 23, none⟩ (.int .i64 er) = w7) := hw7.symm
  have HW8 : Hid (w7.setRow b4 #[.int .i64 0, .int .i64 0, .int .i64 0, .int .u32 0, .int .u32 0, .int .i64 0, .int .i64 0, .int .i64 0, .int .i64 0, .int .i64 0, .int .i64 0, .int .i64 0, .int .i64 0, .int .i64 0, .int .i64 0, .slice none 0 0] = w8) := hw8.symm
  clear hw5 hw6 hw7 hw8 hb9 c5 q95 s4 s5 k6 k7 k8 qb4 qb6 q46 q47 q48 qb7 qb8 k4 ne d0
  go_wp2_with (first
    | (rw [HW5.out.1, HW5.out.2]; refine wpList_store_row rfl 39 (.tmp 9) (.tmp 25) rfl b9 #[.int .i64 0, .int .i64 0, .int .i64 0, .int .u32 0, .int .u32 0, .int .i64 0, .int .i64 0, .int .i64 0, .int .i64 0, .int .i64 0, .int .i64 0, .int .i64 0, .int .i64 0, .int .i64 0, .int .i64 0, .slice none 0 0] rfl rfl _ _ HQS.out.1 info_ev19 rfl evc_z19 ?_; rw [HW6.out])
    | (rw [HW7.out]; refine wpList_store_row rfl 39 (.tmp 4) (.tmp 35) rfl b4 #[.int .i64 0, .int .i64 0, .int .i64 0, .int .u32 0, .int .u32 0, .int .i64 0, .int .i64 0, .int .i64 0, .int .i64 0, .int .i64 0, .int .i64 0, .int .i64 0, .int .i64 0, .int .i64 0, .int .i64 0, .slice none 0 0] rfl rfl _ _ HQS.out.2.1 info_ev19 rfl evc_z19 ?_; rw [HW8.out]))
  refine bodyPost_ret (v := .tuple #[.agg #[.int .i64 0, .int .i64 0, .int .i64 0, .int .u32 0, .int .u32 0, .int .i64 0, .int .i64 0, .int .i64 0, .int .i64 0, .int .i64 0, .int .i64 0, .int .i64 0, .int .i64 0, .int .i64 0, .int .i64 0, .slice none 0 0], .int .i64 0, .int .i64 er]) (results_ctt19 (fn := Tryz.f7) (p := 4) (u := 5) (v := 6) (ty := 39) rfl _ _ b4 _ _ _ _ rfl HQS.out.2.2 Tryz.underlying39 rfl info_ev19) rfl ?_
  rw [← HRE.out]
  exact ⟨rfl, HP.out.1, HP.out.2⟩
end Go.Proofs.YtpodakndckflgaaGreatDoor
