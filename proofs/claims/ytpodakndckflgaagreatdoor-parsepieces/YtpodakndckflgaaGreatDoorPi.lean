import Derived.Test.YtpodakndckflgaaGreatDoorPh
namespace Go.Proofs.YtpodakndckflgaaGreatDoor
open Go.RowKit Go.Shelf
set_option linter.unusedVariables false
set_option linter.unusedSimpArgs false
structure E19 where
  kd : Int
  hd : Hd18
  ps : Int
  r0 : Int
  r1 : Int
  r2 : Int
  p0 : Int
  p1 : Int
  p2 : Int
  st : Int
  bs : List Int
def E19.cs (e : E19) (p : Option Addr) (c : Nat) : Array Value := #[.int .i64 (e.kd), .int .i64 (e.hd.o), .int .i64 (e.hd.n), .int .u32 (e.hd.so), .int .u32 (e.hd.sn), .int .i64 (e.hd.wi), .int .i64 (e.hd.lo), .int .i64 (e.ps), .int .i64 (e.r0), .int .i64 (e.r1), .int .i64 (e.r2), .int .i64 (e.p0), .int .i64 (e.p1), .int .i64 (e.p2), .int .i64 (e.st), .slice p e.bs.length c]
def e019 : E19 := ⟨0, ⟨0, 0, 0, 0, 0, 0⟩, 0, 0, 0, 0, 0, 0, 0, 0, []⟩
/-- An event lies in this block, its bytes in a row of its own at or above base. -/
def Ev19 (V : World) (bt base : Nat) (e : E19) : Prop := ∃ p c, V.heap[bt]? = some (.cells (e.cs p c) 39 (0, 0)) ∧ V.ownsRow base 5 1 (.slice p e.bs.length c) e.bs.length (e.bs.map (Value.int .u8))
theorem Ev19.old {V V' : World} {bt base : Nat} {e : E19} (h : Ev19 V bt base e) (hb : Below V.heap.size V V') : Ev19 V' bt base e := by
  obtain ⟨p, c, q, o⟩ := h
  exact ⟨p, c, (hb.block _ (Array.getElem?_eq_some_iff.1 q).1).trans q, own_kp o (Kp.of_below (S := fun _ => False) hb) (fun _ _ x => x)⟩
theorem Ev19.kp {V V' : World} {bt base b : Nat} {e : E19} (h : Ev19 V bt base e) (hk : Kp (fun k => k = b) V V') (hn : bt ≠ b) (hb : b < base) : Ev19 V' bt base e := by
  obtain ⟨p, c, q, o⟩ := h
  exact ⟨p, c, hk.heap q hn, own_kp o hk (fun k hk x => by have := (o.lt k hk).1; have x : k = b := x; omega)⟩
theorem Ev19.drew {V : World} {bt base : Nat} {e : E19} (h : Ev19 V bt base e) : Ev19 V.drew bt base e := h.old ((Below.refl _ _).drew)
/-- An event's cells written over. -/
def pt19 (V : World) (bt : Nat) (e : E19) : World := ((((((((((((((((V.setCell ⟨bt, 0, none⟩ (.int .i64 (e.kd))).setCell ⟨bt, 1, none⟩ (.int .i64 (e.hd.o))).setCell ⟨bt, 2, none⟩ (.int .i64 (e.hd.n))).setCell ⟨bt, 3, none⟩ (.int .u32 (e.hd.so))).setCell ⟨bt, 4, none⟩ (.int .u32 (e.hd.sn))).setCell ⟨bt, 5, none⟩ (.int .i64 (e.hd.wi))).setCell ⟨bt, 6, none⟩ (.int .i64 (e.hd.lo))).setCell ⟨bt, 7, none⟩ (.int .i64 (e.ps))).setCell ⟨bt, 8, none⟩ (.int .i64 (e.r0))).setCell ⟨bt, 9, none⟩ (.int .i64 (e.r1))).setCell ⟨bt, 10, none⟩ (.int .i64 (e.r2))).setCell ⟨bt, 11, none⟩ (.int .i64 (e.p0))).setCell ⟨bt, 12, none⟩ (.int .i64 (e.p1))).setCell ⟨bt, 13, none⟩ (.int .i64 (e.p2))).setCell ⟨bt, 14, none⟩ (.int .i64 (e.st))).setCell ⟨bt, 15, none⟩ (.slice none 0 0))
theorem pt19_q {V : World} {bt : Nat} {G : E19} {p : Option Addr} {c : Nat} {e : E19} (he : e.bs = []) (h : V.heap[bt]? = some (.cells (G.cs p c) 39 (0, 0))) : (pt19 V bt e).heap[bt]? = some (.cells (e.cs none 0) 39 (0, 0)) := by
  unfold pt19 E19.cs at *
  simp [World.setCell, Array.getElem?_modify, h, he]
theorem pt19_k (V : World) (bt : Nat) (e : E19) : Kp (fun k => k = bt) V (pt19 V bt e) := by
  unfold pt19
  exact kpt_19 (kpt_19 (kpt_19 (kpt_19 (kpt_19 (kpt_19 (kpt_19 (kpt_19 (kpt_19 (kpt_19 (kpt_19 (kpt_19 (kpt_19 (kpt_19 (kpt_19 (kp1_19 _) (kp1_19 _)) (kp1_19 _)) (kp1_19 _)) (kp1_19 _)) (kp1_19 _)) (kp1_19 _)) (kp1_19 _)) (kp1_19 _)) (kp1_19 _)) (kp1_19 _)) (kp1_19 _)) (kp1_19 _)) (kp1_19 _)) (kp1_19 _)) (kp1_19 _)
theorem pt19_ev {V : World} {bt base : Nat} {G : E19} {p : Option Addr} {c : Nat} {e : E19} (he : e.bs = []) (h : V.heap[bt]? = some (.cells (G.cs p c) 39 (0, 0))) : Ev19 (pt19 V bt e) bt base e :=
  ⟨none, 0, pt19_q he h, by rw [he]; exact World.ownsRow_nil _ _ _ _⟩
open Classical in
/-- headSum: is it whole, the error, the state, what is told. -/
noncomputable def hs19 (s : R19) (e : E19) : Bool × Int × R19 × E19 :=
  if (wd19 s).1 = true then (if s.hd.Ok then (true, 0, { s with cn := (s.cn + 1) % 4, nx := go19 s }, { e019 with kd := 1, hd := s.hd }) else (false, 190, { s with cn := (s.cn + 1) % 4 }, e)) else (false, (wd19 s).2, { s with cn := (s.cn + 1) % 4 }, e)
def K2 (b bt : Nat) (w w' : World) : Prop := Kp (fun k => k = b ∨ k = bt) w w'
theorem K2.a {b bt : Nat} {w w' : World} (h : Kp (fun k => k = b) w w') : K2 b bt w w' := h.mono (fun _ _ x => .inl x)
theorem K2.b {b bt : Nat} {w w' : World} (h : Kp (fun k => k = bt) w w') : K2 b bt w w' := h.mono (fun _ _ x => .inr x)
theorem K2.bl {b bt : Nat} {w w' : World} (h : Below w.heap.size w w') : K2 b bt w w' := Kp.of_below h
theorem K2.tr {b bt : Nat} {u v w : World} (h : K2 b bt u v) (k : K2 b bt v w) : K2 b bt u w := Kp.trans h k (fun _ _ x => x)
theorem wd19_ok {s : R19} (h : (wd19 s).1 = true) : (wd19 s).2 = 0 := by
  unfold wd19 at *
  split at h
  · split at h
    · rename_i h1 h2; rw [if_pos h1, if_pos h2]
    · cases h
  · cases h
set_option maxRecDepth 100000 in
set_option maxHeartbeats 8000000 in
theorem phsm19 (b bt base : Nat) (t : TypeId) (s : R19) (e : E19) (v : Value) (w : World) (h : St19 w b t s) (hE : Ev19 w bt base e) (hne : bt ≠ b) (hbb : b < base) (hc : 0 ≤ s.cn ∧ s.cn ≤ 1000) :
    Calls Tryz.prog 23 #[.pointer (some ⟨b, 0, none⟩), v, .pointer (some ⟨bt, 0, none⟩)] w fun en w' => en = .returned (.tuple #[.bool (hs19 s e).1, .int .i64 (hs19 s e).2.1]) ∧ St19 w' b t (hs19 s e).2.2.1 ∧ Ev19 w' bt base (hs19 s e).2.2.2 ∧ K2 b bt w w' := by
  have WD := pword19 b t s w h hc
  have HN : Hid (bt ≠ b ∧ b < base) := ⟨hne, hbb⟩
  have HE : Hid (Ev19 w bt base e) := hE
  clear h hE hne hbb hc
  by_cases hw : (wd19 s).1 = true
  rotate_left
  · have HS : Hid (hs19 s e = (false, (wd19 s).2, { s with cn := (s.cn + 1) % 4 }, e)) := by show _ = _; unfold hs19; rw [if_neg hw]
    have hwf : (wd19 s).1 = false := by simpa using hw
    rw [hwf] at WD
    generalize (wd19 s).2 = er at *
    clear hw hwf
    go_enter Tryz.func23, Tryz.ntmps23
    go_wp2_with fail
    refine WD.mono ?_
    rintro e1 w1 ⟨rfl, q1, k1⟩
    have HQ : Hid (St19 w1 b t { s with cn := (s.cn + 1) % 4 } ∧ Ev19 w1 bt base e ∧ K2 b bt w w1) := ⟨q1, HE.out.kp k1 HN.out.1 HN.out.2, K2.a k1⟩
    clear WD q1 k1
    go_wp2
    go_ret2
    rw [HS.out]
    exact ⟨rfl, HQ.out.1, HQ.out.2.1, HQ.out.2.2⟩
  rw [hw, wd19_ok hw] at WD
  by_cases hk : s.hd.Ok
  rotate_left
  · have HS : Hid (hs19 s e = (false, 190, { s with cn := (s.cn + 1) % 4 }, e)) := by show _ = _; unfold hs19; rw [if_pos hw, if_neg hk]
    have CK : Hid (∀ V, Calls Tryz.prog 36 #[.agg #[.int .i64 s.hd.o, .int .i64 s.hd.n, .int .u32 s.hd.so, .int .u32 s.hd.sn, .int .i64 s.hd.wi, .int .i64 s.hd.lo]] V fun e w' => e = .returned (.int .i64 180) ∧ Below V.heap.size V w') := fun V => by
      have := pchk18 s.hd V
      rw [if_neg hk] at this
      exact this
    clear hw hk
    go_enter Tryz.func23, Tryz.ntmps23
    go_wp2_with fail
    refine WD.mono ?_
    rintro e1 w1 ⟨rfl, q1, k1⟩
    have d0 := q1.c0
    have d12 := q1.c12
    have d13 := q1.c13
    have d14 := q1.c14
    have d15 := q1.c15
    have d16 := q1.c16
    have d17 := q1.c17
    have HQ : Hid (∀ V, Below w1.heap.size w1 V → St19 V b t { s with cn := (s.cn + 1) % 4 } ∧ Ev19 V bt base e ∧ K2 b bt w V) := fun V hV => ⟨q1.old hV, (HE.out.kp k1 HN.out.1 HN.out.2).old hV, (K2.a k1).tr (K2.bl hV)⟩
    clear WD q1 k1
    go_wp2_with fail
    refine (CK.out w1).mono ?_
    rintro e2 w2 ⟨rfl, b2⟩
    have HR := HQ.out w2 b2
    have HR : Hid (St19 w2 b t { s with cn := (s.cn + 1) % 4 } ∧ Ev19 w2 bt base e ∧ K2 b bt w w2) := HR
    clear b2
    go_wp2
    go_ret2
    rw [HS.out]
    exact ⟨rfl, HR.out.1, HR.out.2.1, HR.out.2.2⟩
  have HS : Hid (hs19 s e = (true, 0, { s with cn := (s.cn + 1) % 4, nx := go19 s }, { e019 with kd := 1, hd := s.hd })) := by show _ = _; unfold hs19; rw [if_pos hw, if_pos hk]
  have CK : Hid (∀ V, Calls Tryz.prog 36 #[.agg #[.int .i64 s.hd.o, .int .i64 s.hd.n, .int .u32 s.hd.so, .int .u32 s.hd.sn, .int .i64 s.hd.wi, .int .i64 s.hd.lo]] V fun e w' => e = .returned (.int .i64 0) ∧ Below V.heap.size V w') := fun V => by
    have := pchk18 s.hd V
    rw [if_pos hk] at this
    exact this
  clear hw hk
  go_enter Tryz.func23, Tryz.ntmps23
  go_wp2_with fail
  refine WD.mono ?_
  rintro e1 w1 ⟨rfl, q1, k1⟩
  have d0 := q1.c0
  have d12 := q1.c12
  have d13 := q1.c13
  have d14 := q1.c14
  have d15 := q1.c15
  have d16 := q1.c16
  have d17 := q1.c17
  have HQ : Hid (∀ V, Below w1.heap.size w1 V → St19 V b t { s with cn := (s.cn + 1) % 4 } ∧ Ev19 V bt base e ∧ K2 b bt w V) := fun V hV => ⟨q1.old hV, (HE.out.kp k1 HN.out.1 HN.out.2).old hV, (K2.a k1).tr (K2.bl hV)⟩
  clear WD q1 k1
  go_wp2_with fail
  refine (CK.out w1).mono ?_
  rintro e2 w2 ⟨rfl, b2⟩
  obtain ⟨q2, ⟨p, c, qe, oe⟩, k2⟩ := HQ.out w2 b2
  clear b2 d0 d12 d13 d14 d15 d16 d17
  have d0 := q2.c0
  have d12 := q2.c12
  have d13 := q2.c13
  have d14 := q2.c14
  have d15 := q2.c15
  have d16 := q2.c16
  have d17 := q2.c17
  have m0 : w2.cell? ⟨bt, 0, none⟩ = some (.int .i64 (e.kd)) := cell18 qe rfl
  have m1 : w2.cell? ⟨bt, 1, none⟩ = some (.int .i64 (e.hd.o)) := cell18 qe rfl
  have m2 : w2.cell? ⟨bt, 2, none⟩ = some (.int .i64 (e.hd.n)) := cell18 qe rfl
  have m3 : w2.cell? ⟨bt, 3, none⟩ = some (.int .u32 (e.hd.so)) := cell18 qe rfl
  have m4 : w2.cell? ⟨bt, 4, none⟩ = some (.int .u32 (e.hd.sn)) := cell18 qe rfl
  have m5 : w2.cell? ⟨bt, 5, none⟩ = some (.int .i64 (e.hd.wi)) := cell18 qe rfl
  have m6 : w2.cell? ⟨bt, 6, none⟩ = some (.int .i64 (e.hd.lo)) := cell18 qe rfl
  have m7 : w2.cell? ⟨bt, 7, none⟩ = some (.int .i64 (e.ps)) := cell18 qe rfl
  have m8 : w2.cell? ⟨bt, 8, none⟩ = some (.int .i64 (e.r0)) := cell18 qe rfl
  have m9 : w2.cell? ⟨bt, 9, none⟩ = some (.int .i64 (e.r1)) := cell18 qe rfl
  have m10 : w2.cell? ⟨bt, 10, none⟩ = some (.int .i64 (e.r2)) := cell18 qe rfl
  have m11 : w2.cell? ⟨bt, 11, none⟩ = some (.int .i64 (e.p0)) := cell18 qe rfl
  have m12 : w2.cell? ⟨bt, 12, none⟩ = some (.int .i64 (e.p1)) := cell18 qe rfl
  have m13 : w2.cell? ⟨bt, 13, none⟩ = some (.int .i64 (e.p2)) := cell18 qe rfl
  have m14 : w2.cell? ⟨bt, 14, none⟩ = some (.int .i64 (e.st)) := cell18 qe rfl
  have m15 : w2.cell? ⟨bt, 15, none⟩ = some (.slice p e.bs.length c) := cell18 qe rfl
  have mf : ∀ j, w2.frozen? ⟨bt, j, none⟩ = false := fun j => by simp [World.frozen?, qe]
  have mf0 := mf 0
  have mf1 := mf 1
  have mf2 := mf 2
  have mf3 := mf 3
  have mf4 := mf 4
  have mf5 := mf 5
  have mf6 := mf 6
  have mf7 := mf 7
  have mf8 := mf 8
  have mf9 := mf 9
  have mf10 := mf 10
  have mf11 := mf 11
  have mf12 := mf 12
  have mf13 := mf 13
  have mf14 := mf 14
  have mf15 := mf 15
  obtain ⟨w3, hw3⟩ : ∃ w3, w3 = pt19 w2 bt { e019 with kd := 1, hd := s.hd } := ⟨_, rfl⟩
  have q3 : St19 w3 b t { s with cn := (s.cn + 1) % 4 } := by rw [hw3]; exact q2.kp (pt19_k _ _ _) (fun x => HN.out.1 (by have x : b = bt := x; exact x.symm))
  have v3 : Ev19 w3 bt base { e019 with kd := 1, hd := s.hd } := by rw [hw3]; exact pt19_ev rfl qe
  have k3 : K2 b bt w w3 := by rw [hw3]; exact k2.tr (K2.b (pt19_k _ _ _))
  have GO := pgo19 b t _ w3 q3
  have HV3 : Hid (Ev19 w3 bt base { e019 with kd := 1, hd := s.hd } ∧ K2 b bt w w3) := ⟨v3, k3⟩
  have HW3 : Hid (((((((((((((((((w2.setCell ⟨bt, 0, none⟩ (.int .i64 (1))).setCell ⟨bt, 1, none⟩ (.int .i64 (s.hd.o))).setCell ⟨bt, 2, none⟩ (.int .i64 (s.hd.n))).setCell ⟨bt, 3, none⟩ (.int .u32 (s.hd.so))).setCell ⟨bt, 4, none⟩ (.int .u32 (s.hd.sn))).setCell ⟨bt, 5, none⟩ (.int .i64 (s.hd.wi))).setCell ⟨bt, 6, none⟩ (.int .i64 (s.hd.lo))).setCell ⟨bt, 7, none⟩ (.int .i64 (0))).setCell ⟨bt, 8, none⟩ (.int .i64 (0))).setCell ⟨bt, 9, none⟩ (.int .i64 (0))).setCell ⟨bt, 10, none⟩ (.int .i64 (0))).setCell ⟨bt, 11, none⟩ (.int .i64 (0))).setCell ⟨bt, 12, none⟩ (.int .i64 (0))).setCell ⟨bt, 13, none⟩ (.int .i64 (0))).setCell ⟨bt, 14, none⟩ (.int .i64 (0))).setCell ⟨bt, 15, none⟩ (.slice none 0 0)) = w3) := by show _ = _; rw [hw3]; rfl
  clear q2 qe oe k2 q3 v3 k3 hw3 mf
  go_wp2_with fail
  rw [HW3.out]
  refine GO.mono ?_
  rintro e4 w4 ⟨rfl, q4, k4⟩
  have HR : Hid (St19 w4 b t { s with cn := (s.cn + 1) % 4, nx := go19 s } ∧ Ev19 w4 bt base { e019 with kd := 1, hd := s.hd } ∧ K2 b bt w w4) := ⟨q4, HV3.out.1.kp k4 HN.out.1 HN.out.2, HV3.out.2.tr (K2.a k4)⟩
  clear GO q4 k4
  go_wp2
  go_ret2
  rw [HS.out]
  exact ⟨rfl, HR.out.1, HR.out.2.1, HR.out.2.2⟩
/-- endSum. -/
def es19 (s : R19) (e : E19) : Bool × Int × R19 × E19 :=
  if (wd19 s).1 = true then (true, 0, { s with cn := (s.cn + 1) % 4, nx := 8 }, { e019 with kd := 4 }) else (false, (wd19 s).2, { s with cn := (s.cn + 1) % 4 }, e)
set_option maxRecDepth 100000 in
set_option maxHeartbeats 8000000 in
theorem pesm19 (b bt base : Nat) (t : TypeId) (s : R19) (e : E19) (v : Value) (w : World) (h : St19 w b t s) (hE : Ev19 w bt base e) (hne : bt ≠ b) (hbb : b < base) (hc : 0 ≤ s.cn ∧ s.cn ≤ 1000) :
    Calls Tryz.prog 26 #[.pointer (some ⟨b, 0, none⟩), v, .pointer (some ⟨bt, 0, none⟩)] w fun en w' => en = .returned (.tuple #[.bool (es19 s e).1, .int .i64 (es19 s e).2.1]) ∧ St19 w' b t (es19 s e).2.2.1 ∧ Ev19 w' bt base (es19 s e).2.2.2 ∧ K2 b bt w w' := by
  have WD := pword19 b t s w h hc
  have HN : Hid (bt ≠ b ∧ b < base) := ⟨hne, hbb⟩
  have HE : Hid (Ev19 w bt base e) := hE
  clear h hE hne hbb hc
  by_cases hw : (wd19 s).1 = true
  rotate_left
  · have HS : Hid (es19 s e = (false, (wd19 s).2, { s with cn := (s.cn + 1) % 4 }, e)) := by show _ = _; unfold es19; rw [if_neg hw]
    have hwf : (wd19 s).1 = false := by simpa using hw
    rw [hwf] at WD
    generalize (wd19 s).2 = er at *
    clear hw hwf
    go_enter Tryz.func26, Tryz.ntmps26
    go_wp2_with fail
    refine WD.mono ?_
    rintro e1 w1 ⟨rfl, q1, k1⟩
    have HQ : Hid (St19 w1 b t { s with cn := (s.cn + 1) % 4 } ∧ Ev19 w1 bt base e ∧ K2 b bt w w1) := ⟨q1, HE.out.kp k1 HN.out.1 HN.out.2, K2.a k1⟩
    clear WD q1 k1
    go_wp2
    go_ret2
    rw [HS.out]
    exact ⟨rfl, HQ.out.1, HQ.out.2.1, HQ.out.2.2⟩
  rw [hw, wd19_ok hw] at WD
  have HS : Hid (es19 s e = (true, 0, { s with cn := (s.cn + 1) % 4, nx := 8 }, { e019 with kd := 4 })) := by show _ = _; unfold es19; rw [if_pos hw]
  clear hw
  go_enter Tryz.func26, Tryz.ntmps26
  go_wp2_with fail
  refine WD.mono ?_
  rintro e1 w2 ⟨rfl, q2, k1⟩
  obtain ⟨p, c, qe, oe⟩ := HE.out.kp k1 HN.out.1 HN.out.2
  have m0 : w2.cell? ⟨bt, 0, none⟩ = some (.int .i64 (e.kd)) := cell18 qe rfl
  have m1 : w2.cell? ⟨bt, 1, none⟩ = some (.int .i64 (e.hd.o)) := cell18 qe rfl
  have m2 : w2.cell? ⟨bt, 2, none⟩ = some (.int .i64 (e.hd.n)) := cell18 qe rfl
  have m3 : w2.cell? ⟨bt, 3, none⟩ = some (.int .u32 (e.hd.so)) := cell18 qe rfl
  have m4 : w2.cell? ⟨bt, 4, none⟩ = some (.int .u32 (e.hd.sn)) := cell18 qe rfl
  have m5 : w2.cell? ⟨bt, 5, none⟩ = some (.int .i64 (e.hd.wi)) := cell18 qe rfl
  have m6 : w2.cell? ⟨bt, 6, none⟩ = some (.int .i64 (e.hd.lo)) := cell18 qe rfl
  have m7 : w2.cell? ⟨bt, 7, none⟩ = some (.int .i64 (e.ps)) := cell18 qe rfl
  have m8 : w2.cell? ⟨bt, 8, none⟩ = some (.int .i64 (e.r0)) := cell18 qe rfl
  have m9 : w2.cell? ⟨bt, 9, none⟩ = some (.int .i64 (e.r1)) := cell18 qe rfl
  have m10 : w2.cell? ⟨bt, 10, none⟩ = some (.int .i64 (e.r2)) := cell18 qe rfl
  have m11 : w2.cell? ⟨bt, 11, none⟩ = some (.int .i64 (e.p0)) := cell18 qe rfl
  have m12 : w2.cell? ⟨bt, 12, none⟩ = some (.int .i64 (e.p1)) := cell18 qe rfl
  have m13 : w2.cell? ⟨bt, 13, none⟩ = some (.int .i64 (e.p2)) := cell18 qe rfl
  have m14 : w2.cell? ⟨bt, 14, none⟩ = some (.int .i64 (e.st)) := cell18 qe rfl
  have m15 : w2.cell? ⟨bt, 15, none⟩ = some (.slice p e.bs.length c) := cell18 qe rfl
  have mf : ∀ j, w2.frozen? ⟨bt, j, none⟩ = false := fun j => by simp [World.frozen?, qe]
  have mf0 := mf 0
  have mf1 := mf 1
  have mf2 := mf 2
  have mf3 := mf 3
  have mf4 := mf 4
  have mf5 := mf 5
  have mf6 := mf 6
  have mf7 := mf 7
  have mf8 := mf 8
  have mf9 := mf 9
  have mf10 := mf 10
  have mf11 := mf 11
  have mf12 := mf 12
  have mf13 := mf 13
  have mf14 := mf 14
  have mf15 := mf 15
  obtain ⟨w3, hw3⟩ : ∃ w3, w3 = pt19 w2 bt { e019 with kd := 4 } := ⟨_, rfl⟩
  have q3 : St19 w3 b t { s with cn := (s.cn + 1) % 4 } := by rw [hw3]; exact q2.kp (pt19_k _ _ _) (fun x => HN.out.1 (by have x : b = bt := x; exact x.symm))
  have v3 : Ev19 w3 bt base { e019 with kd := 4 } := by rw [hw3]; exact pt19_ev rfl qe
  have k3 : K2 b bt w w3 := by rw [hw3]; exact (K2.a k1).tr (K2.b (pt19_k _ _ _))
  have HW3 : Hid (((((((((((((((((w2.setCell ⟨bt, 0, none⟩ (.int .i64 (4))).setCell ⟨bt, 1, none⟩ (.int .i64 (0))).setCell ⟨bt, 2, none⟩ (.int .i64 (0))).setCell ⟨bt, 3, none⟩ (.int .u32 (0))).setCell ⟨bt, 4, none⟩ (.int .u32 (0))).setCell ⟨bt, 5, none⟩ (.int .i64 (0))).setCell ⟨bt, 6, none⟩ (.int .i64 (0))).setCell ⟨bt, 7, none⟩ (.int .i64 (0))).setCell ⟨bt, 8, none⟩ (.int .i64 (0))).setCell ⟨bt, 9, none⟩ (.int .i64 (0))).setCell ⟨bt, 10, none⟩ (.int .i64 (0))).setCell ⟨bt, 11, none⟩ (.int .i64 (0))).setCell ⟨bt, 12, none⟩ (.int .i64 (0))).setCell ⟨bt, 13, none⟩ (.int .i64 (0))).setCell ⟨bt, 14, none⟩ (.int .i64 (0))).setCell ⟨bt, 15, none⟩ (.slice none 0 0)) = w3) := by show _ = _; rw [hw3]; rfl
  have HR : Hid (St19 (w3.setCell ⟨b, 3, none⟩ (.int .i64 8)) b t { s with cn := (s.cn + 1) % 4, nx := 8 } ∧ Ev19 (w3.setCell ⟨b, 3, none⟩ (.int .i64 8)) bt base { e019 with kd := 4 } ∧ K2 b bt w (w3.setCell ⟨b, 3, none⟩ (.int .i64 8))) := ⟨q3.set (s' := { s with cn := (s.cn + 1) % 4, nx := 8 }) rfl, v3.kp (kp1_19 _) HN.out.1 HN.out.2, k3.tr (K2.a (kp1_19 _))⟩
  have g0 := q3.c0
  have g3 := q3.c3
  have gf := q3.f 3
  rw [← HW3.out] at g0 g3 gf
  clear WD q2 qe oe k1 q3 v3 k3 hw3 mf
  go_wp2
  (try rw [HW3.out])
  go_ret2
  rw [HS.out]
  exact ⟨rfl, HR.out.1, HR.out.2.1, HR.out.2.2⟩
end Go.Proofs.YtpodakndckflgaaGreatDoor
