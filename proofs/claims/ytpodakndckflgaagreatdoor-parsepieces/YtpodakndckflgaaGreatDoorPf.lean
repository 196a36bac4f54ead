import Derived.Test.YtpodakndckflgaaGreatDoorPe
import Derived.Test.YtpodakndckflgaaGreatDoorPa
import Derived.Laws.ResultCell
import Derived.Test.YtpodakndckflgaaGreatDoorPc
import Derived.Test.YtpodakndckflgaaGreatDoorPd
import Derived.Test.YtpodakndckflgaaGreatDoorProg
import Derived.WalkKit
import Derived.WalkSpells
import Derived.WalkLawsBesides
import Derived.Laws.BitsAllLaws
namespace Go.Proofs.YtpodakndckflgaaGreatDoor
open Go.RowKit Go.Shelf
set_option linter.unusedVariables false
set_option linter.unusedSimpArgs false
structure R19 where
  sm : W32
  tv : Int
  tc : Nat
  nx : Int
  cn : Int
  n0 : Int
  n1 : Int
  n2 : Int
  n3 : Int
  n4 : Int
  n5 : Int
  n6 : Int
  hd : Hd18
  wn : Int
  l0 : Int
  l1 : Int
  l2 : Int
  tk : Int
  wr : Int
def R19.cs (s : R19) : Array Value := #[.int .u32 (wI s.sm), .int .u64 (s.tv), .int .i64 ((s.tc : Int)), .int .i64 (s.nx), .int .i64 (s.cn), .int .i64 (s.n0), .int .i64 (s.n1), .int .i64 (s.n2), .int .i64 (s.n3), .int .i64 (s.n4), .int .i64 (s.n5), .int .i64 (s.n6), .int .i64 (s.hd.o), .int .i64 (s.hd.n), .int .u32 (s.hd.so), .int .u32 (s.hd.sn), .int .i64 (s.hd.wi), .int .i64 (s.hd.lo), .int .i64 (s.wn), .int .i64 (s.l0), .int .i64 (s.l1), .int .i64 (s.l2), .int .i64 (s.tk), .int .i64 (s.wr)]
/-- The state lies in this block (a state of its own, or a Parser's). -/
def St19 (V : World) (b : Nat) (t : TypeId) (s : R19) : Prop := V.heap[b]? = some (.cells s.cs t (0, 0))
theorem St19.kp {V V' : World} {b : Nat} {t : TypeId} {s : R19} (h : St19 V b t s) {S : Nat → Prop} (hk : Kp S V V') (hn : ¬ S b) : St19 V' b t s := hk.heap h hn
theorem St19.old {V V' : World} {b : Nat} {t : TypeId} {s : R19} (h : St19 V b t s) (hb : Below V.heap.size V V') : St19 V' b t s := (hb.block _ (Array.getElem?_eq_some_iff.1 h).1).trans h
theorem St19.lt {V : World} {b : Nat} {t : TypeId} {s : R19} (h : St19 V b t s) : b < V.heap.size := (Array.getElem?_eq_some_iff.1 h).1
theorem St19.f {V : World} {b : Nat} {t : TypeId} {s : R19} (h : St19 V b t s) (j : Nat) : V.frozen? ⟨b, j, none⟩ = false := by
  have h : V.heap[b]? = some (.cells s.cs t (0, 0)) := h
  simp [World.frozen?, h]
theorem St19.set {V : World} {b : Nat} {t : TypeId} {s s' : R19} {k : Nat} {v : Value} (h : St19 V b t s) (e : s'.cs = s.cs.setIfInBounds k v) : St19 (V.setCell ⟨b, k, none⟩ v) b t s' := by
  have h : V.heap[b]? = some (.cells s.cs t (0, 0)) := h
  show (V.setCell ⟨b, k, none⟩ v).heap[b]? = some (.cells s'.cs t (0, 0))
  rw [e]
  simp [World.setCell, Array.getElem?_modify, h]
theorem kp1_19 {w : World} {b i : Nat} (v : Value) : Kp (fun k => k = b) w (w.setCell ⟨b, i, none⟩ v) := Kp.set (S := fun k => k = b) rfl v
theorem kpt_19 {a c d : World} {b : Nat} (h : Kp (fun k => k = b) a c) (k : Kp (fun k => k = b) c d) : Kp (fun k => k = b) a d := h.trans k (fun _ _ x => x)
theorem St19.c0 {V : World} {b : Nat} {t : TypeId} {s : R19} (h : St19 V b t s) : V.cell? ⟨b, 0, none⟩ = some (.int .u32 (wI s.sm)) := cell18 h rfl
theorem St19.c1 {V : World} {b : Nat} {t : TypeId} {s : R19} (h : St19 V b t s) : V.cell? ⟨b, 1, none⟩ = some (.int .u64 (s.tv)) := cell18 h rfl
theorem St19.c2 {V : World} {b : Nat} {t : TypeId} {s : R19} (h : St19 V b t s) : V.cell? ⟨b, 2, none⟩ = some (.int .i64 ((s.tc : Int))) := cell18 h rfl
theorem St19.c3 {V : World} {b : Nat} {t : TypeId} {s : R19} (h : St19 V b t s) : V.cell? ⟨b, 3, none⟩ = some (.int .i64 (s.nx)) := cell18 h rfl
theorem St19.c4 {V : World} {b : Nat} {t : TypeId} {s : R19} (h : St19 V b t s) : V.cell? ⟨b, 4, none⟩ = some (.int .i64 (s.cn)) := cell18 h rfl
theorem St19.c5 {V : World} {b : Nat} {t : TypeId} {s : R19} (h : St19 V b t s) : V.cell? ⟨b, 5, none⟩ = some (.int .i64 (s.n0)) := cell18 h rfl
theorem St19.c6 {V : World} {b : Nat} {t : TypeId} {s : R19} (h : St19 V b t s) : V.cell? ⟨b, 6, none⟩ = some (.int .i64 (s.n1)) := cell18 h rfl
theorem St19.c7 {V : World} {b : Nat} {t : TypeId} {s : R19} (h : St19 V b t s) : V.cell? ⟨b, 7, none⟩ = some (.int .i64 (s.n2)) := cell18 h rfl
theorem St19.c8 {V : World} {b : Nat} {t : TypeId} {s : R19} (h : St19 V b t s) : V.cell? ⟨b, 8, none⟩ = some (.int .i64 (s.n3)) := cell18 h rfl
theorem St19.c9 {V : World} {b : Nat} {t : TypeId} {s : R19} (h : St19 V b t s) : V.cell? ⟨b, 9, none⟩ = some (.int .i64 (s.n4)) := cell18 h rfl
theorem St19.c10 {V : World} {b : Nat} {t : TypeId} {s : R19} (h : St19 V b t s) : V.cell? ⟨b, 10, none⟩ = some (.int .i64 (s.n5)) := cell18 h rfl
theorem St19.c11 {V : World} {b : Nat} {t : TypeId} {s : R19} (h : St19 V b t s) : V.cell? ⟨b, 11, none⟩ = some (.int .i64 (s.n6)) := cell18 h rfl
theorem St19.c12 {V : World} {b : Nat} {t : TypeId} {s : R19} (h : St19 V b t s) : V.cell? ⟨b, 12, none⟩ = some (.int .i64 (s.hd.o)) := cell18 h rfl
theorem St19.c13 {V : World} {b : Nat} {t : TypeId} {s : R19} (h : St19 V b t s) : V.cell? ⟨b, 13, none⟩ = some (.int .i64 (s.hd.n)) := cell18 h rfl
theorem St19.c14 {V : World} {b : Nat} {t : TypeId} {s : R19} (h : St19 V b t s) : V.cell? ⟨b, 14, none⟩ = some (.int .u32 (s.hd.so)) := cell18 h rfl
theorem St19.c15 {V : World} {b : Nat} {t : TypeId} {s : R19} (h : St19 V b t s) : V.cell? ⟨b, 15, none⟩ = some (.int .u32 (s.hd.sn)) := cell18 h rfl
theorem St19.c16 {V : World} {b : Nat} {t : TypeId} {s : R19} (h : St19 V b t s) : V.cell? ⟨b, 16, none⟩ = some (.int .i64 (s.hd.wi)) := cell18 h rfl
theorem St19.c17 {V : World} {b : Nat} {t : TypeId} {s : R19} (h : St19 V b t s) : V.cell? ⟨b, 17, none⟩ = some (.int .i64 (s.hd.lo)) := cell18 h rfl
theorem St19.c18 {V : World} {b : Nat} {t : TypeId} {s : R19} (h : St19 V b t s) : V.cell? ⟨b, 18, none⟩ = some (.int .i64 (s.wn)) := cell18 h rfl
theorem St19.c19 {V : World} {b : Nat} {t : TypeId} {s : R19} (h : St19 V b t s) : V.cell? ⟨b, 19, none⟩ = some (.int .i64 (s.l0)) := cell18 h rfl
theorem St19.c20 {V : World} {b : Nat} {t : TypeId} {s : R19} (h : St19 V b t s) : V.cell? ⟨b, 20, none⟩ = some (.int .i64 (s.l1)) := cell18 h rfl
theorem St19.c21 {V : World} {b : Nat} {t : TypeId} {s : R19} (h : St19 V b t s) : V.cell? ⟨b, 21, none⟩ = some (.int .i64 (s.l2)) := cell18 h rfl
theorem St19.c22 {V : World} {b : Nat} {t : TypeId} {s : R19} (h : St19 V b t s) : V.cell? ⟨b, 22, none⟩ = some (.int .i64 (s.tk)) := cell18 h rfl
theorem St19.c23 {V : World} {b : Nat} {t : TypeId} {s : R19} (h : St19 V b t s) : V.cell? ⟨b, 23, none⟩ = some (.int .i64 (s.wr)) := cell18 h rfl

set_option maxRecDepth 100000 in
theorem plast19 (b : Nat) (t : TypeId) (s : R19) (m : Int) (w : World) (h : St19 w b t s) (hc : 0 ≤ s.cn ∧ s.cn ≤ 1000) (hm : 0 < m ∧ m ≤ 100) :
    Calls Tryz.prog 33 #[.pointer (some ⟨b, 0, none⟩), .int .i64 m] w fun e w' => e = .returned (.bool ((s.cn + 1) % m == 0)) ∧ St19 w' b t { s with cn := (s.cn + 1) % m } ∧ Kp (fun k => k = b) w w' := by
  have c4 := h.c4
  have f4 := h.f 4
  have c0 := h.c0
  obtain ⟨x, hx⟩ : ∃ x, x = (s.cn + 1) % m := ⟨_, rfl⟩
  have hmn : m ≠ 0 := by omega
  have hmz : (m == 0) = false := by simp [hmn]
  have hw : IntKind.i64.wrap (s.cn + 1) = s.cn + 1 := IntWalk.i64_in _ (by omega)
  have hb0 : 0 ≤ (s.cn + 1) % m := Int.emod_nonneg _ hmn
  have hb1 : (s.cn + 1) % m < m := Int.emod_lt_of_pos _ hm.1
  have ht : (s.cn + 1).tmod m = x := by rw [hx, Int.tmod_eq_emod_of_nonneg (by omega)]
  have hw2 : IntKind.i64.wrap x = x := IntWalk.i64_in _ (by omega)
  have HS : Hid (St19 (w.setCell ⟨b, 4, none⟩ (.int .i64 x)) b t { s with cn := x }) := h.set (s' := { s with cn := x }) rfl
  rw [← hx]
  clear h hx hb0 hb1 hm hc
  go_enter Tryz.func33, Tryz.ntmps33
  go_wp2
  go_ret
  exact ⟨rfl, HS.out, kp1_19 _⟩
set_option maxRecDepth 100000 in
theorem psld19 (b : Nat) (t : TypeId) (s : R19) (w : World) (h : St19 w b t s) :
    Calls Tryz.prog 54 #[.pointer (some ⟨b, 0, none⟩)] w fun e w' => e = .returned (.bool (wI s.sm == 558161692)) ∧ w' = w := by
  have c0 := h.c0
  clear h
  go_enter Tryz.func54, Tryz.ntmps54
  go_wp2
  go_ret
  exact ⟨rfl, rfl⟩
/-- word's answer: is the sum's last byte there; the error. -/
def wd19 (s : R19) : Bool × Int := if (s.cn + 1) % 4 = 0 then (if wI s.sm = 558161692 then (true, 0) else (false, 191)) else (false, 0)
set_option maxRecDepth 100000 in
theorem pword19 (b : Nat) (t : TypeId) (s : R19) (w : World) (h : St19 w b t s) (hc : 0 ≤ s.cn ∧ s.cn ≤ 1000) :
    Calls Tryz.prog 35 #[.pointer (some ⟨b, 0, none⟩)] w fun e w' => e = .returned (.tuple #[.bool (wd19 s).1, .int .i64 (wd19 s).2]) ∧ St19 w' b t { s with cn := (s.cn + 1) % 4 } ∧ Kp (fun k => k = b) w w' := by
  have HL : Hid (Calls Tryz.prog 33 #[.pointer (some ⟨b, 0, none⟩), .int .i64 4] w fun e w' => e = .returned (.bool ((s.cn + 1) % 4 == 0)) ∧ St19 w' b t { s with cn := (s.cn + 1) % 4 } ∧ Kp (fun k => k = b) w w') := plast19 b t s 4 w h hc (by omega)
  clear hc
  have c0 := h.c0
  clear h
  by_cases h4 : (s.cn + 1) % 4 = 0
  · rw [show ((s.cn + 1) % 4 == 0) = true by simp [h4]] at HL
    by_cases hs : wI s.sm = 558161692
    · have HWD : Hid (wd19 s = (true, 0)) := by show _ = _; unfold wd19; rw [if_pos h4, if_pos hs]
      have hsb : (wI s.sm == 558161692) = true := by simp [hs]
      clear h4 hs
      go_enter Tryz.func35, Tryz.ntmps35
      go_wp2_with fail
      refine HL.out.mono ?_
      rintro e1 w1 ⟨rfl, q1, k1⟩
      have d0 := q1.c0
      have SL := psld19 b t _ w1 q1
      simp only [hsb] at SL
      have HQ : Hid (St19 w1 b t { s with cn := (s.cn + 1) % 4 } ∧ Kp (fun k => k = b) w w1) := ⟨q1, k1⟩
      clear q1 k1 hsb
      go_wp2_with fail
      refine SL.mono ?_
      rintro e2 w2 ⟨rfl, hw2⟩
      subst w2
      clear SL
      go_wp2
      go_ret2
      rw [HWD.out]
      exact ⟨rfl, HQ.out.1, HQ.out.2⟩
    · have HWD : Hid (wd19 s = (false, 191)) := by show _ = _; unfold wd19; rw [if_pos h4, if_neg hs]
      have hsb : (wI s.sm == 558161692) = false := by simp [hs]
      clear h4 hs
      go_enter Tryz.func35, Tryz.ntmps35
      go_wp2_with fail
      refine HL.out.mono ?_
      rintro e1 w1 ⟨rfl, q1, k1⟩
      have d0 := q1.c0
      have SL := psld19 b t _ w1 q1
      simp only [hsb] at SL
      have HQ : Hid (St19 w1 b t { s with cn := (s.cn + 1) % 4 } ∧ Kp (fun k => k = b) w w1) := ⟨q1, k1⟩
      clear q1 k1 hsb
      go_wp2_with fail
      refine SL.mono ?_
      rintro e2 w2 ⟨rfl, hw2⟩
      subst w2
      clear SL
      go_wp2
      go_ret2
      rw [HWD.out]
      exact ⟨rfl, HQ.out.1, HQ.out.2⟩
  · rw [show ((s.cn + 1) % 4 == 0) = false by simp [h4]] at HL
    have HWD : Hid (wd19 s = (false, 0)) := by show _ = _; unfold wd19; rw [if_neg h4]
    clear h4
    go_enter Tryz.func35, Tryz.ntmps35
    go_wp2_with fail
    refine HL.out.mono ?_
    rintro e1 w1 ⟨rfl, q1, k1⟩
    have HQ : Hid (St19 w1 b t { s with cn := (s.cn + 1) % 4 } ∧ Kp (fun k => k = b) w w1) := ⟨q1, k1⟩
    clear q1 k1
    go_wp2
    go_ret2
    rw [HWD.out]
    exact ⟨rfl, HQ.out.1, HQ.out.2⟩
/-- add: one byte more. -/
def ad19 (c : W32) (v : Int) : W32 := ~~~ (takeW (~~~ c) v)
set_option maxRecDepth 100000 in
theorem padd19 (b : Nat) (t : TypeId) (s : R19) (v : Int) (w : World) (ht : Tab w) (h : St19 w b t s) (hv : 0 ≤ v ∧ v ≤ 255) :
    Calls Tryz.prog 18 #[.pointer (some ⟨b, 0, none⟩), .int .u8 v] w fun e w' => e = .returned (.tuple #[]) ∧ St19 w' b t { s with sm := ad19 s.sm v } ∧ Kp (fun k => k = b) w w' := by
  have c0 := h.c0
  have f0 := h.f 0
  obtain ⟨wA, hwA⟩ : ∃ wA, wA = w.alloc (.cells #[.int .u8 v] 5) := ⟨_, rfl⟩
  have bA : Below w.heap.size w wA := by rw [hwA]; exact (Below.refl _ _).alloc (Nat.le_refl _) _
  have MO := more_any s.sm (some ⟨w.heap.size, 0, none⟩) [v] 1 wA (ht.old bA) (by rw [hwA]; exact seg_lit w [v] 5 (0, 0) (by intro z hz; simp at hz; omega)) (by simp)
  have HMO : Hid (Calls Tryz.prog 27 #[.int .u32 (wI s.sm), .slice (some ⟨w.heap.size, 0, none⟩) 1 1] wA fun e w' => e = .returned (.int .u32 (wI (ad19 s.sm v))) ∧ w' = wA) := MO
  have hA := h.old bA
  have d0 := hA.c0
  have g0 := hA.f 0
  have HW : Hid (w.alloc (.cells #[.int .u8 v] 5) = wA) := hwA.symm
  have HS : Hid (St19 (wA.setCell ⟨b, 0, none⟩ (.int .u32 (wI (ad19 s.sm v)))) b t { s with sm := ad19 s.sm v }) := hA.set (s' := { s with sm := ad19 s.sm v }) rfl
  have HK : Hid (Kp (fun k => k = b) w (wA.setCell ⟨b, 0, none⟩ (.int .u32 (wI (ad19 s.sm v))))) := (Kp.of_below (S := fun k => k = b) bA).trans (kp1_19 _) (fun _ _ x => x)
  clear MO hwA bA hA h ht
  generalize wI (ad19 s.sm v) = y at *
  go_enter Tryz.func18, Tryz.ntmps18
  go_wp2_with fail
  rw [HW.out]
  refine HMO.out.mono ?_
  rintro e1 w1 ⟨rfl, hw1⟩
  subst w1
  go_wp2
  go_end0
  exact ⟨rfl, HS.out, HK.out⟩
open Classical in
/-- goOn: where to. -/
noncomputable def go19 (s : R19) : Int := if s.wn = win18 s.hd then 7 else 5
set_option maxRecDepth 100000 in
set_option maxHeartbeats 2000000 in
theorem pgo19 (b : Nat) (t : TypeId) (s : R19) (w : World) (h : St19 w b t s) :
    Calls Tryz.prog 37 #[.pointer (some ⟨b, 0, none⟩)] w fun e w' => e = .returned (.tuple #[]) ∧ St19 w' b t { s with nx := go19 s } ∧ Kp (fun k => k = b) w w' := by
  have c3 := h.c3
  have f3 := h.f 3
  have c0 := h.c0
  obtain ⟨wA, hwA⟩ : ∃ wA, wA = w.setCell ⟨b, 3, none⟩ (.int .i64 5) := ⟨_, rfl⟩
  have hA : St19 wA b t { s with nx := 5 } := by rw [hwA]; exact h.set (s' := { s with nx := 5 }) rfl
  have kA : Kp (fun k => k = b) w wA := by rw [hwA]; exact kp1_19 _
  have a0 := hA.c0
  have a12 := hA.c12
  have a13 := hA.c13
  have a14 := hA.c14
  have a15 := hA.c15
  have a16 := hA.c16
  have a17 := hA.c17
  have a18 := hA.c18
  have HPW : Hid (∀ V, Calls Tryz.prog 45 #[.agg #[.int .i64 s.hd.o, .int .i64 s.hd.n, .int .u32 s.hd.so, .int .u32 s.hd.sn, .int .i64 s.hd.wi, .int .i64 s.hd.lo]] V fun e w' => e = .returned (.int .i64 (win18 s.hd)) ∧ Below V.heap.size V w') := fun V => pwin18 s.hd V
  have HA : Hid (St19 wA b t { s with nx := 5 } ∧ Kp (fun k => k = b) w wA) := ⟨hA, kA⟩
  have HW : Hid (w.setCell ⟨b, 3, none⟩ (.int .i64 5) = wA) := hwA.symm
  have HSC : Hid (∀ V, St19 V b t { s with nx := 5 } → V.cell? ⟨b, 0, none⟩ = some (.int .u32 (wI s.sm)) ∧ V.cell? ⟨b, 12, none⟩ = some (.int .i64 s.hd.o) ∧ V.cell? ⟨b, 13, none⟩ = some (.int .i64 s.hd.n) ∧ V.cell? ⟨b, 14, none⟩ = some (.int .u32 s.hd.so) ∧ V.cell? ⟨b, 15, none⟩ = some (.int .u32 s.hd.sn) ∧ V.cell? ⟨b, 16, none⟩ = some (.int .i64 s.hd.wi) ∧ V.cell? ⟨b, 17, none⟩ = some (.int .i64 s.hd.lo) ∧ V.cell? ⟨b, 18, none⟩ = some (.int .i64 s.wn)) := fun V q => ⟨q.c0, q.c12, q.c13, q.c14, q.c15, q.c16, q.c17, q.c18⟩
  by_cases hg : s.wn = win18 s.hd
  · have HG : Hid (go19 s = 7) := by show _ = _; unfold go19; rw [if_pos hg]
    have hgb : (s.wn == win18 s.hd) = true := by simp [hg]
    clear hg h hwA hA kA
    generalize win18 s.hd = W at *
    go_enter Tryz.func37, Tryz.ntmps37
    go_wp2_with fail
    rw [HW.out]
    refine plain_region16 (fun V => V.cell? ⟨b, 0, none⟩ = some (.int .u32 (wI s.sm)) ∧ V.cell? ⟨b, 12, none⟩ = some (.int .i64 s.hd.o) ∧ V.cell? ⟨b, 13, none⟩ = some (.int .i64 s.hd.n) ∧ V.cell? ⟨b, 14, none⟩ = some (.int .u32 s.hd.so) ∧ V.cell? ⟨b, 15, none⟩ = some (.int .u32 s.hd.sn) ∧ V.cell? ⟨b, 16, none⟩ = some (.int .i64 s.hd.wi) ∧ V.cell? ⟨b, 17, none⟩ = some (.int .i64 s.hd.lo) ∧ V.cell? ⟨b, 18, none⟩ = some (.int .i64 s.wn)) 10 (by kernel_rfl) (HSC.out wA.drew HA.out.1) (fun hHeld => ?_)
    refine wpAnyK_take (i := 0) (v := .pointer (some ⟨b, 0, none⟩)) rfl (by kernel_rfl) (by kernel_rfl) (by kernel_rfl) (by kernel_rfl) (fun _ _ _ h => h) (Or.inl ⟨by rfl, fun w hSw => by go_simp⟩) hHeld ?_
    simp only [List.getElem_toArray, List.getElem_cons_zero, Act.put, List.setIfInBounds_toArray, List.set_cons_zero, List.set_cons_succ]
    refine wpAnyK_take (i := 1) (v := .pointer (some ⟨b, 0, none⟩)) rfl (by kernel_rfl) (by kernel_rfl) (by kernel_rfl) (by kernel_rfl) (fun _ _ _ h => h) (Or.inl ⟨by rfl, fun w hSw => by go_simp⟩) hHeld ?_
    simp only [List.getElem_toArray, List.getElem_cons_zero, List.getElem_cons_succ, Act.put, List.setIfInBounds_toArray, List.set_cons_zero, List.set_cons_succ]
    refine wpAnyK_take (i := 2) (v := .pointer (some ⟨b, 18, none⟩)) rfl (by kernel_rfl) (by kernel_rfl) (by kernel_rfl) (by kernel_rfl) (fun _ _ _ h => h) (Or.inl ⟨by rfl, fun w hSw => by go_simp⟩) hHeld ?_
    simp only [List.getElem_toArray, List.getElem_cons_zero, List.getElem_cons_succ, Act.put, List.setIfInBounds_toArray, List.set_cons_zero, List.set_cons_succ]
    refine wpAnyK_take (i := 3) (v := .int .i64 s.wn) rfl (by kernel_rfl) (by kernel_rfl) (by kernel_rfl) (by kernel_rfl) (fun _ _ _ h => h) (Or.inl ⟨by rfl, fun w hSw => by go_simp⟩) hHeld ?_
    simp only [List.getElem_toArray, List.getElem_cons_zero, List.getElem_cons_succ, Act.put, List.setIfInBounds_toArray, List.set_cons_zero, List.set_cons_succ]
    refine wpAnyK_take (i := 4) (v := .pointer (some ⟨b, 0, none⟩)) rfl (by kernel_rfl) (by kernel_rfl) (by kernel_rfl) (by kernel_rfl) (fun _ _ _ h => h) (Or.inl ⟨by rfl, fun w hSw => by go_simp⟩) hHeld ?_
    simp only [List.getElem_toArray, List.getElem_cons_zero, List.getElem_cons_succ, Act.put, List.setIfInBounds_toArray, List.set_cons_zero, List.set_cons_succ]
    refine wpAnyK_take (i := 5) (v := .pointer (some ⟨b, 0, none⟩)) rfl (by kernel_rfl) (by kernel_rfl) (by kernel_rfl) (by kernel_rfl) (fun _ _ _ h => h) (Or.inl ⟨by rfl, fun w hSw => by go_simp⟩) hHeld ?_
    simp only [List.getElem_toArray, List.getElem_cons_zero, List.getElem_cons_succ, Act.put, List.setIfInBounds_toArray, List.set_cons_zero, List.set_cons_succ]
    refine wpAnyK_take (i := 6) (v := .pointer (some ⟨b, 12, none⟩)) rfl (by kernel_rfl) (by kernel_rfl) (by kernel_rfl) (by kernel_rfl) (fun _ _ _ h => h) (Or.inl ⟨by rfl, fun w hSw => by go_simp⟩) hHeld ?_
    simp only [List.getElem_toArray, List.getElem_cons_zero, List.getElem_cons_succ, Act.put, List.setIfInBounds_toArray, List.set_cons_zero, List.set_cons_succ]
    refine wpAnyK_take (i := 7) (v := .agg #[.int .i64 s.hd.o, .int .i64 s.hd.n, .int .u32 s.hd.so, .int .u32 s.hd.sn, .int .i64 s.hd.wi, .int .i64 s.hd.lo]) rfl (by kernel_rfl) (by kernel_rfl) (by kernel_rfl) (by kernel_rfl) (fun _ _ _ h => h) (Or.inl ⟨by rfl, fun w hSw => by go_simp⟩) hHeld ?_
    simp only [List.getElem_toArray, List.getElem_cons_zero, List.getElem_cons_succ, Act.put, List.setIfInBounds_toArray, List.set_cons_zero, List.set_cons_succ]
    refine wpAnyK_one (i := 8) (by kernel_rfl) rfl (fun K hK => ?_)
    (try simp only [List.getElem_toArray, List.getElem_cons_zero, List.getElem_cons_succ, Act.put, List.setIfInBounds_toArray, List.set_cons_zero, List.set_cons_succ])
    go_simp
    refine (HPW.out wA.drew).mono ?_
    rintro e1 w1 ⟨rfl, b1⟩
    have q1 : St19 w1 b t { s with nx := 5 } := St19.old (V := wA.drew) HA.out.1 b1
    have HQ1 : Hid (St19 w1 b t { s with nx := 5 } ∧ Kp (fun k => k = b) w w1) := ⟨q1, HA.out.2.drew.trans (Kp.of_below (S := fun _ => False) b1) (fun _ _ x => x.elim)⟩
    refine hK.out _ _ (fun _ => HSC.out w1 HQ1.out.1) (fun hHeld0 => ?_)
    have hHeld := hHeld0 (by decide)
    clear hHeld0 hK K
    (try simp only [List.getElem_toArray, List.getElem_cons_zero, List.getElem_cons_succ, Act.put, List.setIfInBounds_toArray, List.set_cons_zero, List.set_cons_succ])
    refine wpAnyK_take (i := 9) (v := .bool true) rfl (by kernel_rfl) (by kernel_rfl) (by kernel_rfl) (by kernel_rfl) (fun _ _ _ h => h) (Or.inl ⟨by rfl, fun w hSw => by go_simp⟩) hHeld ?_
    simp only [List.getElem_toArray, List.getElem_cons_zero, List.getElem_cons_succ, Act.put, List.setIfInBounds_toArray, List.set_cons_zero, List.set_cons_succ]
    refine wpAnyK_done (by kernel_rfl) ?_ _
    have d3 := q1.c3
    have g3 := q1.f 3
    have d0 := q1.c0
    have HS : Hid (St19 (w1.setCell ⟨b, 3, none⟩ (.int .i64 7)) b t { s with nx := 7 }) := q1.set (s' := { s with nx := 7 }) rfl
    clear q1 b1 hgb
    go_wp2
    go_end0
    rw [HG.out]
    exact ⟨rfl, HS.out, kpt_19 HQ1.out.2 (kp1_19 _)⟩
  · have HG : Hid (go19 s = 5) := by show _ = _; unfold go19; rw [if_neg hg]
    have hgb : (s.wn == win18 s.hd) = false := by simp [hg]
    clear hg h hwA hA kA
    generalize win18 s.hd = W at *
    go_enter Tryz.func37, Tryz.ntmps37
    go_wp2_with fail
    rw [HW.out]
    refine plain_region16 (fun V => V.cell? ⟨b, 0, none⟩ = some (.int .u32 (wI s.sm)) ∧ V.cell? ⟨b, 12, none⟩ = some (.int .i64 s.hd.o) ∧ V.cell? ⟨b, 13, none⟩ = some (.int .i64 s.hd.n) ∧ V.cell? ⟨b, 14, none⟩ = some (.int .u32 s.hd.so) ∧ V.cell? ⟨b, 15, none⟩ = some (.int .u32 s.hd.sn) ∧ V.cell? ⟨b, 16, none⟩ = some (.int .i64 s.hd.wi) ∧ V.cell? ⟨b, 17, none⟩ = some (.int .i64 s.hd.lo) ∧ V.cell? ⟨b, 18, none⟩ = some (.int .i64 s.wn)) 10 (by kernel_rfl) (HSC.out wA.drew HA.out.1) (fun hHeld => ?_)
    refine wpAnyK_take (i := 0) (v := .pointer (some ⟨b, 0, none⟩)) rfl (by kernel_rfl) (by kernel_rfl) (by kernel_rfl) (by kernel_rfl) (fun _ _ _ h => h) (Or.inl ⟨by rfl, fun w hSw => by go_simp⟩) hHeld ?_
    simp only [List.getElem_toArray, List.getElem_cons_zero, Act.put, List.setIfInBounds_toArray, List.set_cons_zero, List.set_cons_succ]
    refine wpAnyK_take (i := 1) (v := .pointer (some ⟨b, 0, none⟩)) rfl (by kernel_rfl) (by kernel_rfl) (by kernel_rfl) (by kernel_rfl) (fun _ _ _ h => h) (Or.inl ⟨by rfl, fun w hSw => by go_simp⟩) hHeld ?_
    simp only [List.getElem_toArray, List.getElem_cons_zero, List.getElem_cons_succ, Act.put, List.setIfInBounds_toArray, List.set_cons_zero, List.set_cons_succ]
    refine wpAnyK_take (i := 2) (v := .pointer (some ⟨b, 18, none⟩)) rfl (by kernel_rfl) (by kernel_rfl) (by kernel_rfl) (by kernel_rfl) (fun _ _ _ h => h) (Or.inl ⟨by rfl, fun w hSw => by go_simp⟩) hHeld ?_
    simp only [List.getElem_toArray, List.getElem_cons_zero, List.getElem_cons_succ, Act.put, List.setIfInBounds_toArray, List.set_cons_zero, List.set_cons_succ]
    refine wpAnyK_take (i := 3) (v := .int .i64 s.wn) rfl (by kernel_rfl) (by kernel_rfl) (by kernel_rfl) (by kernel_rfl) (fun _ _ _ h => h) (Or.inl ⟨by rfl, fun w hSw => by go_simp⟩) hHeld ?_
    simp only [List.getElem_toArray, List.getElem_cons_zero, List.getElem_cons_succ, Act.put, List.setIfInBounds_toArray, List.set_cons_zero, List.set_cons_succ]
    refine wpAnyK_take (i := 4) (v := .pointer (some ⟨b, 0, none⟩)) rfl (by kernel_rfl) (by kernel_rfl) (by kernel_rfl) (by kernel_rfl) (fun _ _ _ h => h) (Or.inl ⟨by rfl, fun w hSw => by go_simp⟩) hHeld ?_
    simp only [List.getElem_toArray, List.getElem_cons_zero, List.getElem_cons_succ, Act.put, List.setIfInBounds_toArray, List.set_cons_zero, List.set_cons_succ]
    refine wpAnyK_take (i := 5) (v := .pointer (some ⟨b, 0, none⟩)) rfl (by kernel_rfl) (by kernel_rfl) (by kernel_rfl) (by kernel_rfl) (fun _ _ _ h => h) (Or.inl ⟨by rfl, fun w hSw => by go_simp⟩) hHeld ?_
    simp only [List.getElem_toArray, List.getElem_cons_zero, List.getElem_cons_succ, Act.put, List.setIfInBounds_toArray, List.set_cons_zero, List.set_cons_succ]
    refine wpAnyK_take (i := 6) (v := .pointer (some ⟨b, 12, none⟩)) rfl (by kernel_rfl) (by kernel_rfl) (by kernel_rfl) (by kernel_rfl) (fun _ _ _ h => h) (Or.inl ⟨by rfl, fun w hSw => by go_simp⟩) hHeld ?_
    simp only [List.getElem_toArray, List.getElem_cons_zero, List.getElem_cons_succ, Act.put, List.setIfInBounds_toArray, List.set_cons_zero, List.set_cons_succ]
    refine wpAnyK_take (i := 7) (v := .agg #[.int .i64 s.hd.o, .int .i64 s.hd.n, .int .u32 s.hd.so, .int .u32 s.hd.sn, .int .i64 s.hd.wi, .int .i64 s.hd.lo]) rfl (by kernel_rfl) (by kernel_rfl) (by kernel_rfl) (by kernel_rfl) (fun _ _ _ h => h) (Or.inl ⟨by rfl, fun w hSw => by go_simp⟩) hHeld ?_
    simp only [List.getElem_toArray, List.getElem_cons_zero, List.getElem_cons_succ, Act.put, List.setIfInBounds_toArray, List.set_cons_zero, List.set_cons_succ]
    refine wpAnyK_one (i := 8) (by kernel_rfl) rfl (fun K hK => ?_)
    (try simp only [List.getElem_toArray, List.getElem_cons_zero, List.getElem_cons_succ, Act.put, List.setIfInBounds_toArray, List.set_cons_zero, List.set_cons_succ])
    go_simp
    refine (HPW.out wA.drew).mono ?_
    rintro e1 w1 ⟨rfl, b1⟩
    have q1 : St19 w1 b t { s with nx := 5 } := St19.old (V := wA.drew) HA.out.1 b1
    have HQ1 : Hid (St19 w1 b t { s with nx := 5 } ∧ Kp (fun k => k = b) w w1) := ⟨q1, HA.out.2.drew.trans (Kp.of_below (S := fun _ => False) b1) (fun _ _ x => x.elim)⟩
    refine hK.out _ _ (fun _ => HSC.out w1 HQ1.out.1) (fun hHeld0 => ?_)
    have hHeld := hHeld0 (by decide)
    clear hHeld0 hK K
    (try simp only [List.getElem_toArray, List.getElem_cons_zero, List.getElem_cons_succ, Act.put, List.setIfInBounds_toArray, List.set_cons_zero, List.set_cons_succ])
    refine wpAnyK_take (i := 9) (v := .bool false) rfl (by kernel_rfl) (by kernel_rfl) (by kernel_rfl) (by kernel_rfl) (fun _ _ _ h => h) (Or.inl ⟨by rfl, fun w hSw => by go_simp⟩) hHeld ?_
    simp only [List.getElem_toArray, List.getElem_cons_zero, List.getElem_cons_succ, Act.put, List.setIfInBounds_toArray, List.set_cons_zero, List.set_cons_succ]
    refine wpAnyK_done (by kernel_rfl) ?_ _
    clear q1 b1 hgb
    go_wp2
    go_end0
    rw [HG.out]
    exact ⟨rfl, HQ1.out.1, HQ1.out.2⟩

end Go.Proofs.YtpodakndckflgaaGreatDoor

namespace Go.Proofs.YtpodakndckflgaaGreatDoor
open Go.RowKit
set_option linter.unusedVariables false
/-- What a byte is refused by (0: it is not), where so many came ahead of it. -/
def tkErr (c : Nat) (x : Int) : Int := if c = 9 ∧ 1 < x then 10 else if 0 < c ∧ x = 0 then 12 else 0
/-- A Taker in a block of its own. -/
def TK (w : World) (b : Nat) (v : Int) (c : Nat) : Prop := w.heap[b]? = some (.cells #[.int .u64 v, .int .i64 c] 55 (0, 0))

theorem tkErr_nine {c : Nat} {x : Int} (h : tkErr c x = 0) : c = 9 → x ≤ 1 := by
  intro e; subst e
  unfold tkErr at h
  split at h
  · cases h
  · rename_i n; simp at n; omega

end Go.Proofs.YtpodakndckflgaaGreatDoor

namespace Go.Proofs.YtpodakndckflgaaGreatDoor
open Go.RowKit Go.Shelf
set_option linter.unusedVariables false
set_option linter.unusedSimpArgs false
set_option maxRecDepth 100000 in
theorem refuses19 (b : Nat) (t : TypeId) (s : R19) (c : Nat) (hsc : s.tc = c) (x : Int) (w : World) (h : St19 w b t s) (hx0 : 0 ≤ x) (hc9 : c ≤ 9) :
    Calls Tryz.prog 77 #[.pointer (some ⟨b, 1, none⟩), .int .u8 x] w fun e w' => e = .returned (.int .i64 (tkErr c x)) ∧ w' = w := by
  have h0 := h.c1
  have h1 := h.c2
  rw [hsc] at h1
  clear h hsc
  by_cases a1 : c = 9
  · subst a1
    by_cases a2 : 1 < x
    · go_enter Tryz.func77, Tryz.ntmps77
      go_wp2
      go_ret
      exact ⟨by simp [tkErr, a2], rfl⟩
    · by_cases a3 : x = 0
      · subst a3
        go_enter Tryz.func77, Tryz.ntmps77
        go_wp2
        go_ret
        exact ⟨by simp [tkErr], rfl⟩
      · have a4 : (x == 0) = false := by simp [a3]
        go_enter Tryz.func77, Tryz.ntmps77
        go_wp2
        go_ret
        exact ⟨by have : ¬ 1 < x := by omega
                  simp [tkErr, this, a3], rfl⟩
  · have a0 : ((c : Int) == 9) = false := by simp; omega
    by_cases a2 : 0 < c
    · have a5 : (0 : Int) < (c : Int) := by omega
      by_cases a3 : x = 0
      · subst a3
        go_enter Tryz.func77, Tryz.ntmps77
        go_wp2
        go_ret
        exact ⟨by simp [tkErr, a1, a2], rfl⟩
      · have a4 : (x == 0) = false := by simp [a3]
        go_enter Tryz.func77, Tryz.ntmps77
        go_wp2
        go_ret
        exact ⟨by simp [tkErr, a1, a3], rfl⟩
    · have a6 : c = 0 := by omega
      subst a6
      go_enter Tryz.func77, Tryz.ntmps77
      go_wp2
      go_ret
      exact ⟨by simp [tkErr], rfl⟩

set_option maxRecDepth 100000 in
theorem reset19 (b : Nat) (t : TypeId) (s : R19) (w : World) (h : St19 w b t s) :
    Calls Tryz.prog 78 #[.pointer (some ⟨b, 1, none⟩)] w fun e w' => e = .returned (.tuple #[]) ∧ St19 w' b t { s with tv := 0, tc := 0 } ∧ Kp (fun k => k = b) w w' := by
  have h0 := h.c1
  have h1 := h.c2
  have f0 := h.f 1
  have f1 := h.f 2
  have HS : Hid (St19 ((w.setCell ⟨b, 1, none⟩ (.int .u64 0)).setCell ⟨b, 2, none⟩ (.int .i64 0)) b t { s with tv := 0, tc := 0 }) := (h.set (s' := { s with tv := 0 }) rfl).set (s' := { s with tv := 0, tc := 0 }) rfl
  clear h
  go_enter Tryz.func78, Tryz.ntmps78
  go_wp2
  go_end0
  exact ⟨rfl, HS.out, kpt_19 (kp1_19 _) (kp1_19 _)⟩
set_option maxRecDepth 100000 in
set_option maxHeartbeats 400000 in
theorem takeb19 (b : Nat) (t : TypeId) (s : R19) (x : Int) (w : World) (h : St19 w b t s) (hx0 : 0 ≤ x) (hx1 : x ≤ 255) (hc9 : s.tc ≤ 9) (he : tkErr s.tc x ≠ 0) :
    Calls Tryz.prog 53 #[.pointer (some ⟨b, 1, none⟩), .int .u8 x] w fun e w' => e = .returned (.tuple #[.int .u64 0, .bool false, .int .i64 (tkErr s.tc x)]) ∧ St19 w' b t { s with tv := 0, tc := 0 } ∧ Kp (fun k => k = b) w w' := by
  have hn : (tkErr s.tc x != 0) = true := by simp [he]
  have RF := refuses19 b t s s.tc rfl x w h hx0 hc9
  have RS := reset19 b t s w h
  clear he h
  go_enter Tryz.func53, Tryz.ntmps53
  go_wp2_with fail
  refine RF.mono ?_
  rintro e w' ⟨rfl, hw'⟩
  subst w'
  go_wp2_with fail
  refine RS.mono ?_
  rintro e w1 ⟨rfl, ht, hg⟩
  have HT : Hid (St19 w1 b t { s with tv := 0, tc := 0 } ∧ Kp (fun k => k = b) w w1) := ⟨ht, hg⟩
  clear ht hg
  go_wp2
  go_ret3
  exact ⟨rfl, HT.out.1, HT.out.2⟩
set_option maxRecDepth 100000 in
set_option maxHeartbeats 800000 in
theorem takem19 (b : Nat) (t : TypeId) (s : R19) (v : Int) (c : Nat) (hsv : s.tv = v) (hsc : s.tc = c) (x : Int) (w : World) (h : St19 w b t s) (hv0 : 0 ≤ v) (hv1 : v < 128 ^ c) (hx0 : 128 ≤ x) (hx1 : x ≤ 255) (hc9 : c ≤ 9) (he : tkErr c x = 0) :
    Calls Tryz.prog 53 #[.pointer (some ⟨b, 1, none⟩), .int .u8 x] w fun e w' => e = .returned (.tuple #[.int .u64 0, .bool false, .int .i64 0]) ∧ St19 w' b t { s with tv := tkVal v c x, tc := c + 1 } ∧ Kp (fun k => k = b) w w' := by
  have h0 := h.c1
  have h1 := h.c2
  have f0 := h.f 1
  have f1 := h.f 2
  rw [hsv] at h0
  rw [hsc] at h1
  have RF := refuses19 b t s c hsc x w h (by omega) hc9
  have hn : (tkErr c x != 0) = false := by simp [he]
  have ea : (bits .and .u8 x 128 != 0) = true := by rw [and128 x (by omega) hx1, if_pos hx0]; rfl
  have HO : Hid (bits .or .u64 v (IntKind.u64.wrap (IntKind.u64.wrap (bits .and .u8 x 127) * 2 ^ (7 * c))) = tkVal v c x) := tk_or v c x hv0 hv1 hc9 (by omega) hx1 (tkErr_nine he)
  have HS : Hid (∀ y : Int, St19 ((w.setCell ⟨b, 1, none⟩ (.int .u64 y)).setCell ⟨b, 2, none⟩ (.int .i64 ((c : Int) + 1))) b t { s with tv := y, tc := c + 1 }) := fun y => (h.set (s' := { s with tv := y }) rfl).set (s' := { s with tv := y, tc := c + 1 }) rfl
  clear he hv1 h
  go_enter Tryz.func53, Tryz.ntmps53
  go_wp2_with fail
  refine RF.mono ?_
  rintro e w' ⟨rfl, hw'⟩
  subst w'
  go_wp2_with fail
  go_region
  go_wp2
  rw [HO.out]
  go_ret3
  exact ⟨rfl, HS.out _, (kpt_19 (kp1_19 _) (kp1_19 _)).drew⟩
set_option maxRecDepth 100000 in
set_option maxHeartbeats 800000 in
theorem takee19 (b : Nat) (t : TypeId) (s : R19) (v : Int) (c : Nat) (hsv : s.tv = v) (hsc : s.tc = c) (x : Int) (w : World) (h : St19 w b t s) (hv0 : 0 ≤ v) (hv1 : v < 128 ^ c) (hx0 : 0 ≤ x) (hx1 : x < 128) (hc9 : c ≤ 9) (he : tkErr c x = 0) :
    Calls Tryz.prog 53 #[.pointer (some ⟨b, 1, none⟩), .int .u8 x] w fun e w' => e = .returned (.tuple #[.int .u64 (tkVal v c x), .bool true, .int .i64 0]) ∧ St19 w' b t { s with tv := 0, tc := 0 } ∧ Kp (fun k => k = b) w w' := by
  have h0 := h.c1
  have h1 := h.c2
  have f0 := h.f 1
  have f1 := h.f 2
  rw [hsv] at h0
  rw [hsc] at h1
  have RF := refuses19 b t s c hsc x w h hx0 hc9
  have hn : (tkErr c x != 0) = false := by simp [he]
  have ea : (bits .and .u8 x 128 != 0) = false := by rw [and128 x hx0 (by omega), if_neg (by omega)]; rfl
  have HO : Hid (bits .or .u64 v (IntKind.u64.wrap (IntKind.u64.wrap (bits .and .u8 x 127) * 2 ^ (7 * c))) = tkVal v c x) := tk_or v c x hv0 hv1 hc9 hx0 (by omega) (tkErr_nine he)
  have HS : Hid (∀ y : Int, St19 ((w.setCell ⟨b, 1, none⟩ (.int .u64 y)).setCell ⟨b, 2, none⟩ (.int .i64 ((c : Int) + 1))) b t { s with tv := y, tc := c + 1 }) := fun y => (h.set (s' := { s with tv := y }) rfl).set (s' := { s with tv := y, tc := c + 1 }) rfl
  clear he hv1 h
  go_enter Tryz.func53, Tryz.ntmps53
  go_wp2_with fail
  refine RF.mono ?_
  rintro e w' ⟨rfl, hw'⟩
  subst w'
  go_wp2_with fail
  go_region
  go_wp2_with fail
  rw [HO.out]
  have hq := HS.out (tkVal v c x)
  have RS := reset19 b t _ (((w.setCell ⟨b, 1, none⟩ (.int .u64 (tkVal v c x))).setCell ⟨b, 2, none⟩ (.int .i64 ((c : Int) + 1))).drew) hq
  refine RS.mono ?_
  rintro e w1 ⟨rfl, ht, hg⟩
  have HT : Hid (St19 w1 b t { s with tv := 0, tc := 0 } ∧ Kp (fun k => k = b) w w1) := ⟨ht, kpt_19 (kpt_19 (kp1_19 _) (kp1_19 _)).drew hg⟩
  clear ht hg hq RS
  go_wp2
  go_ret3
  exact ⟨rfl, HT.out.1, HT.out.2⟩
end Go.Proofs.YtpodakndckflgaaGreatDoor

namespace Go.Proofs.YtpodakndckflgaaGreatDoor
open Go.RowKit
set_option linter.unusedVariables false
theorem tkVal_bd (v : Int) (c : Nat) (x : Int) (hv0 : 0 ≤ v) (hv1 : v < 128 ^ c) (hx : 0 ≤ x) : 0 ≤ tkVal v c x ∧ tkVal v c x < 128 ^ (c + 1) := by
  have hp := pow128_pos c
  have hm : 0 ≤ x % 128 := by omega
  have h1 := Int.mul_nonneg hm (Int.le_of_lt hp)
  have h2 : x % 128 * 128 ^ c ≤ 127 * 128 ^ c := Int.mul_le_mul_of_nonneg_right (by omega) (Int.le_of_lt hp)
  unfold tkVal
  rw [Int.pow_succ]
  omega

theorem tk_more_le {c : Nat} {x : Int} (hc : c ≤ 9) (he : tkErr c x = 0) (hx : 128 ≤ x) : c ≤ 8 := by
  have := tkErr_nine he
  omega

end Go.Proofs.YtpodakndckflgaaGreatDoor
