import Derived.Test.YtmfpdchfofffeaaGreatDoorEdR
import Derived.Test.YtmfpdchfofffeaaGreatDoorEd1
namespace Go.Proofs.YtmfpdchfofffeaaGreatDoor
open Go.RowKit Go.Shelf
set_option linter.unusedVariables false
attribute [local go_sem] Oper.semAt_some
/-- A closure's box: one block more. -/
structure Cb16 (w : World) (v : Array Value) (t : TypeId) (w' : World) : Prop where
  bl : Below w.heap.size w w'
  sz : w'.heap.size = w.heap.size + 1
  cl : w'.heap[w.heap.size]? = some (.cells v t (0, 0))
theorem cb16 (w : World) (v : Array Value) (t : TypeId) : Cb16 w v t (w.alloc (.cells v t)) := ⟨below_box16 _ _, by simp, heap_alloc_new w _⟩
set_option maxRecDepth 100000 in
theorem pwalk16 (a : Option Addr) (n cap : Nat) (w : World) : Calls Tryz.prog 55 #[.slice a n cap] w fun e w' => e = .returned (.func (.func 87) #[] #[.pointer (some ⟨w.heap.size, 0, none⟩)]) ∧ Cb16 w #[.slice a n cap] 46 w' := by
  go_enter Tryz.func55, Tryz.ntmps55
  go_wp2
  go_ret
  exact ⟨rfl, cb16 _ _ _⟩
def wl16 (S : List St16) (n : Nat) : List (Array Value) := (List.range n).map fun i => #[.int .i64 (pl16 S i), sv16 (S.getD i z16)]
theorem wl16_len (S : List St16) (n : Nat) : (wl16 S n).length = n := by simp [wl16]
theorem wl16_get {S : List St16} {n i : Nat} (h : i < n) : (wl16 S n)[i]? = some #[.int .i64 (pl16 S i), sv16 (S.getD i z16)] := by simp [wl16, h]
theorem SegS.kr {w w' : World} {D : Nat → Prop} {a : Option Addr} {l : List St16} (h : SegS w a l) (hb : Kr16 D w w') (hn : ∀ b off, a = some ⟨b, off, none⟩ → 0 < l.length → D b) : SegS w' a l := by
  refine ⟨fun i hi => ?_, h.fit⟩
  obtain ⟨b, off, ha, ht⟩ := h.at_ i hi
  exact ⟨b, off, ha, ht.of_block (hb.block b ht.lt (hn b off ha (by omega)))⟩
set_option maxRecDepth 100000 in
set_option maxHeartbeats 4000000 in
theorem wk16 (m : Nat) (hm2 : 2 ≤ m) (B : Nat) (a : Option Addr) (n cap : Nat) (S : List St16) (R : Nat → Prop) (w : World) (hB : w.cell? ⟨B, 0, none⟩ = some (.slice a n cap)) (hs : SegS w a S) (hn : Hid (S.length = n)) (hl : n ≤ 1073741824) (hok : Hid (Ok16 S n)) (hRB : R B) (hRa : ∀ b off, a = some ⟨b, off, none⟩ → 0 < S.length → R b) :
    Seq16 m Tryz.prog 87 #[.pointer (some ⟨B, 0, none⟩)] (wl16 S n) R w := by
  intro l J PX W hW hJ hP hY h0
  have hBW := hW.cell hB hRB
  have hsW := hs.kr hW hRa
  clear hB hs
  refine callsIn_of_wp Tryz.func87 rfl trivial ?_ rfl
  simp only [Tryz.ntmps87, List.size_toArray, List.length_cons, List.length_nil, Nat.reduceAdd, Nat.reduceSub, Array.replicate_succ, Array.replicate_zero, List.push_toArray, List.append_toArray, List.nil_append, List.cons_append]
  gi_wp2
  gi_loopw [3, 8] (fun t3 t8 wr => ∃ (i : Nat) (E : Nat → Prop), i ≤ n ∧ t8 = .int .i64 (i : Int) ∧ t3 = .int .i64 (pl16 S i) ∧ J i E wr ∧ Lo16 W.heap.size E wr ∧ Kr16 R W wr) (fun _ t8 _ => n - (intOf t8).toNat)
  case atStart => exact ⟨0, fun _ => False, Nat.zero_le _, rfl, rfl, h0, fun k hk => hk.elim, Kr16.refl _ _⟩
  case round =>
    obtain ⟨i, E, hi, rfl, rfl, hJi, hlo, hkr⟩ := hrel
    by_cases hlt : i < n
    · have hii : (i : Int) < (n : Int) := by omega
      have hi0 : (0 : Int) ≤ (i : Int) := by omega
      have hil : i < S.length := by rw [hn.out]; exact hlt
      obtain ⟨b, off, rfl, hT⟩ := (hsW.kr hkr hRa).at_ i hil
      have hc0 := hT.c0
      have hc1 := hT.c1
      have hc2 := hT.c2
      have hbd := ad16_le hok.out hlt
      have hpl := sa16_le i (hok.out.mono hi)
      obtain ⟨q1, q2, q3, q4, q5, q6⟩ := hbd
      obtain ⟨p1, p2, p3, p4⟩ := hpl
      have HPL : Hid (pl16 S (i + 1) = pl16 S i + (ad16 S i : Int) + sk16 S i) := rfl
      have hget := wl16_get (S := S) hlt
      have hsk : (S.getD i z16).2.2 = sk16 S i := rfl
      rw [← q3] at hc0
      rw [← q4] at hc1
      rw [hsk] at hc2
      have hsv : sv16 (S.getD i z16) = .agg #[.int .i64 (ad16 S i : Int), .int .i64 (cp16 S i : Int), .int .i64 (sk16 S i)] := by unfold sv16; rw [← q3, ← q4, hsk]
      rw [hsv] at hget
      obtain ⟨wA, hwA⟩ : ∃ wA, wA = wr.alloc (.cells #[.int .i64 (ad16 S i : Int), .int .i64 (cp16 S i : Int), .int .i64 (sk16 S i)] 108) := ⟨_, rfl⟩
      have tA : SpAt wA wr.heap.size 0 ((ad16 S i : Int), (cp16 S i : Int), sk16 S i) := boxS hwA
      have bA : Below wr.heap.size wr wA := by rw [hwA]; exact below_box16 _ _
      have szA : wA.heap.size = wr.heap.size + 1 := by rw [hwA]; simp
      obtain ⟨E', hE'⟩ : ∃ E' : Nat → Prop, E' = fun k => E k ∨ k = wr.heap.size := ⟨_, rfl⟩
      have hszr := hkr.size
      have hlo' : Lo16 W.heap.size E' wA := by
        intro k hk
        rw [hE'] at hk
        rcases hk with hk | hk
        · have := hlo k hk; omega
        · omega
      have hJA : J i E' wA := hJ i E E' wr wA hJi hlo (Kp.of_below bA) (fun k hk => by rw [hE']; exact .inl hk) (fun k hk => by rw [hE'] at hk; rcases hk with hk | hk; exact .inl hk; exact .inr (by omega)) hlo'
      have hkA : Kr16 R W wA := hkr.trans ⟨bA.size, fun k hk _ => bA.block k hk⟩
      have hEB : E' wr.heap.size := by rw [hE']; exact .inr rfl
      obtain ⟨fn, tmps, assign, body, hy, hR⟩ := hY i _ E' wA hget hJA hlo' hkA
      have hol := tA.lt
      have HTA : Hid (∀ W3, Kr16 (fun k => E' k ∨ R k) wA W3 → SpAt W3 wr.heap.size 0 ((ad16 S i : Int), (cp16 S i : Int), sk16 S i)) := fun W3 h3 => tA.of_block (h3.block _ hol (.inl hEB))
      have a0 := tA.c0
      have a1 := tA.c1
      have a2 := tA.c2
      obtain ⟨P0, hP0⟩ : ∃ P0, P0 = pl16 S (i + 1) := ⟨_, rfl⟩
      have hw1 : IntKind.i64.wrap ((ad16 S i : Int) + sk16 S i) = (ad16 S i : Int) + sk16 S i := IntWalk.i64_in _ (by omega)
      have hw2 : IntKind.i64.wrap (pl16 S i + ((ad16 S i : Int) + sk16 S i)) = P0 := by rw [hP0, HPL.out, IntWalk.i64_in _ (by omega)]; omega
      have HP0 : Hid (P0 = pl16 S (i + 1)) := hP0
      have HLO : Hid (Lo16 W.heap.size E' wA) := hlo'
      have HKA : Hid (Kr16 R W wA) := hkA
      rw [hwA] at hy a0 a1 a2
      have HWA : Hid (wA = wr.alloc (.cells #[.int .i64 (ad16 S i : Int), .int .i64 (cp16 S i : Int), .int .i64 (sk16 S i)] 108)) := hwA
      clear hT hget hsk hsv tA bA szA hE' hlo' hJA hkA hJi hP0 hwA q3 q4 hlo hkr HPL
      generalize pl16 S i = p at *
      generalize ad16 S i = ai at *
      generalize cp16 S i = ci at *
      generalize sk16 S i = si at *
      gi_wp2
      refine ⟨fun _ => by omega, ?_⟩
      rw [← HWA.out]
      refine hR.mono ?_
      rintro e W3 hyd
      cases e with
      | returned v =>
        obtain ⟨rfl, hJ3, hk3⟩ := hyd
        obtain ⟨e0, e1, e2⟩ := HTA.out W3 hk3
        simp only at e0 e1 e2
        have HJ3 : Hid (J (i + 1) E' W3) := hJ3
        have HL3 : Hid (Lo16 W.heap.size E' W3) := fun k hk => ⟨(HLO.out k hk).1, Nat.lt_of_lt_of_le (HLO.out k hk).2 hk3.size⟩
        have HK3 : Hid (Kr16 R W W3) := HKA.out.trans (hk3.mono fun k hk => .inr hk)
        clear hJ3 hk3 hR hy HTA HLO HKA
        gi_wp2
        go_roundw
        case rel => exact ⟨i + 1, E', by omega, by simp, by rw [HP0.out], HJ3.out, HL3.out, HK3.out⟩
        case measure => simp [intOf]; omega
      | panicked ch =>
        obtain ⟨hx, hk3⟩ := hyd
        have HL3 : Hid (Lo16 W.heap.size E' W3) := fun k hk => ⟨(HLO.out k hk).1, Nat.lt_of_lt_of_le (HLO.out k hk).2 hk3.size⟩
        have HX : Hid (PX ch E' W3) := hx
        clear hx hk3 hR hy HTA HLO HKA
        gi_wp2
        exact ⟨rfl, E', HL3.out, HX.out⟩
      | outgrown => exact hyd.elim
    · have hk2 : i = n := by omega
      have hneg : ¬ (i : Int) < (n : Int) := by omega
      have HJ : Hid (J (wl16 S n).length E wr) := by show J _ _ _; rw [wl16_len, ← hk2]; exact hJi
      clear hk2 hJi
      gi_wp2
      go_end0
      exact ⟨E, hlo, HJ.out⟩
end Go.Proofs.YtmfpdchfofffeaaGreatDoor
