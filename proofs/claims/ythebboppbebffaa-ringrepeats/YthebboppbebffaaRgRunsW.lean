
import Derived.Test.YthebboppbebffaaRgRuns
import Derived.LaidEqlPtr
namespace Go.Proofs.Ythebboppbebffaa
open Go.RowKit
set_option linter.unusedVariables false

theorem run_neq_ptr {P : Program} (w : World) {tp te : TypeId} {j : TypeInfo} {a b : Addr} {ca cb : Array Value} {ta tb : TypeId} (hp : P.underlying tp = some (.pointer te)) (hte : P.info? te = some j) (hsz : j.size ≠ 0)
    (hne : a ≠ b) (ha : w.heap[a.block]? = some (.cells ca ta (0, 0))) (hb : w.heap[b.block]? = some (.cells cb tb (0, 0))) :
    (binOp .neq tp (.pointer (some a)) (.pointer (some b))).run P w = .ok (.bool true) w := by
  have h : ∀ d : Nat, (Op.equalIn (d + 1) tp (.pointer (some a)) (.pointer (some b))).run P w = .ok false w := fun d => by
    simp [Op.equalIn, run_underlying hp, sizeOf, typeInfo, hte, hsz, run_sameAddr_other w hne ha hb]
  simp only [binOp]
  simp [Op.equal, Op.maxDepth, h 9999]
theorem ring_sized : (match Try.prog.info? 40 with | some i => i.size != 0 | none => false) = true := by kernel_rfl
theorem ring_info : ∃ j, Try.prog.info? 40 = some j ∧ j.size ≠ 0 := by
  have h := ring_sized
  split at h
  · rename_i i e
    exact ⟨i, e, by simpa using h⟩
  · cases h
theorem RuI.neq {w wr : World} {b bx b3 S : Nat} {F G H : Nat → Prop} {L : List Int} (h : RuI w wr b bx b3 S F G H L) : (binOp .neq 26 (.pointer (some ⟨b, 0, none⟩)) (.pointer (some ⟨b3, 0, none⟩))).run Try.prog wr = .ok (.bool true) wr := by
  obtain ⟨j, hj, hs⟩ := ring_info
  obtain ⟨c1, h1⟩ := h.r.hp
  obtain ⟨c2, h2⟩ := h.z.hp
  have hne := h.ne
  exact run_neq_ptr wr Try.underlying26 hj hs (fun e => hne (by cases e; rfl)) h1 h2
set_option maxRecDepth 100000 in
set_option maxHeartbeats 4000000 in
theorem runs6_no (s : Int) (hno : s < 1 ∨ 32768 < s) (ca : Option Addr) (n cc : Nat) (w : World) :
    Calls Try.prog 4 #[.int .i64 s, .slice ca n cc] w fun e w' => e = .returned (.bool true) ∧ Below w.heap.size w w' := by
  have C1 := pnew_no s hno w
  have C2 : Hid (∀ W, Calls Try.prog 12 #[.int .i64 s] W fun e w' => e = .returned (.tuple #[.pointer none, .int .i64 60]) ∧ w' = W) := rnew6_no s hno
  clear hno
  go_enter Try.func4, Try.ntmps4
  go_wp2_with fail
  refine C1.mono ?_
  rintro e w1 ⟨rfl, B1⟩
  have HB1 : Hid _ := B1
  clear B1
  go_wp2_with fail
  refine (C2.out w1).mono ?_
  rintro e w2 ⟨rfl, rfl⟩
  go_wp2_with fail
  refine (num6_any 60 _).mono ?_
  rintro e w3 ⟨rfl, rfl⟩
  go_wp2_with fail
  refine (awake6_any _).mono ?_
  rintro e w4 ⟨rfl, B4⟩
  have HB4 : Hid _ := B4
  clear B4
  go_wp2_with fail
  go_ret
  exact ⟨rfl, HB1.out.trans (HB4.out.mono HB1.out.size)⟩
set_option maxRecDepth 100000 in
set_option maxHeartbeats 4000000 in
theorem runs6_ok (S : Nat) (h1 : 1 ≤ S) (h2 : S ≤ 32768) (ca : Option Addr) (n cc : Nat) (O : Nat → CallD) (w : World) (h : SegC w ca n O) (hb : Hid (totC O n + 258 * n ≤ 70368744177000)) :
    Calls Try.prog 4 #[.int .i64 (S : Int), .slice ca n cc] w fun e w' => e = .returned (.bool true) ∧ Below w.heap.size w w' := by
  have C1 : Hid (∀ W, Calls Try.prog 11 #[.int .i64 (S : Int)] W fun e w' => ∃ b F, e = .returned (.tuple #[.pointer (some ⟨b, 0, none⟩), .int .i64 0]) ∧ RP w' b F S [] ∧ Below W.heap.size W w' ∧ ∀ k, F k → W.heap.size ≤ k) := pnew_ok S h1 h2
  have C2 : Hid (∀ W, Calls Try.prog 12 #[.int .i64 (S : Int)] W fun e w' => e = .returned (.tuple #[.pointer (some ⟨W.heap.size, 0, none⟩), .int .i64 0]) ∧ w' = W.alloc (.cells #[.int .i64 (S : Int), .slice none 0 0] 59)) := rnew6_ok S h1 h2
  have H1 : Hid (1 ≤ S) := h1
  have hnb : n ≤ 70368744177000 := by have := hb.out; omega
  clear h1
  go_enter Try.func4, Try.ntmps4
  go_wp2_with fail
  refine (C1.out w).mono ?_
  rintro e w1 ⟨b, F, rfl, R1, B1, N1⟩
  go_wp2_with fail
  refine (C2.out w1).mono ?_
  rintro e w2 ⟨rfl, hw2⟩
  have X2 : WR w2 w1.heap.size (RF w1.heap.size (.slice none 0 0)) S [] := WR.new (by rw [hw2]; exact heap_alloc_new _ _)
  have B2 : Below w1.heap.size w1 w2 := by rw [hw2]; exact (Below.refl _ _).alloc (Nat.le_refl _) _
  clear hw2
  have R2 := R1.old B2
  have J2 : Dj F (RF w1.heap.size (.slice none 0 0)) := fun k e1 e2 => by
    have := R1.lt k e1
    rcases e2 with e | e
    · omega
    · cases e
  have z1 := B1.size
  have z2 := B2.size
  have N2 : ∀ k, RF w1.heap.size (.slice none 0 0) k → w.heap.size ≤ k := fun k e => by
    rcases e with e | e
    · omega
    · cases e
  generalize w1.heap.size = bx at *
  generalize RF bx (.slice none 0 0) = G at *
  go_wp2_with fail
  refine (num6_any 0 _).mono ?_
  rintro e w3 ⟨rfl, rfl⟩
  go_wp2_with fail
  refine (awake6_any _).mono ?_
  rintro e w4 ⟨rfl, B4⟩
  go_wp2_with fail
  refine (C1.out w4).mono ?_
  rintro e w5 ⟨b3, H, rfl, R5, B5, N5⟩
  have z4 := B4.size
  have I5 : RuI w w5 b bx b3 S F G H [] := by
    refine ⟨(R2.old B4).old B5, (X2.old B4).old B5, R5, J2, fun k e1 e2 => ?_, ((B1.trans (B2.mono z1)).trans (B4.mono (by omega))).trans (B5.mono (by omega)), ?_⟩
    · have := N5 k e2
      rcases e1 with e | e
      · have := R2.lt k e; omega
      · have := X2.lt k e; omega
    · rintro k (e | e | e)
      · exact N1 k e
      · exact N2 k e
      · have := N5 k e; omega
  clear R1 B1 N1 R2 B2 z1 z2 X2 J2 N2 B4 z4 R5 B5 N5
  have CT := told6_any w5 I5.r I5.x (by simp) h2
  have HT : Hid (∀ wr F G L, RuI w wr b bx b3 S F G H L → L.length ≤ 70368744177000 → Calls Try.prog 13 #[.pointer (some ⟨b, 0, none⟩), .pointer (some ⟨bx, 0, none⟩)] wr fun e w' => e = .returned (.bool true) ∧ Below wr.heap.size wr w') := fun wr F G L I hl => told6_any wr I.r I.x (by omega) h2
  go_wp2_with fail
  refine CT.mono ?_
  rintro e w6 ⟨rfl, B6⟩
  have I6 := I5.old B6
  clear CT I5 B6
  go_wp2_with fail
  go_loopw [11] (fun ti wr => ∃ (i : Nat) (F G : Nat → Prop) (L : List Int), i ≤ n ∧ ti = .int .i64 (i : Int) ∧ RuI w wr b bx b3 S F G H L ∧ Hid (L.length ≤ totC O i + 258 * i)) (fun ti _ => n - (intOf ti).toNat)
  case atStart => exact ⟨0, F, G, [], by omega, rfl, I6, (by show _ ≤ _; simp)⟩
  case round =>
    obtain ⟨i, F', G', L, hi, rfl, I, HL⟩ := hrel
    clear I6 F G
    by_cases hin : i < n
    · have hii : (i : Int) < (n : Int) := by omega
      have h' := h.old I.bel
      obtain ⟨g, off, hca, c0, c1, c2, c3⟩ := h'.at_ i hin
      subst hca
      have ht := totC_le O hin
      have hl2 : L.length + (O i).p.length ≤ 70368744177000 := by have := HL.out; have := hb.out; omega
      have CD := do_any (M := (O i).p.length + 258) (O i) wr I.r I.x I.dj hl2 h2 (h'.seg i hin) (h'.cap i hin) (h'.nil i hin) (fun g off e h0 => by
        have h3 := (h.seg i hin).lt g off e h0
        exact ⟨fun e => by have := I.new g (.inl e); omega, fun e => by have := I.new g (.inr (.inl e)); omega⟩) (Nat.le_refl _)
      go_wp2_with fail
      refine CD.mono ?_
      intro e w7 q7
      obtain ⟨rfl, F7, G7, L7, I7, hl7⟩ := I.step q7
      have hl8 : L7.length ≤ totC O (i + 1) + 258 * (i + 1) := by have := HL.out; simp only [totC]; omega
      have hl9 : L7.length ≤ 70368744177000 := by
        have := hb.out
        have e : totC O (i + 1) = totC O i + (O i).p.length := rfl
        omega
      have HL8 : Hid _ := hl8
      have CT := HT.out w7 F7 G7 L7 I7 hl9
      clear CD q7 I c0 c1 c2 c3 h' hl7 hl8 hl9 hl2 ht
      go_wp2_with fail
      refine CT.mono ?_
      rintro e w8 ⟨rfl, B8⟩
      have I8 := I7.old B8
      clear CT I7 B8
      go_wp2_with fail
      go_roundw
      case rel => exact ⟨i + 1, F7, G7, L7, by omega, by go_num, I8, HL8⟩
      case measure => simp [intOf]; omega
    · have hjn : i = n := by omega
      subst hjn
      have HQ : Hid (∀ W, Below wr.heap.size wr W → (binOp .neq 26 (.pointer (some ⟨b, 0, none⟩)) (.pointer (some ⟨b3, 0, none⟩))).run Try.prog W = .ok (.bool true) W) := fun W hW => (I.old hW).neq
      have CT := ptotal_any I.z (by simp)
      have CH : Hid (∀ W, Below wr.heap.size wr W → Calls Try.prog 16 #[.pointer (some ⟨b3, 0, none⟩)] W fun e w' => e = .returned (.int .i64 (heldN S [] : Int)) ∧ Below W.heap.size W w') := fun W hW => pheld_any (I.z.old hW) (by simp)
      have h0 : heldN S [] = 0 := by simp [heldN]
      rw [h0] at CH
      rw [List.length_nil] at CT
      have HB : Hid _ := I.bel
      clear I h HL h0
      go_wp2_with fail
      refine CT.mono ?_
      rintro e w7 ⟨rfl, B7⟩
      go_wp2_with fail
      refine (CH.out _ B7).mono ?_
      rintro e w8 ⟨rfl, B8⟩
      have b8 := B7.trans (B8.mono B7.size)
      have hq := HQ.out w8 b8
      have HB8 : Hid _ := HB.out.trans (b8.mono HB.out.size)
      clear b8 B7 B8
      go_wp2_with fail
      go_ret
      exact ⟨rfl, HB8.out⟩
theorem runs6_any (s : Int) (ca : Option Addr) (n cc : Nat) (O : Nat → CallD) (w : World) (h : SegC w ca n O) (hb : Hid (totC O n + 258 * n ≤ 70368744177000)) :
    Calls Try.prog 4 #[.int .i64 s, .slice ca n cc] w fun e w' => e = .returned (.bool true) ∧ Below w.heap.size w w' := by
  by_cases hs : s < 1 ∨ 32768 < s
  · exact runs6_no s hs ca n cc w
  · obtain ⟨S, rfl⟩ : ∃ S : Nat, s = S := ⟨s.toNat, by omega⟩
    exact runs6_ok S (by omega) (by omega) ca n cc O w h hb
theorem ringRuns_walk (w : World) (s : Int) (h1 : -9223372036854775808 ≤ s) (h2 : s ≤ 9223372036854775807) (ca : Option Addr) (n cc : Nat) (O : Nat → CallD) (h : SegC w ca n O) (hb : totC O n + 258 * n ≤ 70368744177000) :
    Calls Try.prog 4 #[.int .i64 s, .slice ca n cc] w fun e w' => e = .returned (.bool true) ∧ Below w.heap.size w w' := runs6_any s ca n cc O w h hb
end Go.Proofs.Ythebboppbebffaa
