
import Derived.Test.YtaipfcfmhdigfaaLzB
namespace Go.Proofs.Ytaipfcfmhdigfaa
open Go.RowKit
set_option linter.unusedVariables false
set_option linter.unusedSimpArgs false

/-! The law's own helpers over tokens: face, same, kept. -/
theorem info_tokA : (Try.prog.info? 56).map (fun i => (i.zero, i.size, i.bytes)) = some (some (.agg #[.int .u8 0, .int .i64 0, .int .i64 0]), 3, 24) := by kernel_rfl
/-- Two tokens behind a row of the call's own. -/
theorem wpList_appT2 {P : Program} {ops : Array Oper} {rest : List Oper} {o : Oper} {a : Act} {Q : Exit → Act → World → Prop} (hgd : o.guard = none) (s x : Operand) (t : TypeId)
    (ho : o.op = .call { callee := .builtin .append, args := #[s, x], argTypes := #[t, t] })
    (base : Nat) (e : TypeId) (i : TypeInfo) (z : Value) (bytes : Nat) (ht : P.underlying t = some (.slice e)) (hi : P.info? e = some i) (hz : i.zero = some z)
    (hsize : i.size = 3) (hby : i.bytes = bytes) (hzs : z.cells.size = 3) (w0 : World) (y y' : Tok7)
    {ra : Option Addr} {n rc : Nat} {l : List Tok7} (hown : w0.ownsRow base e 3 (.slice ra n rc) n (flatT l)) (hs : a.eval s = .slice ra n rc) (hx : a.eval x = .slice (some ⟨w0.heap.size, 0, none⟩) 2 2)
    (h63 : n + 2 ≤ 140737488355328) (hbytes : (n + 2) * bytes ≤ 140737488355328) (hbase : base ≤ w0.heap.size)
    (h : ∀ (g c : Nat) (w' : World), w'.ownsRow base e 3 (.slice (some ⟨g, 0, none⟩) (n + 2) c) (n + 2) (flatT (l ++ [y, y'])) → Below base w0 w' → wpList P ops Q rest (a.put o.dst (.slice (some ⟨g, 0, none⟩) (n + 2) c)) w') : wpList P ops Q (o :: rest) a (w0.alloc (.cells #[.int .u8 y.lit, .int .i64 y.len, .int .i64 y.dist, .int .u8 y'.lit, .int .i64 y'.len, .int .i64 y'.dist] e)) := by
  have hnew : ∀ j u, ([.int .u8 y.lit, .int .i64 y.len, .int .i64 y.dist, .int .u8 y'.lit, .int .i64 y'.len, .int .i64 y'.dist] : List Value)[j]? = some u → (w0.alloc (.cells #[.int .u8 y.lit, .int .i64 y.len, .int .i64 y.dist, .int .u8 y'.lit, .int .i64 y'.len, .int .i64 y'.dist] e)).cell? ((⟨w0.heap.size, 0, none⟩ : Addr).add j) = some u := by
    intro j u hu
    have hadd : (⟨w0.heap.size, 0, none⟩ : Addr).add j = ⟨w0.heap.size, j, none⟩ := by unfold Addr.add; split <;> simp_all
    rw [hadd]
    have hh := heap_alloc_new w0 (.cells #[.int .u8 y.lit, .int .i64 y.len, .int .i64 y.dist, .int .u8 y'.lit, .int .i64 y'.len, .int .i64 y'.dist] e)
    simp only [World.cell?, hh]
    simpa using hu
  refine wpList_append_own _ hgd s x t ho base e i z 3 bytes ht hi hz hsize hby hzs (by decide) _ n (flatT l) hs (hown.alloc _) ⟨w0.heap.size, 0, none⟩ 2 2 [.int .u8 y.lit, .int .i64 y.len, .int .i64 y.dist, .int .u8 y'.lit, .int .i64 y'.len, .int .i64 y'.dist] hx rfl hnew (by intro u hu; simp only [List.mem_cons, List.not_mem_nil, or_false] at hu; rcases hu with rfl | rfl | rfl | rfl | rfl | rfl <;> rfl) (by unfold maxLen; omega) hbytes (by simp; omega) ?_
  intro v' w' h1 h2 _
  obtain ⟨g, c, hv, _⟩ := own_shapeT h1 (by omega)
  subst hv
  refine h g c w' (by rw [flatT_app]; exact h1) ?_
  have b1 : Below base w0 (w0.alloc (.cells #[.int .u8 y.lit, .int .i64 y.len, .int .i64 y.dist, .int .u8 y'.lit, .int .i64 y'.len, .int .i64 y'.dist] e)) := (Below.refl _ _).alloc hbase _
  exact b1.trans ((Below.refl _ _).grown h2 (Nat.le_trans hbase b1.size) (fun k hk => (hown.lt k hk).1))
def faceL (l : List Tok7) : List Tok7 := l ++ [⟨0, 77, 0⟩, ⟨0, 78, 0⟩]
theorem faceL_fit {l : List Tok7} (h : ∀ t ∈ l, t.Fit) : ∀ t ∈ faceL l, t.Fit := by
  intro t ht
  unfold faceL at ht
  rcases List.mem_append.1 ht with ht | ht
  · exact h t ht
  · simp at ht
    rcases ht with rfl | rfl <;> (unfold Tok7.Fit; decide)
def FaceQ (w : World) (l : List Tok7) (n : Nat) (e : Ending) (w' : World) : Prop := ∃ g c, e = .returned (.tuple #[.slice (some ⟨g, 0, none⟩) (n + 2) c, .slice (some ⟨g, 0, none⟩) n c]) ∧ w'.ownsRow w.heap.size 56 3 (.slice (some ⟨g, 0, none⟩) (n + 2) c) (n + 2) (flatT (faceL l)) ∧ Below w.heap.size w w'
set_option maxRecDepth 100000 in
set_option maxHeartbeats 2000000 in
theorem face7 (l : List Tok7) (a : Option Addr) (n cap : Nat) (hn : Hid (l.length = n)) (w : World) (hs : SegT w a l) (hl : n ≤ 1073741824) : Calls Try.prog 10 #[.slice a n cap] w (FaceQ w l n) := by
  obtain ⟨i0, hi, hz0, hz1, hz2⟩ := info_parts info_tokA
  go_enter Try.func10, Try.ntmps10
  go_wp2_with fail
  go_loopw [4, 9] (fun tl ti wr => ∃ (i oc : Nat) (oa : Option Addr), i ≤ n ∧ ti = .int .i64 (i : Int) ∧ tl = .slice oa i oc ∧ wr.ownsRow w.heap.size 56 3 (.slice oa i oc) i (flatT (l.take i)) ∧ Below w.heap.size w wr) (fun _ ti _ => n - (intOf ti).toNat)
  case atStart => exact ⟨0, 0, none, by omega, rfl, rfl, by rw [List.take_zero]; exact World.ownsRow_nil _ _ _ _, Below.refl _ _⟩
  case round =>
    obtain ⟨i, oc, oa, hi0, rfl, rfl, OO, BR⟩ := hrel
    have hsr := BR.size
    by_cases hin : i < n
    · have hii : (i : Int) < (n : Int) := by omega
      have hil : i < l.length := by rw [hn.out]; exact hin
      obtain ⟨b, off, rfl, hT⟩ := (hs.old BR).at_ i hil
      have HT : Hid (l.take (i + 1) = l.take i ++ [l.getD i tk0]) := takeT hil
      generalize l.getD i tk0 = t at *
      obtain ⟨wA, hwA⟩ : ∃ wA, wA = wr.alloc (.cells #[.int .u8 t.lit, .int .i64 t.len, .int .i64 t.dist] 73) := ⟨_, rfl⟩
      have bA : Below wr.heap.size wr wA := by rw [hwA]; exact below_box _ _
      have HWA : Hid (wA = wr.alloc (.cells #[.int .u8 t.lit, .int .i64 t.len, .int .i64 t.dist] 73)) := hwA
      have HSZ : Hid (wr.heap.size + 1 = wA.heap.size) := by show _ = _; rw [hwA]; simp
      have BA : Below w.heap.size w wA := BR.trans (bA.mono BR.size)
      have OA := own_belowT OO bA
      have hsA := BA.size
      have hc0 := hT.c0
      have hc1 := hT.c1
      have hc2 := hT.c2
      clear hwA hT OO
      obtain ⟨z, ln, ds⟩ := t
      simp only at hc0 hc1 hc2 HWA
      go_wp2_with (first | (at_builtin; rw [HSZ.out, ← HWA.out]; refine wpList_appT rfl (.tmp 13) (.tmp 21) 24 rfl w.heap.size 56 i0 _ 24 Try.underlying24 hi hz0 hz1 hz2 rfl wA ⟨z, ln, ds⟩ OA rfl rfl (by omega) (by omega) hsA ?_; intro ga gc w3 own3 b3))
      have B3 : Below w.heap.size w w3 := BA.trans b3
      go_roundw
      case rel => exact ⟨i + 1, gc, ga, by omega, by go_num, rfl, by rw [HT.out]; exact own3, B3⟩
      case measure => simp [intOf]; omega
    · have hge : ¬ (i : Int) < (n : Int) := by omega
      obtain rfl : i = n := by omega
      have HW : Hid (l.take i = l) := List.take_of_length_le (by rw [hn.out]; omega)
      rw [HW.out] at OO
      have hie : (i : Int) ≤ ((i + 2 : Nat) : Int) := by omega
      have hi0' : (0 : Int) ≤ (i : Int) := by omega
      clear HW hi0
      go_wp2_with (first | (at_builtin; refine wpList_appT2 rfl (.tmp 24) (.tmp 27) 24 rfl w.heap.size 56 i0 _ 24 Try.underlying24 hi hz0 hz1 hz2 rfl wr ⟨0, 77, 0⟩ ⟨0, 78, 0⟩ OO rfl rfl (by omega) (by omega) hsr ?_; intro g gc w3 own3 b3; have hc3 := (own_factsT own3).1; have hci : (i : Int) ≤ (gc : Int) := by omega))
      have B3 : Below w.heap.size w w3 := BR.trans b3
      go_quiet (fail)
      go_wp2
      go_ret2
      refine ⟨g, gc, rfl, ?_, ⟨B3.os, B3.tape, B3.output, B3.size, B3.block⟩⟩
      unfold faceL
      exact own_belowT own3 ⟨rfl, rfl, rfl, Nat.le_refl _, fun _ _ => rfl⟩
set_option maxRecDepth 100000 in
set_option maxHeartbeats 2000000 in
/-- The same tokens are the same. -/
theorem same7 (l : List Tok7) (a b : Option Addr) (n ca cb : Nat) (hn : Hid (l.length = n)) (w : World) (ha : SegT w a l) (hb : SegT w b l) (hl : n ≤ 1073741824) : Calls Try.prog 26 #[.slice a n ca, .slice b n cb] w fun e w' => e = .returned (.bool true) ∧ Below w.heap.size w w' := by
  go_enter Try.func26, Try.ntmps26
  go_wp2_with fail
  go_loopw [14] (fun ti wr => ∃ i : Nat, i ≤ n ∧ ti = .int .i64 (i : Int) ∧ Below w.heap.size w wr) (fun ti _ => n - (intOf ti).toNat)
  case atStart => exact ⟨0, by omega, rfl, Below.refl _ _⟩
  case round =>
    obtain ⟨i, hi0, rfl, BR⟩ := hrel
    by_cases hin : i < n
    · have hii : (i : Int) < (n : Int) := by omega
      have hil : i < l.length := by rw [hn.out]; exact hin
      obtain ⟨g, off, rfl, hT⟩ := (ha.old BR).at_ i hil
      obtain ⟨g2, off2, rfl, hT2⟩ := (hb.old BR).at_ i hil
      generalize l.getD i tk0 = t at *
      obtain ⟨wA, hwA⟩ : ∃ wA, wA = wr.alloc (.cells #[.int .u8 t.lit, .int .i64 t.len, .int .i64 t.dist] 56) := ⟨_, rfl⟩
      have bA : Below wr.heap.size wr wA := by rw [hwA]; exact below_box _ _
      have tA : TkAt wA wr.heap.size 0 t := by
        have h : wA.heap[wr.heap.size]? = some (.cells #[.int .u8 t.lit, .int .i64 t.len, .int .i64 t.dist] 56 (0, 0)) := by rw [hwA]; exact heap_alloc_new wr _
        refine ⟨?_, ?_, ?_⟩ <;> simp [World.cell?, h]
      have HWA : Hid (wA = wr.alloc (.cells #[.int .u8 t.lit, .int .i64 t.len, .int .i64 t.dist] 56)) := hwA
      have BA : Below w.heap.size w wA := BR.trans (bA.mono BR.size)
      have tB := hT2.of_block (bA.block g2 hT2.lt)
      obtain ⟨ob, hob⟩ : ∃ ob, ob = wr.heap.size := ⟨_, rfl⟩
      have HOB : Hid (ob = wr.heap.size) := hob
      rw [← hob] at tA
      obtain ⟨a0, a1, a2⟩ := tA
      obtain ⟨b0, b1, b2⟩ := tB
      obtain ⟨h0, h1, h2⟩ := hT
      clear hwA hob hT2
      obtain ⟨z, ln, ds⟩ := t
      simp only at h0 h1 h2 a0 a1 a2 b0 b1 b2 HWA
      go_wp2_with fail
      rw [← HWA.out, ← HOB.out]
      go_quiet (fail)
      go_wp2
      go_roundw
      case rel => exact ⟨i + 1, by omega, by go_num, ⟨BA.os, BA.tape, BA.output, BA.size, BA.block⟩⟩
      case measure => simp [intOf]; omega
    · have hge : ¬ (i : Int) < (n : Int) := by omega
      go_wp2_with fail
      go_ret
      exact ⟨rfl, BR⟩
set_option maxRecDepth 100000 in
set_option maxHeartbeats 2000000 in
theorem kept7 (l : List Tok7) (a b : Option Addr) (n ca cb : Nat) (hn : Hid (l.length = n)) (w : World) (ha : SegT w a (faceL l)) (hb : SegT w b l) (hc : n + 2 ≤ ca) (hl : n ≤ 1073741824) : Calls Try.prog 18 #[.slice a (n + 2) ca, .slice b n cb] w fun e w' => e = .returned (.bool true) ∧ Below w.heap.size w w' := by
  have hfl : (faceL l).length = n + 2 := by unfold faceL; rw [List.length_append, hn.out]; rfl
  obtain ⟨g, off, rfl, hT⟩ := ha.at_ n (by omega)
  obtain ⟨g', off', hgg, hT2⟩ := ha.at_ (n + 1) (by omega)
  cases hgg
  have e1 : (faceL l).getD n tk0 = ⟨0, 77, 0⟩ := by have := hn.out; simp [faceL, List.getD, ← this]
  have e2 : (faceL l).getD (n + 1) tk0 = ⟨0, 78, 0⟩ := by have := hn.out; simp [faceL, List.getD, ← this]
  rw [e1] at hT
  rw [e2] at hT2
  have st : SegT w (some ⟨g, off, none⟩) l := by
    have := ha.take n
    rwa [show (faceL l).take n = l by unfold faceL; rw [← hn.out]; simp] at this
  have CS := same7 l (some ⟨g, off, none⟩) b n ca cb hn w st hb hl
  have HT1 : Hid (∀ W, Below w.heap.size w W → TkAt W g (off + n * 3) ⟨0, 77, 0⟩ ∧ TkAt W g (off + (n + 1) * 3) ⟨0, 78, 0⟩) := fun W hW => ⟨hT.of_block (hW.block g hT.lt), hT2.of_block (hW.block g hT.lt)⟩
  obtain ⟨k, hk⟩ : ∃ k, k = n + 1 := ⟨_, rfl⟩
  obtain ⟨k2, hk2⟩ : ∃ k2, k2 = n + 2 := ⟨_, rfl⟩
  have hw1 : IntKind.i64.wrap ((n : Int) + 1) = (k : Int) := by rw [IntWalk.i64_in _ (by omega)]; omega
  have hw2 : IntKind.i64.wrap ((n : Int) + 2) = (k2 : Int) := by rw [IntWalk.i64_in _ (by omega)]; omega
  have hi1 : (n : Int) + 1 = (k : Int) := by omega
  have hi2 : (n : Int) + 2 = (k2 : Int) := by omega
  rw [← hk] at HT1
  rw [← hk2]
  rw [← hk2] at hc
  have h1 : (n : Int) < (k2 : Int) := by omega
  have h2 : (k : Int) < (k2 : Int) := by omega
  have h3 : (n : Int) ≤ (ca : Int) := by omega
  have h4 : (0 : Int) ≤ (n : Int) := by omega
  clear hk hk2 hT hT2 hfl e1 e2 st ha
  go_enter Try.func18, Try.ntmps18
  go_wp2_with fail
  refine CS.mono ?_
  rintro e w1 ⟨rfl, b1⟩
  obtain ⟨⟨c0, c1, c2⟩, ⟨d0, d1, d2⟩⟩ := HT1.out w1 b1
  simp only at c1 d1
  go_wp2_with fail
  go_ret
  exact ⟨rfl, b1⟩
end Go.Proofs.Ytaipfcfmhdigfaa
