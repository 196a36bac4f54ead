import Derived.Test.YtppjcgkgemhilaaWrPut
namespace Go.Proofs.Ytppjcgkgemhilaa
open Go.RowKit
set_option linter.unusedVariables false

set_option maxHeartbeats 1000000 in
theorem writes_align (b bx B : Nat) (v u : Value) (L : List Bool) (x : Int) (n : Int) (w : World) (h : Pair w b bx B v u L) (hb : b ≠ bx) (hb1 : b < B) (hb2 : bx < B) (hl : L.length ≤ 1073741824) (ba : Option Addr) (bl bc : Nat) :
    Calls Try.prog 10 #[.pointer (some ⟨b, 0, none⟩), .pointer (some ⟨bx, 0, none⟩), .agg #[.int .i64 2, .int .u64 x, .int .i64 n, .slice ba bl bc]] w fun e w' => e = .returned (.bool true) ∧ Done w w' b bx B v u (alignL L) := by
  obtain ⟨wA, hwA⟩ : ∃ wA, wA = w.alloc (.cells #[.int .i64 2, .int .u64 x, .int .i64 n, .slice ba bl bc] 34) := ⟨_, rfl⟩
  have bA : Below w.heap.size w wA := by rw [hwA]; exact (Below.refl _ _).alloc (Nat.le_refl _) _
  have HW : Hid (wA = w.alloc (.cells #[.int .i64 2, .int .u64 x, .int .i64 n, .slice ba bl bc] 34)) := hwA
  have pA := h.old bA
  have CA := align_any b B v L wA pA.g (by omega)
  clear hwA
  go_enter Try.func10, Try.ntmps10
  go_wp2_with fail
  rw [← HW.out]
  refine CA.mono ?_
  rintro e wP ⟨rfl, v1, gP, kP, fP⟩
  have xX := pA.x.apartW pA.g kP hb hb1 hb2 pA.ap
  have CB := rwalign_any bx B u L wP xX (by omega)
  generalize padN L.length = pd at *
  go_wp2_with fail
  refine CB.mono ?_
  rintro e wR ⟨rfl, u1, gR, kR, fR⟩
  go_wp2
  go_ret
  exact ⟨by simp, Done.after bA (pair_wr pA hb hb1 hb2 gP kP fP gR kR fR) h.g.b_lt⟩

theorem lent_take (p : List Int) : (lentL p).take p.length = p := by unfold lentL; exact List.take_left
theorem lent_len (p : List Int) : (lentL p).length = p.length + 5 := by unfold lentL; simp

set_option maxHeartbeats 2000000 in
theorem writes_whole (b bx B N : Nat) (v u : Value) (L : List Bool) (x : Int) (n : Int) (w : World) (h : Pair w b bx B v u L) (hb : b ≠ bx) (hb1 : b < B) (hb2 : bx < B) (ba : Option Addr) (p : List Int) (bc : Nat) (hs : Seg w ba p) (hnil : ba = none → bc = 0) (hN : ∀ g off, ba = some ⟨g, off, none⟩ → 0 < p.length → g < N) (hNb : N ≤ b) (hNx : N ≤ bx) (hl : L.length ≤ 1073741824) (hl2 : p.length ≤ 1073741824) :
    Calls Try.prog 10 #[.pointer (some ⟨b, 0, none⟩), .pointer (some ⟨bx, 0, none⟩), .agg #[.int .i64 3, .int .u64 x, .int .i64 n, .slice ba p.length bc]] w fun e w' => e = .returned (.bool true) ∧ Done w w' b bx B v u (alignL L ++ bB p) := by
  obtain ⟨wA, hwA⟩ : ∃ wA, wA = w.alloc (.cells #[.int .i64 3, .int .u64 x, .int .i64 n, .slice ba p.length bc] 34) := ⟨_, rfl⟩
  have bA : Below w.heap.size w wA := by rw [hwA]; exact (Below.refl _ _).alloc (Nat.le_refl _) _
  have hA : wA.heap[w.heap.size]? = some (.cells #[.int .i64 3, .int .u64 x, .int .i64 n, .slice ba p.length bc] 34 (0, 0)) := by rw [hwA]; exact heap_new w _
  obtain ⟨hc0, _, _, hc3⟩ := four_cell hA
  obtain ⟨ob, hob⟩ : ∃ ob, ob = w.heap.size := ⟨_, rfl⟩
  have HW : Hid (wA = w.alloc (.cells #[.int .i64 3, .int .u64 x, .int .i64 n, .slice ba p.length bc] 34)) := hwA
  have HO : Hid (ob = w.heap.size) := hob
  have hbw := h.g.b_lt
  have hxw := h.x.b_lt
  have pA := h.old bA
  have hvl := h.g.own_lt
  have hul := h.x.own_lt
  rw [← hob] at hc0 hc3
  have hobv : ¬ WS b v ob := by
    rintro (e | e)
    · omega
    · have := (hvl ob e).2.1; omega
  have hobu : ¬ WS bx u ob := by
    rintro (e | e)
    · omega
    · have := (hul ob e).2.1; omega
  have newv : ∀ k, wA.heap.size ≤ k → ¬ WS b v k := by
    intro k hk
    have := bA.size
    rintro (e | e)
    · omega
    · have := (hvl k e).2.1; omega
  have newu : ∀ k, wA.heap.size ≤ k → ¬ WS bx u k := by
    intro k hk
    have := bA.size
    rintro (e | e)
    · omega
    · have := (hul k e).2.1; omega
  have inv : ∀ g off, ba = some ⟨g, off, none⟩ → 0 < p.length → ¬ WS b v g := by
    intro g off e hp
    have hg := hN g off e hp
    rintro (e2 | e2)
    · omega
    · have := (hvl g e2).1; omega
  have hobA : ob < wA.heap.size := World.block_lt_of_cell? wA _ hc0
  have sA : Seg wA ba p := hs.old bA
  clear hwA hob hA hvl hul hbw hxw
  go_enter Try.func10, Try.ntmps10
  go_wp2_with fail
  rw [← HW.out, ← HO.out]
  refine (lend_any ba p bc wA sA hnil (by omega)).mono ?_
  rintro e wL ⟨lg, lc, rfl, lown, bL⟩
  obtain ⟨hln, la', lc', hlv, lseg, hlx, hlc, _⟩ := own_seg lown (M := 255) (by decide) (lent_bd hs.mem)
  simp only [Value.slice.injEq] at hlv
  obtain ⟨rfl, _, rfl⟩ := hlv
  have lgN : wA.heap.size ≤ lg := (hlx _ rfl).2.2.1
  have pL := pA.old bL
  have sL : Seg wL ba p := sA.old bL
  have sPart : Seg wL (some ⟨lg, 0, none⟩) p := by have := lseg.take p.length; rwa [lent_take] at this
  have c3L := (bL.cell (p := ⟨ob, 3, none⟩) hobA).trans hc3
  have CW := whole_any b B v L (some ⟨lg, 0, none⟩) p lc wL pL.g sPart (by intro h; cases h) (by intro g off e _; cases e; exact newv _ lgN) (by omega)
  clear hlx hln lown hlc
  go_wp2_with fail
  refine CW.mono ?_
  rintro e wP ⟨rfl, v1, gP, kP, fP⟩
  have xX := pL.x.apartW pL.g kP hb hb1 hb2 pL.ap
  have c3P := (World.cell?_of_block (a := ⟨ob, 3, none⟩) (kP.block ob (Nat.lt_of_lt_of_le hobA bL.size) hobv)).trans c3L
  have sP : Seg wP ba p := sL.kp kP inv
  have lP : Seg wP (some ⟨lg, 0, none⟩) (lentL p) := lseg.kp kP (by intro g off e _; cases e; exact newv _ lgN)
  have CR := rwhole_any bx B u L ba p bc wP xX sP (fun g off e hp => by have := hN g off e hp; omega) (by omega)
  clear CW
  go_wp2_with fail
  refine CR.mono ?_
  rintro e wR ⟨rfl, u1, gR, kR, fR⟩
  have inu : ∀ g off, ba = some ⟨g, off, none⟩ → 0 < p.length → ¬ WS bx u g := by
    intro g off e hp
    have hg := hN g off e hp
    rintro (e2 | e2)
    · omega
    · have := (h.x.own_lt g e2).1; omega
  have c3R := (World.cell?_of_block (a := ⟨ob, 3, none⟩) (kR.block ob (Nat.lt_of_lt_of_le hobA (Nat.le_trans bL.size kP.size)) hobu)).trans c3P
  have sR : Seg wR ba p := sP.kp kR inu
  have lR : Seg wR (some ⟨lg, 0, none⟩) (lentL p) := lP.kp kR (by intro g off e _; cases e; exact newu _ lgN)
  have CK := kept_any ba (some ⟨lg, 0, none⟩) (lentL p) p lc bc wR lR sR hnil (by omega)
  rw [lent_len, beq_self_list] at CK
  have HD := pair_wr pL hb hb1 hb2 gP kP fP gR kR fR
  clear CR gP kP fP gR kR fR lP sP lseg c3L c3P xX
  go_wp2_with fail
  refine CK.mono ?_
  rintro e wK ⟨rfl, bK⟩
  go_wp2
  go_ret
  exact ⟨rfl, (Done.after bA (Done.after bL HD pA.g.b_lt) h.g.b_lt).then_old bK⟩
end Go.Proofs.Ytppjcgkgemhilaa
