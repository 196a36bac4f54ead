
import Derived.Test.YthebboppbebffaaRgDo3
namespace Go.Proofs.Ythebboppbebffaa
open Go.RowKit
set_option linter.unusedVariables false

/-- A guarded operation whose guard is met is as one without a guard. -/
theorem wpList_ung {P : Program} {ops : Array Oper} {Q : Exit → Act → World → Prop} {a : Act} {w : World} {rest : List Oper} {o : Oper} (hw : Region.wanted o (yielded ops a.tmps) = true) (h : wpList P ops Q ({ o with guard := none } :: rest) a w) : wpList P ops Q (o :: rest) a w := by
  unfold wpList at h ⊢
  rw [if_pos hw]
  rw [if_pos (by simp [Region.wanted])] at h
  exact h
def lnt6 (p : List Int) : List Int := p ++ [91, 92, 93]
theorem lnt6_bd {p : List Int} (h : ∀ z ∈ p, 0 ≤ z ∧ z ≤ 255) : ∀ z ∈ lnt6 p, 0 ≤ z ∧ z ≤ 255 := fun z hz => by
  unfold lnt6 at hz
  rcases List.mem_append.1 hz with hz | hz
  · exact h z hz
  · simp at hz; omega
set_option maxRecDepth 100000 in
set_option maxHeartbeats 4000000 in
theorem do_put {b bx S M : Nat} {F G : Nat → Prop} {L : List Int} (p : List Int) (D N : Int) (ba : Option Addr) (np bc : Nat) (w : World) (h : RP w b F S L) (hw : WR w bx G S L) (hd : Dj F G) (hl : L.length ≤ 70368744177000) (hS : S ≤ 32768) (hnp : Hid (p.length = np)) (hs : Seg w ba p) (hcap : np ≤ bc) (hnil : ba = none → bc = 0) (hfar : ∀ g off, ba = some ⟨g, off, none⟩ → 0 < p.length → ¬ F g ∧ ¬ G g) (hM : np ≤ M) (hlp : L.length + np ≤ 70368744177000) :
    Calls Try.prog 14 #[.pointer (some ⟨b, 0, none⟩), .pointer (some ⟨bx, 0, none⟩), .agg #[.int .i64 0, .slice ba np bc, .int .i64 D, .int .i64 N]] w fun e w' => DoQ w b bx S M F G L e w' := by
  have I : DoI w _ b bx S F G L 0 D N ba np bc w.heap.size := DoI.new h hw hd
  obtain ⟨wA, hwA⟩ : ∃ wA, wA = w.alloc (.cells #[.int .i64 0, .slice ba np bc, .int .i64 D, .int .i64 N] 36) := ⟨_, rfl⟩
  rw [← hwA] at I
  have HWA : Hid (wA = w.alloc (.cells #[.int .i64 0, .slice ba np bc, .int .i64 D, .int .i64 N] 36)) := hwA
  obtain ⟨ob, hob⟩ : ∃ ob, ob = w.heap.size := ⟨_, rfl⟩
  have HOB : Hid (ob = w.heap.size) := hob
  rw [← hob] at I
  obtain ⟨c0, c1, c2, c3⟩ := I.c
  have hsz := I.sz
  have hoA : ob < wA.heap.size := by omega
  have bA := I.bel
  clear hwA hob h hw
  obtain ⟨i0, hi, hz0, hz1, hz2⟩ := info_parts info_u8r
  have sA : Seg wA ba p := hs.old bA
  have hFl : ∀ k, F k → k < w.heap.size := fun k e => I.lt k (.inl e)
  have hGl : ∀ k, G k → k < w.heap.size := fun k e => I.lt k (.inr e)
  have zA := bA.size
  have hpb := hs.mem
  have HLN : Hid ((lnt6 p).length = np + 3) := by show _ = _; simp [lnt6, hnp.out]
  have hnilrow : wA.ownsRow wA.heap.size 5 1 (.slice none 0 0) 0 [] := World.ownsRow_nil _ _ _ _
  go_enter Try.func14, Try.ntmps14
  go_wp2_with (first
    | (at_builtin; rw [← HWA.out, ← HOB.out]; refine wpList_appS rfl (.const (.slice none 0 0)) (.tmp 30) 34 rfl wA.heap.size 5 i0 (.int .u8 0) 1 Try.underlying34 hi hz0 hz1 hz2 rfl hnilrow sA hnil rfl (by rw [hnp.out]; rfl) (by rw [hnp.out]; omega) (by rw [hnp.out]; omega) (Nat.le_refl _) ?_; intro a1 k1 w1 own1 hg1 hf1 hn1; have b1 : Below wA.heap.size wA w1 := below_own6 hnilrow hg1 (Nat.le_refl _); clear hf1 hn1 hg1; rw [Nat.zero_add, List.nil_append, hnp.out] at own1; rw [Nat.zero_add, hnp.out]; have s91 := seg_litB w1 [91, 92, 93] (by decide); have z1 := b1.size)
    | (at_builtin; refine wpList_appS rfl (.tmp 31) (.tmp 32) 34 rfl wA.heap.size 5 i0 (.int .u8 0) 1 Try.underlying34 hi hz0 hz1 hz2 rfl (own1.alloc _) s91 (by intro h; cases h) rfl rfl (by simp; omega) (by simp; omega) (by simp; omega) ?_; intro a2 k2 w2 own2 hg2 hf2 hn2; have b2 : Below wA.heap.size wA w2 := (b1.trans ((Below.refl _ _).alloc b1.size _)).trans (below_own6 (own1.alloc _) hg2 (by simp; omega)); clear hf2 hn2 hg2; rw [show ([91, 92, 93] : List Int).length = 3 from rfl] at own2 ⊢; rw [← List.map_append] at own2; change w2.ownsRow wA.heap.size 5 1 (.slice a2 (np + 3) k2) (np + 3) ((lnt6 p).map (Value.int .u8)) at own2; obtain ⟨g2, k2', hv2, hk2, hg2a, hg2b⟩ := own_shape own2 (by omega); simp only [Value.slice.injEq] at hv2; obtain ⟨rfl, _, rfl⟩ := hv2; have d1 : w2.cell? ⟨ob, 1, none⟩ = some (.slice ba np bc) := (b2.cell (p := ⟨ob, 1, none⟩) hoA).trans c1; clear own1 s91 b1 z1 c0 c1 c2 c3; have hk3 : np ≤ k2 := by omega))
  have hg2F : ¬ F g2 := fun e => by have := hFl _ e; omega
  have R2 : RP w2 b F S L := I.r.kp (Kp.of_below b2) (fun _ _ e => e)
  obtain ⟨q2, a2', k2', hv2, s2, _⟩ := own_seg own2 (M := 255) (by decide) (lnt6_bd hpb)
  cases hv2
  have sP : Seg w2 (some ⟨g2, 0, none⟩) p := by
    have h := s2.take np
    rwa [show (lnt6 p).take np = p by unfold lnt6; rw [← hnp.out, List.take_left]] at h
  refine (pput_any (some ⟨g2, 0, none⟩) p np k2 hnp R2 sP hk3 (by intro h; cases h) (fun g off e _ hF => by cases e; exact hg2F hF) (by omega)).mono ?_
  rintro e w3 ⟨rfl, F3, R3, K3, P3⟩
  have hobF : ¬ F ob := fun e => by have := hFl _ e; have := HOB.out; omega
  have z2 := b2.size
  have z3 := K3.size
  have d3 : w3.cell? ⟨ob, 1, none⟩ = some (.slice ba np bc) := (World.cell?_of_block (a := ⟨ob, 1, none⟩) (K3.block ob (by omega) hobF)).trans d1
  have own3 := own_kp own2 K3 (fun k e => by cases e; exact hg2F)
  have sB3 : Seg w3 ba p := (sA.old b2).kp K3 (fun g off e h0 => (hfar g off e h0).1)
  have s3 : Seg w3 (some ⟨g2, 0, none⟩) (lnt6 p) := s2.kp K3 (fun g off e _ => by cases e; exact hg2F)
  have hnil3 : w3.ownsRow w3.heap.size 5 1 (.slice none 0 0) 0 [] := World.ownsRow_nil _ _ _ _
  clear hnilrow own2 s2 sP d1 q2 sA R2
  go_wp2_with (first
    | (at_builtin; refine wpList_ung rfl ?_; refine wpList_appS rfl (.const (.slice none 0 0)) (.tmp 46) 34 rfl w3.heap.size 5 i0 (.int .u8 0) 1 Try.underlying34 hi hz0 hz1 hz2 rfl hnil3 sB3 hnil rfl (by rw [hnp.out]; rfl) (by rw [hnp.out]; omega) (by rw [hnp.out]; omega) (Nat.le_refl _) ?_; intro a4 k4 w4 own4 hg4 hf4 hn4; have b4 : Below w3.heap.size w3 w4 := below_own6 hnil3 hg4 (Nat.le_refl _); clear hf4 hn4 hg4; rw [Nat.zero_add, List.nil_append, hnp.out] at own4; rw [Nat.zero_add, hnp.out]; have s94 := seg_litB w4 [91, 92, 93] (by decide); have z4 := b4.size)
    | (at_builtin; refine wpList_ung rfl ?_; refine wpList_appS rfl (.tmp 47) (.tmp 48) 34 rfl w3.heap.size 5 i0 (.int .u8 0) 1 Try.underlying34 hi hz0 hz1 hz2 rfl (own4.alloc _) s94 (by intro h; cases h) rfl rfl (by simp; omega) (by simp; omega) (by simp; omega) ?_; intro a5 k5 w5 own5 hg5 hf5 hn5; have b5 : Below w3.heap.size w3 w5 := (b4.trans ((Below.refl _ _).alloc b4.size _)).trans (below_own6 (own4.alloc _) hg5 (by simp; omega)); clear hf5 hn5 hg5; rw [show ([91, 92, 93] : List Int).length = 3 from rfl] at own5 ⊢; rw [← List.map_append] at own5; change w5.ownsRow w3.heap.size 5 1 (.slice a5 (np + 3) k5) (np + 3) ((lnt6 p).map (Value.int .u8)) at own5; clear own4 s94 b4 z4))
  obtain ⟨q5, a5', k5', hv5, s5, _⟩ := own_seg own5 (M := 255) (by decide) (lnt6_bd hpb)
  cases hv5
  have CS := same6_any (some ⟨g2, 0, none⟩) a5 (lnt6 p) (lnt6 p) k2 k5 w5 (s3.old b5) s5
  rw [HLN.out, show (lnt6 p == lnt6 p) = true by simp] at CS
  have z5 := b5.size
  have own6 := own_kp own3 (Kp.of_below (S := fun _ => False) b5) (fun _ _ e => e)
  have d5 : w5.cell? ⟨ob, 1, none⟩ = some (.slice ba np bc) := (b5.cell (p := ⟨ob, 1, none⟩) (by show ob < _; omega)).trans d3
  have HKX : Hid (∀ wr, Kp (fun k => k = g2) w5 wr → Seg wr ba p ∧ wr.cell? ⟨ob, 1, none⟩ = some (.slice ba np bc) ∧ WR wr bx G S L ∧ RP wr b F3 S (L ++ p) ∧ Kp F w wr) := by
    intro wr K
    have X5 : WR w5 bx G S L := (((I.x.kp (Kp.of_below b2) (fun _ _ e => e)).kp K3 hd.symm).old b5)
    refine ⟨(sB3.old b5).kp K (fun g off e h0 h1 => by have := hs.lt g off e h0; omega), (World.cell?_of_block (a := ⟨ob, 1, none⟩) (K.block ob (by omega) (fun e => by omega))).trans d5, X5.kp K (fun k h1 h2 => by have := hGl k h1; omega), (R3.old b5).kp K (fun k h1 h2 => ?_), ?_⟩
    · rcases P3 k h1 with e | e
      · have := hFl k e; omega
      · omega
    · exact ((((Kp.of_below bA).trans (Kp.of_below (S := F) b2) (fun _ _ e => e)).trans K3 (fun _ _ e => e)).trans (Kp.of_below (S := F) b5) (fun _ _ e => e)).trans K (fun k hk e => by omega)
  clear own5 q5 s5 d5 d3 own3 sB3 s3 hnil3 R3 I K3
  refine CS.mono ?_
  rintro e w6 ⟨rfl, hw6⟩
  subst w6
  clear CS
  have HLX : Hid ((lnt6 p).length = np + 3) := HLN
  have HNP : Hid (np ≤ 70368744177000) := by show _ ≤ _; omega
  have hnpb : np ≤ 70368744177000 := HNP.out
  generalize hzz : lnt6 p = zs at *
  clear hzz HLN
  obtain ⟨m, hm⟩ : ∃ m, m = np + 3 := ⟨_, rfl⟩
  rw [← hm] at own6 HLX ⊢
  have HM : Hid (m = np + 3) := hm
  have hmb : m ≤ 70368744177003 := by omega
  clear hm
  go_wp2_with fail
  go_loopw [10] (fun tj wr => ∃ (j : Nat) (A : List Int), j ≤ m ∧ tj = .int .i64 (j : Int) ∧ Hid (A.length = m) ∧ wr.ownsRow wA.heap.size 5 1 (.slice (some ⟨g2, 0, none⟩) m k2) m (A.map (Value.int .u8)) ∧ Kp (fun k => k = g2) w5 wr) (fun tj _ => m - (intOf tj).toNat)
  case atStart => exact ⟨0, zs, by omega, rfl, HLX, own6, Kp.refl _ _⟩
  case round =>
    obtain ⟨j, A, hj, rfl, HA, OJ, KJ⟩ := hrel
    clear own6
    by_cases hjm : j < m
    · have hji : (j : Int) < (m : Int) := by omega
      have d0 := own_cellB OJ (i := j) (by have := HA.out; omega)
      have f0 := OJ.frozenAt j
      obtain ⟨OS, GS⟩ := OJ.stored j (.int .u8 94)
      rw [← List.map_set] at OS
      have HOS : Hid _ := OS
      have HB : Hid _ := KJ.trans (S' := fun k => k = g2) (Kp.grown GS (fun i hi => by cases hi; rfl)) (fun _ _ e => e)
      have HA2 : Hid ((A.set j 94).length = m) := by show _ = _; rw [List.length_set]; exact HA.out
      clear OS GS
      generalize A.getD j 0 = zz at *
      go_wp2_with fail
      go_roundw
      case rel => exact ⟨j + 1, A.set j 94, by omega, by go_num, HA2, HOS.out, HB.out⟩
      case measure => simp [intOf]; omega
    · have hjn : j = m := by omega
      subst hjn
      obtain ⟨s9, d9, X9, R9, K9⟩ := HKX.out _ KJ
      have HK9 : Hid _ := K9
      have HR9 : Hid _ := R9
      have z9 := KJ.size
      clear K9 R9 OJ
      generalize wr = w9 at *
      have CW := wput_any ba p np bc hnp X9 s9 hnil (by omega)
      go_wp2_with fail
      refine CW.mono ?_
      rintro e w10 ⟨rfl, G', X10, K10, P10⟩
      go_wp2_with fail
      go_ret
      have hF3G : Dj F3 G := hd.fresh P3 (fun k e => by have := hGl k e; omega)
      have hR9 : RP w9 b F3 S (L ++ p) := HR9.out
      refine ⟨rfl, F3, G', L ++ p, hR9.kp K10 hF3G, X10, (hF3G.symm.fresh P10 (fun k e => hR9.lt k e)).symm, ?_, ?_, ?_⟩
      · exact (HK9.out.mono (fun k _ e => Or.inl e)).trans K10 (fun k _ e => .inr e)
      · rintro k (e | e)
        · rcases P3 k e with e | e
          · exact .inl (.inl e)
          · exact .inr (by omega)
        · rcases P10 k e with e | e
          · exact .inl (.inr e)
          · exact .inr (by omega)
      · rw [List.length_append, hnp.out]; omega
end Go.Proofs.Ythebboppbebffaa
