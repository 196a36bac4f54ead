import Derived.Test.YtfogknlinmchjaaPax
import Derived.Test.YtfogknlinmchjaaPay
import Derived.Test.YtfogknlinmchjaaPas
namespace Go.Proofs.Ytfogknlinmchjaa
open Go.RowKit
set_option linter.unusedVariables false

/-! FindFewest: the walk. -/
theorem w6414 (v : Nat) (h : v ≤ 501) : wrap64 (v : Int) = (v : Int) := IntWalk.wrap64_in _ ⟨by omega, by omega⟩
theorem seg_nil14 (w : World) (a : Option Addr) : Seg w a [] := SegK.nil (by decide) w a
theorem addw14 (g j : Nat) : (⟨g, 0, none⟩ : Addr).add j = ⟨g, j, none⟩ := by unfold Addr.add; split <;> simp_all
theorem own_somw14 {w : World} {base n cap : Nat} {e : TypeId} {b : Option Addr} {xs : List Value} (h : w.ownsRow base e 3 (.slice b n cap) n xs) (hn : 0 < n) : ∃ g, b = some ⟨g, 0, none⟩ ∧ n ≤ cap := by
  rcases h.2 with ⟨h1, h2⟩ | ⟨g, cp, cur, h1, h2, h3, h4, _⟩
  · omega
  · simp only [Value.slice.injEq] at h1
    obtain ⟨rfl, _, rfl⟩ := h1
    exact ⟨g, rfl, h4⟩
theorem own_atw14 {w : World} {base n cap g : Nat} {e : TypeId} {F : List Mt14} (h : w.ownsRow base e 3 (.slice (some ⟨g, 0, none⟩) n cap) n (flatM14 F)) {i : Nat} {x : Mt14} (hx : F[i]? = some x) : w.cell? ⟨g, i * 3, none⟩ = some (.int .i64 (x.old : Int)) ∧ w.cell? ⟨g, i * 3 + 1, none⟩ = some (.int .i64 (x.new : Int)) ∧ w.cell? ⟨g, i * 3 + 2, none⟩ = some (.int .i64 (x.len : Int)) := by
  obtain ⟨q0, q1, q2⟩ := flatM14_get F i x hx
  have c0 := h.cells (g := g) rfl (i * 3) _ q0
  have c1 := h.cells (g := g) rfl (i * 3 + 1) _ q1
  have c2 := h.cells (g := g) rfl (i * 3 + 2) _ q2
  rw [addw14] at c0 c1 c2
  exact ⟨c0, c1, c2⟩
set_option maxRecDepth 100000 in
set_option maxHeartbeats 16000000 in
theorem findFewest_walk (w : World) (a : Option Addr) (z : List Int) (ca : Nat) (hs : Seg w a z) (hc : z.length ≤ ca) (hnil : a = none → ca = 0) (hl : z.length ≤ 140737488351232) (pa : Option Addr) (p : List Int) (pc : Nat) (hp : Seg w pa p) (hpc : p.length ≤ pc) (hpn : pa = none → pc = 0) (hpl : p.length ≤ 140737488351232) :
    Calls Try.prog 7 #[.slice a z.length ca, .slice pa p.length pc] w fun e w' => e = .returned (.bool true) ∧ Below w.heap.size w w' := by
  generalize hn0 : z.length = n at *
  have hn : Hid (z.length = n) := hn0
  generalize hm0 : p.length = m at *
  have hm : Hid (p.length = m) := hm0
  clear hn0 hm0
  have HAW : Hid (∀ W, Below w.heap.size w W → Calls Try.prog 9 #[] W fun e w' => e = .returned (.bool true) ∧ Below w.heap.size w w' ∧ Below W.heap.size W w') := fun W hb => (pawk14 W).mono fun e w' ⟨he, hB⟩ => ⟨he, hb.trans (hB.mono hb.size), hB⟩
  by_cases h5 : ¬ (n ≤ 500 ∧ m ≤ 500)
  · have AW := HAW.out w (Below.refl _ _)
    clear hs hp
    have hcs : (500 : Int) < (n : Int) ∨ (¬ (500 : Int) < (n : Int) ∧ (500 : Int) < (m : Int)) := by omega
    rcases hcs with c1 | ⟨c1, c2⟩
    all_goals
      go_enter Try.func7, Try.ntmps7
      go_wp2_with (first
        | (go_at_call 9; refine AW.mono ?_; rintro e2 w2 ⟨rfl, B2, -⟩))
      go_ret
      exact ⟨rfl, B2⟩
  · have h5 : n ≤ 500 ∧ m ≤ 500 := by omega
    obtain ⟨h51, h52⟩ := h5
    have h51i : ¬ (500 : Int) < (n : Int) := by omega
    have h52i : ¬ (500 : Int) < (m : Int) := by omega
    have HN := pidx14 a z n ca w hs hnil hn (by omega)
    have HSP : Hid (∀ W, Below w.heap.size w W → Seg W pa p) := fun W hb => hp.old hb
    have HCV : Hid (∀ W q (X : List Int) L c, Below w.heap.size w W → Seg W q X → X.length = L → ∀ d, (convert 22 9 (.slice q L c)).run Try.prog (W.drewN d) = .ok (.string (strOfNums X)) (W.drewN d)) := fun W q X L c hb hq hL d => by
      have h8 := run_conv_segS (P := Try.prog) c (hq.drewN d) 22 5 9 Try.underlying22 Try.underlying5 Try.underlying9
      rw [hL] at h8
      exact h8
    have HSZ : Hid (∀ W, Below w.heap.size w W → Seg W a z) := fun W hb => hs.old hb
    obtain ⟨k, hk⟩ : ∃ k, k = (fc14 z p).length := ⟨_, rfl⟩
    have hkm : k ≤ m := by rw [hk, ← hm.out]; exact fc14_le z p
    have HKL : Hid ((fc14 z p).length = k) := hk.symm
    clear hs hp hk
    go_enter Try.func7, Try.ntmps7
    go_wp2_with (first
      | (go_at_call 8; refine HN.mono ?_; rintro e1 w1 ⟨b, A, rfl, hI, B1⟩; clear HN)
      | (go_at_call 18; fail))
    have C2 := pfac14 b n z A pa p m pc w1 hI (HSP.out w1 B1) hm (by omega) hpc
    unfold FcQ14 at C2
    rw [HKL.out] at C2
    have HARZ : Hid (Ar12 z.length (S12 z) A) := hI.arz
    have HCT0 : Hid (∀ W pa' q k pc', Below w1.heap.size w1 W → Seg W pa' q → q.length = k → k ≤ 500 → Calls Try.prog 20 #[.pointer (some ⟨b, 0, none⟩), .slice pa' k pc'] W fun e w' => e = .returned (.tuple #[.int .i64 ((hi14 z q - lo14 z q : Nat) : Int), .int .i64 0]) ∧ Below W.heap.size W w') := fun W pa' q k pc' hb hq hk hkb => pcount14 b n z A pa' q k pc' W (hI.old hb) hq hk (by omega)
    clear hI
    refine C2.mono ?_
    rintro e2 w2 ⟨ra, rc, rfl, ol, B12⟩
    have B2 := B1.trans (B12.mono B1.size)
    have AW := HAW.out w2 B2
    clear C2
    go_wp2_with (first
      | (go_at_call 9; refine AW.mono ?_; rintro e3 w3 ⟨rfl, B3, B23⟩; clear AW))
    have B13 := B12.trans (B23.mono B12.size)
    have HOL : Hid (∀ W, Below w3.heap.size w3 W → W.ownsRow w1.heap.size 44 3 (.slice ra k rc) k (flatM14 (fc14 z p))) := fun W hb => own_below14 (own_below14 ol B23) hb
    have HB3 : Hid (∀ W, Below w3.heap.size w3 W → Below w.heap.size w W ∧ Below w1.heap.size w1 W) := fun W hb => ⟨B3.trans (hb.mono B3.size), B13.trans (hb.mono B13.size)⟩
    have HS0 : Hid (0 = (st14 z p 0).1) := rfl
    clear ol B12 B2 B23 B13 B3
    go_loopw [9, 54] (fun ta ti wr => ∃ (i at_ : Nat), i ≤ k ∧ at_ ≤ m ∧ ta = .int .i64 at_ ∧ ti = .int .i64 i ∧ Hid (at_ = (st14 z p i).1) ∧ Below w3.heap.size w3 wr) (fun _ ti _ => k - (intOf ti).toNat)
    case atStart => exact ⟨0, 0, Nat.zero_le _, Nat.zero_le _, rfl, rfl, HS0, Below.refl _ _⟩
    case round =>
      obtain ⟨i, at_, hik, ham, rfl, rfl, HAT, hB⟩ := hrel
      obtain ⟨hBw, hB1⟩ := HB3.out wr hB
      by_cases h1 : i < k
      · have h1i : (i : Int) < (k : Int) := by omega
        obtain ⟨f1, f2, f3⟩ := fc14_get z p (i := i) (by rw [HKL.out]; exact h1)
        rw [← HAT.out] at f1 f2 f3
        rw [hm.out] at f1
        have oW := HOL.out wr hB
        obtain ⟨gl, rfl, hrc⟩ := own_somw14 oW (by omega)
        obtain ⟨a0, a1, a2⟩ := own_atw14 oW f2
        simp only at a0 a1 a2
        obtain ⟨t1, t2⟩ := part14 z (p.drop at_)
        rw [hn.out] at t2
        have sp := HSP.out wr hBw
        obtain ⟨pb, po, rfl, -⟩ := sp.at_ 0 (by rw [hm.out]; omega)
        have t3 := mx14_le z (p.drop at_)
        rw [List.length_drop, hm.out] at t3
        have HF3 : Hid ((st14 z p (i + 1)).1 = at_ + max 1 (mx14 z (p.drop at_))) := f3
        have HC1 := cnt14 HARZ.out (q := p.drop at_) (k := 1) (Nat.le_refl _) (by rw [List.length_drop, hm.out]; omega)
        have HCT : Hid (∀ W L c, Below wr.heap.size wr W → L = 1 → Calls Try.prog 20 #[.pointer (some ⟨b, 0, none⟩), .slice (some ⟨pb, po + at_, none⟩) L c] W fun e w' => e = .returned (.tuple #[.int .i64 ((hi14 z ((p.drop at_).take 1) - lo14 z ((p.drop at_).take 1) : Nat) : Int), .int .i64 0]) ∧ Below W.heap.size W w') := fun W L c hb hL => HCT0.out W _ ((p.drop at_).take 1) L c (hB1.trans (hb.mono hB1.size)) (((sp.old hb).drop at_).take 1) (by rw [List.length_take, List.length_drop, hm.out]; omega) (by omega)
        have HX : Hid (∀ W, Below wr.heap.size wr W → ∀ L c d, L = mx14 z (p.drop at_) → (convert 22 9 (.slice (some ⟨pb, po + at_, none⟩) L c)).run Try.prog (W.drewN d) = .ok (.string (strOfNums ((p.drop at_).take (mx14 z (p.drop at_))))) (W.drewN d)) := fun W hb L c d hL => HCV.out W _ _ L c (hBw.trans (hb.mono hBw.size)) (((sp.old hb).drop at_).take _) (by rw [List.length_take, List.length_drop, hm.out]; omega) d
        have HY : Hid (∀ W xb off, a = some ⟨xb, off, none⟩ → Below wr.heap.size wr W → ∀ L c d, L = mx14 z (p.drop at_) → (convert 22 9 (.slice (some ⟨xb, off + lp14 z (p.drop at_), none⟩) L c)).run Try.prog (W.drewN d) = .ok (.string (strOfNums ((p.drop at_).take (mx14 z (p.drop at_))))) (W.drewN d)) := fun W xb off ha hb L c d hL => by
          have h7 := ((by have := HSZ.out W (hBw.trans (hb.mono hBw.size)); rw [ha] at this; exact this : Seg W (some ⟨xb, off, none⟩) z).drop (lp14 z (p.drop at_))).take (mx14 z (p.drop at_))
          rw [t1] at h7
          exact HCV.out W _ _ L c (hBw.trans (hb.mono hBw.size)) h7 (by rw [List.length_take, List.length_drop, hm.out]; omega) d
        have HL0 : Hid (mx14 z (p.drop at_) = 0 → lp14 z (p.drop at_) = 0) := fun c => lp_zero14 z _ c
        have HY0 : Hid (mx14 z (p.drop at_) = 0 → ∀ W q L c d, Below wr.heap.size wr W → L = 0 → (convert 22 9 (.slice q L c)).run Try.prog (W.drewN d) = .ok (.string (strOfNums ((p.drop at_).take (mx14 z (p.drop at_))))) (W.drewN d)) := fun h0 W q L c d hb hL => by
          rw [h0, List.take_zero]
          exact HCV.out W q [] L c (hBw.trans (hb.mono hBw.size)) (seg_nil14 _ _) (by rw [hL]; rfl) d
        have HSM : Hid (0 < n → ∃ xb off, a = some ⟨xb, off, none⟩) := fun h0 => by
          obtain ⟨xb, off, e, -⟩ := (HSZ.out wr hBw).at_ 0 (by rw [hn.out]; exact h0)
          exact ⟨xb, off, e⟩
        clear f2 f3 t1 oW sp
        generalize hi14 z ((p.drop at_).take 1) - lo14 z ((p.drop at_).take 1) = cn at *
        generalize strOfNums ((p.drop at_).take (mx14 z (p.drop at_))) = st at *
        generalize mx14 z (p.drop at_) = M at *
        generalize lp14 z (p.drop at_) = O at *
        have u1 : (0 : Int) ≤ (at_ : Int) := by omega
        have u2 : ¬ pc = at_ := by omega
        have u3 : IntKind.i64.wrap ((at_ : Int) + 1) = (at_ : Int) + 1 := IntWalk.i64_in _ (by omega)
        have u4 : (at_ : Int) + 1 ≤ (m : Int) := by omega
        have u5 : (at_ : Int) + 1 ≤ (pc : Int) := by omega
        have u6 : ¬ (m : Int) < (at_ : Int) + 1 := by omega
        obtain ⟨w4, hw4⟩ : ∃ w4, w4 = wr.alloc (.cells #[.int .i64 (O : Int), .int .i64 (at_ : Int), .int .i64 (M : Int)] 44) := ⟨_, rfl⟩
        have HW4 : Hid (w4 = wr.alloc (.cells #[.int .i64 (O : Int), .int .i64 (at_ : Int), .int .i64 (M : Int)] 44)) := hw4
        obtain ⟨c, hc4⟩ : ∃ c, c = wr.heap.size := ⟨_, rfl⟩
        have HC4 : Hid (c = wr.heap.size) := hc4
        have B4 : Below wr.heap.size wr w4 := by rw [hw4]; exact (Below.refl _ _).alloc (Nat.le_refl _) _
        have G4 : w4.heap[c]? = some (.cells #[.int .i64 (O : Int), .int .i64 (at_ : Int), .int .i64 (M : Int)] 44 (0, 0)) := by rw [hw4, hc4]; exact heap_alloc_new wr _
        have HB4 : Hid (∀ d, Below wr.heap.size wr (w4.drewN d)) := fun d => B4.trans ((below_drewN14 w4 d).mono B4.size)
        have HC2 : Hid (∀ d W, Below (w4.drewN d).heap.size (w4.drewN d) W → W.cell? ⟨c, 2, none⟩ = some (.int .i64 (M : Int)) ∧ Below w3.heap.size w3 W) := fun d W hb => by
          have h9 := (below_drewN14 w4 d).trans (hb.mono (below_drewN14 w4 d).size)
          exact ⟨three_cell2 ((h9.block c (Array.getElem?_eq_some_iff.1 G4).1).trans G4), hB.trans ((B4.trans (h9.mono B4.size)).mono hB.size)⟩
        clear hw4 hc4
        have y4 : ∀ d, (convert 22 9 (.slice (some ⟨pb, po + at_, none⟩) (((at_ : Int) + (M : Int)).toNat - at_) (pc - at_))).run Try.prog (w4.drewN d) = .ok (.string st) (w4.drewN d) := fun d => HX.out w4 B4 _ _ d (by omega)
        have y5 : ∀ d, (convert 22 9 (.slice (some ⟨pb, po + at_, none⟩) (at_ + M - at_) (pc - at_))).run Try.prog (w4.drewN d) = .ok (.string st) (w4.drewN d) := fun d => HX.out w4 B4 _ _ d (by omega)
        have y6 : ∀ d, (convert 22 9 (.slice (some ⟨pb, po + at_, none⟩) M (pc - at_))).run Try.prog (w4.drewN d) = .ok (.string st) (w4.drewN d) := fun d => HX.out w4 B4 _ _ d rfl
        have d0 := three_cell0 G4
        have d1 := three_cell1 G4
        have d2 := three_cell2 G4
        have x1 : (0 : Int) ≤ (O : Int) := by omega
        have x3 : (O : Int) ≤ (O : Int) + (M : Int) := by omega
        have x5 : (O : Int) + (M : Int) ≤ (ca : Int) := by omega
        have x6 : (O : Int) + (M : Int) ≤ (n : Int) := by omega
        have x6' : ¬ (n : Int) < (O : Int) + (M : Int) := by omega
        have x7 : IntKind.i64.wrap ((O : Int) + (M : Int)) = (O : Int) + (M : Int) := IntWalk.i64_in _ (by omega)
        have x9 : (0 : Int) ≤ (O : Int) + (M : Int) := by omega
        have v3' : (at_ : Int) ≤ (at_ : Int) + (M : Int) := by omega
        have v5 : (at_ : Int) + (M : Int) ≤ (pc : Int) := by omega
        have v6 : (at_ : Int) + (M : Int) ≤ (m : Int) := by omega
        have v6' : ¬ (m : Int) < (at_ : Int) + (M : Int) := by omega
        have v7 : IntKind.i64.wrap ((at_ : Int) + (M : Int)) = (at_ : Int) + (M : Int) := IntWalk.i64_in _ (by omega)
        have v9 : (0 : Int) ≤ (at_ : Int) + (M : Int) := by omega
        have v11 : ¬ (M : Int) < 0 := by omega
        have v12 : ¬ (O : Int) < 0 := by omega
        by_cases hM0 : M = 0
        · have hO0 := HL0.out hM0
          have hcn : cn = 0 := HC1.2 (by omega)
          have HYY := HY0.out hM0
          have HN3 : Hid (at_ + 1 = (st14 z p (i + 1)).1) := by show _ = _; rw [HF3.out, hM0]; rfl
          have HCT1 : Hid (∀ d, Calls Try.prog 20 #[.pointer (some ⟨b, 0, none⟩), .slice (some ⟨pb, po + at_, none⟩) 1 (pc - at_)] (w4.drewN d) fun e w' => e = .returned (.tuple #[.int .i64 (cn : Int), .int .i64 0]) ∧ Below (w4.drewN d).heap.size (w4.drewN d) w') := fun d => HCT.out _ _ _ (HB4.out d) rfl
          have HY1 : Hid (∀ d q L c, L = 0 → (convert 22 9 (.slice q L c)).run Try.prog (w4.drewN d) = .ok (.string st) (w4.drewN d)) := fun d q L c hL => HYY w4 q L c d B4 hL
          have HMZ : Hid (M = 0) := hM0
          have HCN : Hid (cn = 0) := hcn
          have v10 : (M : Int) < 1 := by omega
          have q1 : ((O : Int) + (M : Int)).toNat - O = 0 := by omega
          have q2 : O + M - O = 0 := by omega
          by_cases hcO : ca = O
          · have y1 : ∀ d, (convert 22 9 (.slice a (((O : Int) + (M : Int)).toNat - O) (ca - O))).run Try.prog (w4.drewN d) = .ok (.string st) (w4.drewN d) := fun d => HY1.out d _ _ _ q1
            have y2 : ∀ d, (convert 22 9 (.slice a (O + M - O) (ca - O))).run Try.prog (w4.drewN d) = .ok (.string st) (w4.drewN d) := fun d => HY1.out d _ _ _ q2
            have y3 : ∀ d, (convert 22 9 (.slice a M (ca - O))).run Try.prog (w4.drewN d) = .ok (.string st) (w4.drewN d) := fun d => HY1.out d _ _ _ hM0
            have y7 : ∀ d, (convert 22 9 (.slice a 0 0)).run Try.prog (w4.drewN d) = .ok (.string st) (w4.drewN d) := fun d => HY1.out d _ _ _ rfl
            have y8 : ∀ d, (convert 22 9 (.slice a M 0)).run Try.prog (w4.drewN d) = .ok (.string st) (w4.drewN d) := fun d => HY1.out d _ _ _ hM0
            have y9 : ∀ d, (convert 22 9 (.slice a (((O : Int) + (M : Int)).toNat - O) 0)).run Try.prog (w4.drewN d) = .ok (.string st) (w4.drewN d) := fun d => HY1.out d _ _ _ q1
            have yA : ∀ d, (convert 22 9 (.slice a 0 (ca - O))).run Try.prog (w4.drewN d) = .ok (.string st) (w4.drewN d) := fun d => HY1.out d _ _ _ rfl
            have yB : ∀ d, (convert 22 9 (.slice a (O + M - O) 0)).run Try.prog (w4.drewN d) = .ok (.string st) (w4.drewN d) := fun d => HY1.out d _ _ _ q2
            subst hcO
            rw [Nat.sub_self] at y1 y2 y3 yA
            clear HYY HY0 HY HX HCT G4 HL0 HC1 hnil q1 q2 hM0 hcn hO0
            go_wp2_with fail
            rw [← HW4.out, ← HC4.out]
            go_quiet (fail)
            clear y1 y2 y3 y4 y5 y6 y7 y8 y9 yA yB
            obtain rfl := HMZ.out
            obtain rfl := HCN.out
            go_wp2_with (first
              | (go_at_call 20; fail))
            refine (HCT1.out _).mono ?_
            rintro e5 w5 ⟨rfl, B5⟩
            obtain ⟨d5, BF⟩ := HC2.out _ _ B5
            go_wp2_with fail
            go_roundw
            case rel => exact ⟨i + 1, at_ + 1, by omega, by omega, by go_num, by go_num, HN3, BF⟩
            case measure => simp [intOf]; omega
          · cases a with
            | none => exact absurd (hnil rfl) (by omega)
            | some ad =>
            have y1 : ∀ d, (convert 22 9 (.slice (some (ad.add O)) (((O : Int) + (M : Int)).toNat - O) (ca - O))).run Try.prog (w4.drewN d) = .ok (.string st) (w4.drewN d) := fun d => HY1.out d _ _ _ q1
            have y2 : ∀ d, (convert 22 9 (.slice (some (ad.add O)) (O + M - O) (ca - O))).run Try.prog (w4.drewN d) = .ok (.string st) (w4.drewN d) := fun d => HY1.out d _ _ _ q2
            have y3 : ∀ d, (convert 22 9 (.slice (some (ad.add O)) M (ca - O))).run Try.prog (w4.drewN d) = .ok (.string st) (w4.drewN d) := fun d => HY1.out d _ _ _ hM0
            clear HYY HY0 HY HX HCT G4 HL0 HC1 hnil q1 q2 hM0 hcn hO0
            go_wp2_with fail
            rw [← HW4.out, ← HC4.out]
            go_quiet (fail)
            clear y1 y2 y3 y4 y5 y6
            obtain rfl := HMZ.out
            obtain rfl := HCN.out
            go_wp2_with (first
              | (go_at_call 20; fail))
            refine (HCT1.out _).mono ?_
            rintro e5 w5 ⟨rfl, B5⟩
            obtain ⟨d5, BF⟩ := HC2.out _ _ B5
            go_wp2_with fail
            go_roundw
            case rel => exact ⟨i + 1, at_ + 1, by omega, by omega, by go_num, by go_num, HN3, BF⟩
            case measure => simp [intOf]; omega
        · obtain ⟨xb, off, rfl⟩ := HSM.out (by omega)
          have hcn : ¬ cn = 0 := fun e => HC1.1 e (by omega)
          have hcni : ¬ (cn : Int) = 0 := by omega
          have hcnj : ((cn : Int) == 0) = false := beq_eq_false_iff_ne.2 hcni
          have hMi : ¬ (M : Int) = 0 := by omega
          have hMj : ((M : Int) == 0) = false := beq_eq_false_iff_ne.2 hMi
          have HN3 : Hid (at_ + M = (st14 z p (i + 1)).1) := by show _ = _; rw [HF3.out]; omega
          have HCT1 : Hid (∀ d, Calls Try.prog 20 #[.pointer (some ⟨b, 0, none⟩), .slice (some ⟨pb, po + at_, none⟩) 1 (pc - at_)] (w4.drewN d) fun e w' => e = .returned (.tuple #[.int .i64 (cn : Int), .int .i64 0]) ∧ Below (w4.drewN d).heap.size (w4.drewN d) w') := fun d => HCT.out _ _ _ (HB4.out d) rfl
          have y1 : ∀ d, (convert 22 9 (.slice (some ⟨xb, off + O, none⟩) (((O : Int) + (M : Int)).toNat - O) (ca - O))).run Try.prog (w4.drewN d) = .ok (.string st) (w4.drewN d) := fun d => HY.out w4 xb off rfl B4 _ _ d (by omega)
          have y2 : ∀ d, (convert 22 9 (.slice (some ⟨xb, off + O, none⟩) (O + M - O) (ca - O))).run Try.prog (w4.drewN d) = .ok (.string st) (w4.drewN d) := fun d => HY.out w4 xb off rfl B4 _ _ d (by omega)
          have y3 : ∀ d, (convert 22 9 (.slice (some ⟨xb, off + O, none⟩) M (ca - O))).run Try.prog (w4.drewN d) = .ok (.string st) (w4.drewN d) := fun d => HY.out w4 xb off rfl B4 _ _ d rfl
          have x11 : ¬ ca = O := by omega
          have v10 : ¬ (M : Int) < 1 := by omega
          have v13 : (1 : Int) ≤ (M : Int) := by omega
          clear HY0 HY HX HCT G4 HL0 HC1 hnil
          go_wp2_with fail
          rw [← HW4.out, ← HC4.out]
          go_quiet (fail)
          clear y1 y2 y3 y4 y5 y6
          go_wp2_with (first
            | (go_at_call 20; fail))
          refine (HCT1.out _).mono ?_
          rintro e5 w5 ⟨rfl, B5⟩
          obtain ⟨d5, BF⟩ := HC2.out _ _ B5
          go_wp2_with fail
          go_roundw
          case rel => exact ⟨i + 1, at_ + M, by omega, by omega, by go_num, by go_num, HN3, BF⟩
          case measure => simp [intOf]; omega
      · have h1i : ¬ (i : Int) < (k : Int) := by omega
        obtain rfl : i = k := by omega
        have hat : at_ = m := by
          rw [HAT.out, ← HKL.out, fc14_end]
          exact hm.out
        subst hat
        have HG0 : Hid (G14 z p 0 = i) := by show _ = _; rw [← fc14_fewest]; exact HKL.out
        have HGE : Hid (∀ j, at_ ≤ j → G14 z p j = 0) := fun j hj => G14_end z p (by rw [hm.out]; omega)
        have HGL : Hid (∀ j, G14 z p j ≤ 500) := fun j => by have := G14_le z p p.length j (by omega); have := hm.out; omega
        have HGM : Hid (∀ j l, j ≤ l → G14 z p l ≤ G14 z p j) := fun j l h => G14_mono z p p.length j l (by omega) h
        have HGS : Hid (∀ j, j < at_ → G14 z p j = 1 + G14 z p (j + max 1 (mx14 z (p.drop j)))) := fun j h => G14_step z p (by rw [hm.out]; exact h)
        have HMX : Hid (∀ j, mx14 z (p.drop j) ≤ at_ - j) := fun j => by
          have := mx14_le z (p.drop j)
          rw [List.length_drop, hm.out] at this
          exact this
        have HMK := run_make_i12 (at_ + 1) (by omega) wr
        obtain ⟨g5, hg5⟩ : ∃ g5, g5 = wr.heap.size := ⟨_, rfl⟩
        have HG5 : Hid (g5 = wr.heap.size) := hg5
        obtain ⟨w5, hw5⟩ : ∃ w5, w5 = wr.alloc (.cells (vi12 (List.replicate (at_ + 1) 0)) 3) := ⟨_, rfl⟩
        rw [← hw5, ← hg5] at HMK
        have R5 : Rz12 w5 g5 (nz12 (List.replicate (at_ + 1) 0)) := by
          rw [hw5, hg5]
          have := Rz12.new wr (List.replicate (at_ + 1) 0)
          rw [show nz12 (List.replicate (at_ + 1) 0) = List.replicate (at_ + 1) 0 by simp [nz12]]
          exact this
        have B5 : Below w3.heap.size w3 w5 := by rw [hw5]; exact hB.alloc hB.size _
        have hg53 : w3.heap.size ≤ g5 := by rw [hg5]; exact hB.size
        have hmi : (at_ : Int) + 1 = ((at_ + 1 : Nat) : Int) := by omega
        obtain ⟨m1, hm1⟩ : ∃ m1, m1 = at_ + 1 := ⟨_, rfl⟩
        rw [← hm1] at HMK R5 hmi
        have hm1a : at_ < m1 := by omega
        have hm1b : m1 ≤ 501 := by omega
        clear hg5 hw5 hB hBw hB1 hm1
        go_wp2_with fail
        go_loopw [16] (fun ti wr => ∃ (q : Nat) (iv : Int) (R : List Nat), q ≤ at_ ∧ ti = .int .i64 iv ∧ iv = (q : Int) - 1 ∧ R.length = m1 ∧ Rz12 wr g5 (nz12 R) ∧ Hid (∀ j, q ≤ j → j ≤ at_ → R.getD j 0 = G14 z p j) ∧ Below w3.heap.size w3 wr) (fun ti _ => (intOf ti + 1).toNat)
        case atStart => exact ⟨at_, (at_ : Int) - 1, List.replicate m1 0, Nat.le_refl _, by first | rfl | go_num, rfl, by simp, R5, (fun j h1 h2 => by rw [HGE.out j h1]; simp only [List.getD, List.getElem?_replicate]; split <;> rfl), B5⟩
        case round =>
          clear R5 B5 HMK
          rename World => w6
          obtain ⟨q, iv, R, hqm, rfl, hiv, hRl, RZ, HR, B6⟩ := hrel
          by_cases h2 : q = 0
          · subst h2
            have hiv0 : iv < 0 := by omega
            have hiv1 : ¬ (0 : Int) ≤ iv := by omega
            have c0 := RZ.cell (i := 0) (by rw [nz12_len13]; omega)
            rw [nz12_get13 (by omega), HR.out 0 (Nat.le_refl _) (by omega), HG0.out] at c0
            have BW := (HB3.out w6 B6).1
            have h0m : (0 : Int) < (m1 : Int) := by omega
            clear hiv
            go_wp2_with fail
            go_ret
            exact ⟨rfl, BW⟩
          · obtain ⟨j, rfl⟩ : ∃ j, q = j + 1 := ⟨q - 1, by omega⟩
            obtain rfl : iv = (j : Int) := by omega
            have hj0 : (0 : Int) ≤ (j : Int) := by omega
            have hj1 : j < m1 := by omega
            have hj1i : (j : Int) < (m1 : Int) := by omega
            have hj2i : (j : Int) + 1 < (m1 : Int) := by omega
            have c1 := RZ.cell (i := j + 1) (by rw [nz12_len13]; omega)
            rw [nz12_get13 (by omega), HR.out (j + 1) (Nat.le_refl _) (by omega)] at c1
            have c0 := RZ.cell (i := j) (by rw [nz12_len13]; omega)
            have f0 := RZ.free j
            obtain ⟨y, hy⟩ : ∃ y, y = G14 z p (j + 1) := ⟨_, rfl⟩
            have hyb := HGL.out (j + 1)
            rw [← hy] at c1 hyb
            have ey : (1 : Int) + (y : Int) = ((y + 1 : Nat) : Int) := by omega
            obtain ⟨y1, hy1⟩ : ∃ y1, y1 = y + 1 := ⟨_, rfl⟩
            rw [← hy1] at ey
            have R7 : Rz12 (w6.setCell ⟨g5, j, none⟩ (.int .i64 (y1 : Int))) g5 (nz12 (R.set j y1)) := by rw [← nz_set14]; exact RZ.set j _
            have B7 : Below w3.heap.size w3 (w6.setCell ⟨g5, j, none⟩ (.int .i64 (y1 : Int))) := below_set14 B6 hg53
            have HR7 : Hid (∀ l, j + 1 ≤ l → l ≤ at_ → (R.set j y1).getD l 0 = G14 z p l) := fun l h1 h2 => by
              have hne : ¬ j = l := by omega
              have := HR.out l h1 h2
              simpa [List.getD, List.getElem?_set, hne] using this
            have HV7 : Hid (2 - 1 ≤ max 1 (mx14 z (p.drop j)) ∧ (R.set j y1).getD j 0 = 1 + G14 z p (j + 2 - 1)) := ⟨by omega, by
              rw [show j + 2 - 1 = j + 1 by omega, ← hy]
              have : j < R.length := by omega
              simp [List.getD, this]
              omega⟩
            have hlen7 : (R.set j y1).length = m1 := by rw [List.length_set]; exact hRl
            clear hy hy1 RZ HR hiv
            generalize (nz12 R).getD j 0 = yy at *
            go_wp2_with fail
            have hmx := HMX.out j
            obtain ⟨pb, po, hpa, -⟩ := (HSP.out w (Below.refl _ _)).at_ 0 (by rw [hm.out]; omega)
            subst hpa
            go_loopw [17] (fun ti wr => ∃ (l : Nat) (R : List Nat), 2 ≤ l ∧ j + l ≤ at_ + 1 ∧ ti = .int .i64 l ∧ R.length = m1 ∧ Rz12 wr g5 (nz12 R) ∧ Hid (∀ q, j + 1 ≤ q → q ≤ at_ → R.getD q 0 = G14 z p q) ∧ Hid (l - 1 ≤ max 1 (mx14 z (p.drop j)) ∧ R.getD j 0 = 1 + G14 z p (j + l - 1)) ∧ Below w3.heap.size w3 wr) (fun ti _ => at_ + 2 - (intOf ti).toNat)
            case atStart => exact ⟨2, R.set j y1, Nat.le_refl _, by omega, rfl, hlen7, R7, HR7, HV7, B7⟩
            case round =>
              clear R7 B7 HR7 HV7 hlen7 c0 c1 f0
              rename World => w8
              obtain ⟨l, R8, hl2, hjl, rfl, hR8, RZ8, HR8, HV8, B8⟩ := hrel
              obtain ⟨s, hsl⟩ : ∃ s, s = j + l := ⟨_, rfl⟩
              have es : (j : Int) + (l : Int) = (s : Int) := by omega
              have HSL : Hid (s = j + l) := hsl
              have hs1 : s ≤ at_ + 1 := by omega
              have hjs : j < s := by omega
              clear hsl
              have HDN : Hid (max 1 (mx14 z (p.drop j)) ≤ l - 1 → ∀ q, j ≤ q → q ≤ at_ → R8.getD q 0 = G14 z p q) := fun h q h1 h2 => by
                by_cases c : q = j
                · subst c
                  rw [HV8.out.2, HGS.out q (by omega)]
                  have := HV8.out.1
                  rw [show q + l - 1 = q + max 1 (mx14 z (p.drop q)) by omega]
                · exact HR8.out q (by omega) h2
              by_cases h3 : s ≤ at_
              · have h3i : (s : Int) ≤ (at_ : Int) := by omega
                have sp := HSP.out w8 (HB3.out w8 B8).1
                have HCN := cnt14 HARZ.out (q := p.drop j) (k := l) (by omega) (by rw [List.length_drop, hm.out]; have := HSL.out; omega)
                have HCT : Hid (∀ L c, L = s - j → Calls Try.prog 20 #[.pointer (some ⟨b, 0, none⟩), .slice (some ⟨pb, po + j, none⟩) L c] w8 fun e w' => e = .returned (.tuple #[.int .i64 ((hi14 z ((p.drop j).take l) - lo14 z ((p.drop j).take l) : Nat) : Int), .int .i64 0]) ∧ Below w8.heap.size w8 w') := fun L c hL => by
                  have h9 := HSL.out
                  exact HCT0.out w8 _ ((p.drop j).take l) L c (HB3.out w8 B8).2 ((sp.drop j).take l) (by rw [List.length_take, List.length_drop, hm.out]; omega) (by omega)
                have l1 : (j : Int) ≤ (s : Int) := by omega
                have l2 : (s : Int) ≤ (pc : Int) := by omega
                have l3 : ¬ pc = j := by omega
                clear sp
                generalize hi14 z ((p.drop j).take l) - lo14 z ((p.drop j).take l) = cn at *
                go_wp2_with (first
                  | (go_at_call 20; fail))
                refine (HCT.out _ _ (by omega)).mono ?_
                rintro e9 w9 ⟨rfl, B89⟩
                have RZ9 := RZ8.old B89
                have B9 := B8.trans (B89.mono B8.size)
                clear RZ8 B8 B89 HCT
                by_cases h4 : cn = 0
                · have h4x := HCN.1 h4
                  have HD2 : Hid (∀ q, j ≤ q → q ≤ at_ → R8.getD q 0 = G14 z p q) := fun q h1 h2 => HDN.out (by omega) q h1 h2
                  subst h4
                  clear HDN HCN h4x
                  go_wp2_with fail
                  go_roundw
                  case rel => exact ⟨j, (j : Int) - 1, R8, by omega, by first | rfl | go_num, rfl, hR8, RZ9, HD2, B9⟩
                  case measure => simp [intOf] <;> omega
                · have h4i : ¬ (cn : Int) = 0 := by omega
                  have h4j : ((cn : Int) == 0) = false := beq_eq_false_iff_ne.2 h4i
                  have h4x : l ≤ mx14 z (p.drop j) := Decidable.byContradiction fun c => h4 (HCN.2 c)
                  have k0 := RZ9.cell (i := j) (by rw [nz12_len13]; omega)
                  have k1 := RZ9.cell (i := s) (by rw [nz12_len13]; omega)
                  rw [nz12_get13 (by omega), HV8.out.2] at k0
                  rw [nz12_get13 (by omega), HR8.out s (by omega) h3] at k1
                  have k2 := RZ9.free j
                  have HLE := HGM.out (j + l - 1) s (by have := HSL.out; omega)
                  have hgb := HGL.out (j + l - 1)
                  have hgb2 := HGL.out s
                  obtain ⟨u, hu⟩ : ∃ u, u = 1 + G14 z p (j + l - 1) := ⟨_, rfl⟩
                  obtain ⟨v, hv⟩ : ∃ v, v = G14 z p s := ⟨_, rfl⟩
                  obtain ⟨v1, hv1⟩ : ∃ v1, v1 = 1 + v := ⟨_, rfl⟩
                  rw [← hu] at k0
                  rw [← hv] at k1
                  have ev : (1 : Int) + (v : Int) = (v1 : Int) := by omega
                  have ev2 : IntKind.i64.wrap ((1 : Int) + (v : Int)) = (v1 : Int) := by rw [ev]; exact IntWalk.i64_in _ (by omega)
                  have es2 : IntKind.i64.wrap ((j : Int) + (l : Int)) = (s : Int) := by rw [es]; exact IntWalk.i64_in _ (by omega)
                  have hvu : v1 ≤ u := by omega
                  have hsm : (s : Int) < (m1 : Int) := by omega
                  have R10 : Rz12 (w9.setCell ⟨g5, j, none⟩ (.int .i64 (v1 : Int))) g5 (nz12 (R8.set j v1)) := by rw [← nz_set14]; exact RZ9.set j _
                  have B10 : Below w3.heap.size w3 (w9.setCell ⟨g5, j, none⟩ (.int .i64 (v1 : Int))) := below_set14 B9 hg53
                  have HSR : Hid (Rz12 (w9.setCell ⟨g5, j, none⟩ (.int .i64 (v1 : Int))).drew g5 (nz12 (R8.set j v1)) ∧ Below w3.heap.size w3 (w9.setCell ⟨g5, j, none⟩ (.int .i64 (v1 : Int))).drew) := ⟨R10.old (Below.refl _ _).drew, B10.drew⟩
                  have HW64 : Hid (wrap64 (v1 : Int) = (v1 : Int)) := w6414 v1 (by omega)
                  clear R10 B10
                  have HR9 : Hid (∀ q, j + 1 ≤ q → q ≤ at_ → (R8.set j v1).getD q 0 = G14 z p q) := fun q h1 h2 => by
                    have hne : ¬ j = q := by omega
                    have := HR8.out q h1 h2
                    simpa [List.getD, List.getElem?_set, hne] using this
                  have HV9 : Hid (l + 1 - 1 ≤ max 1 (mx14 z (p.drop j)) ∧ (R8.set j v1).getD j 0 = 1 + G14 z p (j + (l + 1) - 1)) := ⟨by omega, by
                    rw [show j + (l + 1) - 1 = s by have := HSL.out; omega, ← hv, ← hv1]
                    have : j < R8.length := by omega
                    simp [List.getD, this]⟩
                  have hl9 : (R8.set j v1).length = m1 := by rw [List.length_set]; exact hR8
                  have hjl2 : j + (l + 1) ≤ at_ + 1 := by have := HSL.out; omega
                  clear hu hv hv1 HLE HDN HCN HR8 HV8 RZ9
                  by_cases h6 : v1 < u
                  · have h6i : (v1 : Int) < (u : Int) := by omega
                    go_wp2_with fail
                    go_region
                    go_wp2_with fail
                    go_roundw
                    case rel =>
                      rw [HW64.out, if_pos h6i]
                      exact ⟨l + 1, R8.set j v1, by omega, hjl2, by go_num, hl9, HSR.out.1, HR9, HV9, HSR.out.2⟩
                    case measure => simp [intOf]; omega
                  · have h6i : ¬ (v1 : Int) < (u : Int) := by omega
                    obtain rfl : v1 = u := by omega
                    go_wp2_with fail
                    go_region
                    go_wp2_with fail
                    go_roundw
                    case rel =>
                      rw [HW64.out, ite_self]
                      exact ⟨l + 1, R8.set j v1, by omega, hjl2, by go_num, hl9, HSR.out.1, HR9, HV9, HSR.out.2⟩
                    case measure => simp [intOf]; omega
              · have h3i : ¬ (s : Int) ≤ (at_ : Int) := by omega
                have HD2 : Hid (∀ q, j ≤ q → q ≤ at_ → R8.getD q 0 = G14 z p q) := fun q h1 h2 => HDN.out (by have := HSL.out; omega) q h1 h2
                clear HDN
                go_wp2_with fail
                go_roundw
                case rel => exact ⟨j, (j : Int) - 1, R8, by omega, by first | rfl | go_num, rfl, hR8, RZ8, HD2, B8⟩
                case measure => simp [intOf] <;> omega
end Go.Proofs.Ytfogknlinmchjaa
