
import Derived.Test.YtjoghmdjnkdokaaDoorRfE
namespace Go.Proofs.YtjoghmdjnkdokaaDoor
open Go.RowKit Go.Shelf
set_option linter.unusedVariables false
set_option linter.unusedSimpArgs false

/-! The document's flash: Erase. -/
theorem up21_up21 (pa : Int → Int → Option Sh21) (x y : Int) (s t : Sh21) : up21 (up21 pa x y s) x y t = up21 pa x y t := by
  funext a b
  unfold up21
  split <;> rfl
def wu21 (S : Fs21) (x y : Int) : Fs21 := { S with pa := up21 S.pa x y ⟨(sh21 S x y).b, (sh21 S x y).er, (sh21 S x y).wr + 1⟩ }
theorem ok21_wu {S : Fs21} (h : Ok21 S) (x y : Int) (hw : (sh21 S x y).wr < 1099511627776) : Ok21 (wu21 S x y) := by
  have h1 := sh21_ok h x y
  refine ⟨h.pg, h.ps, h.ac, h.lm, h.lf, h.tn, ok21_up h x y _ ⟨h1.1, by show 0 ≤ (sh21 S x y).wr + 1; omega, by show (sh21 S x y).wr + 1 ≤ _; omega, ?_⟩⟩
  show (sh21 S x y).er = true → (sh21 S x y).b = []
  unfold sh21
  cases e : S.pa x y with
  | none => simp
  | some s => exact (h.sh x y s e).2.2.2
theorem sh21_wu (S : Fs21) (x y : Int) : sh21 (wu21 S x y) x y = ⟨(sh21 S x y).b, (sh21 S x y).er, (sh21 S x y).wr + 1⟩ := by
  unfold wu21; rw [sh21_up]; simp
theorem wu21_cut (S : Fs21) (kd x y : Int) (h : S.lf = 1) : dnS21 (wu21 S x y) kd x y = rn21 S kd x y ⟨[], true, (sh21 S x y).wr + 1⟩ := by
  unfold dnS21 rn21
  rw [if_pos (show (wu21 S x y).lf = 1 from h), if_pos h]
  unfold cu21
  rw [sh21_wu]
  simp only [wu21, up21_up21]
theorem wu21_go (S : Fs21) (kd x y : Int) (s : Sh21) (h : ¬ S.lf = 1) : { dnS21 (wu21 S x y) kd x y with pa := up21 (dnS21 (wu21 S x y) kd x y).pa x y s } = rn21 S kd x y s := by
  unfold dnS21 rn21
  rw [if_neg (show ¬ (wu21 S x y).lf = 1 from h), if_neg h]
  unfold go21
  simp only [wu21, up21_up21]
set_option maxRecDepth 100000 in
set_option maxHeartbeats 16000000 in
theorem rers21 {w : World} {b : Nat} {G : Nat → Prop} {S : Fs21} (h : Rl21d w b G S) (hO : Ok21 S) (x y : Int) (hx : In21 x) (hy : In21 y) (hlg : S.lg.length ≤ 4398046511000) :
    Calls Tryd.prog 31 #[.pointer (some ⟨b, 0, none⟩), .int .i64 x, .int .i64 y] w fun e w' => e = .returned (.int .i64 (erE21 S x y)) ∧ Rn21 w w' b G (erS21 S x y) := by
  have HL : Hid (Rl21d w b G S) := h
  have HIS := ris21 h x y hx hy
  obtain ⟨g, c, A, tn, ta, tc, la, lc, V, h1, h2, h3, h4, h5, h6⟩ := h
  have c7 : w.cell? ⟨b, 7, none⟩ = some (.bool (!S.on)) := h1.cel rfl
  have c10 : w.cell? ⟨b, 10, none⟩ = some (.int .i64 S.lm) := h1.cel rfl
  have hE : Hid (erE21 S x y = if rf21 S.on S.ps x y ≠ 0 then rf21 S.on S.ps x y else if wo21 S x y then 214 else rc21 S) := rfl
  have hS : Hid (erS21 S x y = if rf21 S.on S.ps x y ≠ 0 then S else if wo21 S x y then S else rn21 S 1 x y ⟨[], true, (sh21 S x y).wr + 1⟩) := rfl
  rw [hE.out, hS.out]
  clear hE hS
  have HR : Hid (Rf21 w b g c A tn ta tc la lc V S ∧ G b ∧ (∀ x, x < 3 → G (g x)) ∧ (∀ k, (Value.slice la S.lg.length lc).ownBlock = some k → G k) ∧ (∀ k, V k → G k) ∧ (∀ k, G k → k < w.heap.size)) := ⟨h1, h2, h3, h4, h5, h6⟩
  clear h2 h3 h4 h5 h6
  by_cases hon : S.on = false
  · have hrf : rf21 S.on S.ps x y = 213 := by rw [hon]; rfl
    rw [hrf, if_pos (by decide), if_pos (by decide)]
    rw [hon] at c7
    replace c7 : w.cell? ⟨b, 7, none⟩ = some (.bool true) := c7
    clear h1 hrf HIS
    go_enter Tryd.func31, Tryd.ntmps31
    go_wp2_with fail
    go_ret
    exact ⟨rfl, HL.out.stay (Below.refl _ _)⟩
  have hon' : S.on = true := by simpa using hon
  rw [hon'] at c7
  replace c7 : w.cell? ⟨b, 7, none⟩ = some (.bool false) := c7
  have hrf : rf21 S.on S.ps x y = ms21 S.ps x y := by rw [hon']; rfl
  rw [hrf]
  clear hrf
  by_cases hms : ¬ ms21 S.ps x y = 0
  · have h211 : ms21 S.ps x y = 211 := by unfold ms21 at hms ⊢; split <;> simp_all
    rw [h211, if_pos (by decide), if_pos (by decide)]
    have e : decide (ms21 S.ps x y = 0) = false := by simp [hms]
    rw [e] at HIS
    clear h1 e hms h211
    go_enter Tryd.func31, Tryd.ntmps31
    go_wp2_with fail
    refine HIS.mono ?_
    rintro e w1 ⟨rfl, hw⟩
    subst w1
    go_wp2_with fail
    go_ret
    exact ⟨rfl, HL.out.stay (Below.refl _ _)⟩
  replace hms : ms21 S.ps x y = 0 := by omega
  have hnn : ¬ (ms21 S.ps x y ≠ 0) := by rw [hms]; simp
  rw [if_neg hnn, if_neg hnn]
  clear hnn
  have e0 : decide (ms21 S.ps x y = 0) = true := by simp [hms]
  rw [e0] at HIS
  obtain ⟨X, Y, d, rfl, rfl, hX, hY, hd⟩ := h1.at hms
  have hdd := h1.hd X Y d hX hd
  have hwr : d.wr = (sh21 S (X : Int) (Y : Int)).wr := hdd.2.2.2.2.1
  obtain ⟨WR, hWR⟩ : ∃ WR, WR = d.wr := ⟨_, rfl⟩
  have hWR' : WR = (sh21 S (X : Int) (Y : Int)).wr := by rw [hWR, hwr]
  have hwo : Hid (wo21 S (X : Int) (Y : Int) = (decide (1099511627776 ≤ WR) || (decide (0 < S.lm) && decide (S.lm ≤ WR)))) := by show _ = _; rw [hWR']; rfl
  have ca := h1.car hX
  have p2 := (h1.pgc hX hd).2.2
  rw [← hWR] at p2
  obtain ⟨NA, hNA⟩ : ∃ NA, NA = (A X).length := ⟨_, rfl⟩
  rw [← hNA] at ca
  have hXi : (X : Int) < 3 := by omega
  have hYi : (Y : Int) < (NA : Int) := by omega
  have HWR : Hid (WR = d.wr ∧ WR = (sh21 S (X : Int) (Y : Int)).wr) := ⟨hWR, hWR'⟩
  have hok := sh21_ok hO (X : Int) (Y : Int)
  rw [← hWR'] at hok
  by_cases hW : wo21 S (X : Int) (Y : Int) = true
  · rw [if_pos hW, if_pos hW]
    rw [hwo.out] at hW
    clear h1 hdd hwr hWR hWR' hwo hNA hd hY
    by_cases w1 : 1099511627776 ≤ WR
    · clear hW
      go_enter Tryd.func31, Tryd.ntmps31
      go_wp2_with fail
      refine HIS.mono ?_
      rintro e w1 ⟨rfl, hw⟩
      subst w1
      go_wp2_with fail
      go_ret
      exact ⟨rfl, HL.out.stay (Below.refl _ _)⟩
    · have w2 : 0 < S.lm ∧ S.lm ≤ WR := by simpa [w1] using hW
      obtain ⟨w2, w3⟩ := w2
      clear hW
      go_enter Tryd.func31, Tryd.ntmps31
      go_wp2_with fail
      refine HIS.mono ?_
      rintro e w1 ⟨rfl, hw⟩
      subst w1
      go_wp2_with fail
      go_ret
      exact ⟨rfl, HL.out.stay (Below.refl _ _)⟩
  · rw [if_neg hW, if_neg hW]
    rw [hwo.out] at hW
    have w1 : ¬ 1099511627776 ≤ WR := fun e => hW (by simp [e])
    have w2 : ¬ (0 < S.lm ∧ S.lm ≤ WR) := fun e => hW (by simp [e.1, e.2])
    have hadd : IntKind.i64.wrap (WR + 1) = WR + 1 := IntWalk.i64_in _ (by omega)
    obtain ⟨w3, hw3⟩ : ∃ w3, w3 = w.setCell ⟨g X, Y * 3 + 2, none⟩ (.int .i64 (WR + 1)) := ⟨_, rfl⟩
    have HW3 : Hid (w.setCell ⟨g X, Y * 3 + 2, none⟩ (.int .i64 (WR + 1)) = w3) := hw3.symm
    have hk3 : Kp (fun k => k = g X) w w3 := by rw [hw3]; exact Kp.set (S := fun k => k = g X) rfl _
    have fg := h1.frg hX (Y * 3 + 2)
    obtain ⟨X0, hX0⟩ := h1.ha X hX
    have hL3 : Rl21d w3 b G (wu21 S (X : Int) (Y : Int)) := by
      obtain ⟨_, h2, h3, h4, h5, h6⟩ := HR.out
      refine ⟨g, c, ad21 A X Y { d with wr := WR + 1 }, tn, ta, tc, la, lc, V, ?_, h2, h3, h4, h5, fun k e => Nat.lt_of_lt_of_le (h6 k e) hk3.size⟩
      refine h1.page hX hY { d with wr := WR + 1 } _ hk3 ⟨X0, by rw [hw3]; exact pgrow21_one hX0 hd _⟩ (hdd.1.kp hk3 (fun b' o' e' _ => by cases e'; exact fun e => h1.vg X hX (e ▸ hdd.2.1))) hdd.2.1 hdd.2.2.1 hdd.2.2.2.1 (by show WR + 1 = _; rw [hWR']) hdd.2.2.2.2.2
    have HK3 : Hid (Kp G w w3) := hk3.mono (fun i _ e => by subst e; exact HR.out.2.2.1 X hX)
    have hO3 := ok21_wu hO (X : Int) (Y : Int) (by rw [← hWR']; omega)
    have hDN := rdon21 hL3 hO3 1 X Y hms hlg
    have HLF : Hid ((wu21 S (X : Int) (Y : Int)).lf = S.lf) := rfl
    rw [HLF.out] at hDN
    have HFLN : Hid (∀ w4 : World, Rn21 w3 w4 b G (dnS21 (wu21 S (X : Int) (Y : Int)) 1 (X : Int) (Y : Int)) → Rn21 w w4 b G (dnS21 (wu21 S (X : Int) (Y : Int)) 1 (X : Int) (Y : Int))) := fun w4 hn => Rn21.cons (fun k e => .inl e) HK3.out hn
    clear h1 hdd hwr hwo hW hk3 hL3 hw3 hX0
    by_cases hlf : S.lf = 1
    · have e1 : decide (S.lf = 1) = true := by simp [hlf]
      rw [e1] at hDN
      have hcut := wu21_cut S 1 (X : Int) (Y : Int) hlf
      have hrc : rc21 S = 213 := by unfold rc21; rw [if_pos hlf]
      rw [hrc, ← hcut]
      generalize dnS21 (wu21 S (X : Int) (Y : Int)) 1 (X : Int) (Y : Int) = S1 at hDN HFLN ⊢
      clear hcut hrc e1 hWR hWR' hNA hd hY
      by_cases w2a : 0 < S.lm
      all_goals
        (try (have w2b : ¬ S.lm ≤ WR := fun e => w2 ⟨w2a, e⟩))
        go_enter Tryd.func31, Tryd.ntmps31
        go_wp2_with fail
        refine HIS.mono ?_
        rintro e w1 ⟨rfl, hw⟩
        subst w1
        go_upto_region 9 with fail
        rw [HW3.out]
        go_wp2_with fail
        refine hDN.mono ?_
        rintro e w4 ⟨rfl, hn4⟩
        have HN4 := HFLN.out w4 hn4
        have HN4' : Hid (Rn21 w w4 b G S1) := HN4
        clear hn4 HN4
        go_wp2_with fail
        go_ret
        exact ⟨rfl, HN4'.out⟩
    · have e1 : decide (S.lf = 1) = false := by simp [hlf]
      rw [e1] at hDN
      have hgo := wu21_go S 1 (X : Int) (Y : Int) ⟨[], true, (sh21 S (X : Int) (Y : Int)).wr + 1⟩ hlf
      have hrc : rc21 S = 0 := by unfold rc21; rw [if_neg hlf]
      have hms1 : ms21 (dnS21 (wu21 S (X : Int) (Y : Int)) 1 (X : Int) (Y : Int)).ps (X : Int) (Y : Int) = 0 := by
        have : (dnS21 (wu21 S (X : Int) (Y : Int)) 1 (X : Int) (Y : Int)).ps = S.ps := by unfold dnS21; split <;> rfl
        rw [this]; exact hms
      have hpg1 : (dnS21 (wu21 S (X : Int) (Y : Int)) 1 (X : Int) (Y : Int)).pg = S.pg := by unfold dnS21; split <;> rfl
      rw [hrc, ← hgo, ← hWR']
      generalize dnS21 (wu21 S (X : Int) (Y : Int)) 1 (X : Int) (Y : Int) = S1 at hDN HFLN hms1 hpg1 ⊢
      have HG : Hid (ms21 S1.ps (X : Int) (Y : Int) = 0 ∧ S1.pg = S.pg ∧ 64 ≤ S.pg ∧ S.pg ≤ 4096) := ⟨hms1, hpg1, hO.pg.1, hO.pg.2⟩
      obtain ⟨S2, hS2⟩ : ∃ S2 : Fs21, S2 = { S1 with pa := up21 S1.pa (X : Int) (Y : Int) ⟨[], true, WR + 1⟩ } := ⟨_, rfl⟩
      rw [← hS2]
      have HS2 : Hid (S2 = { S1 with pa := up21 S1.pa (X : Int) (Y : Int) ⟨[], true, WR + 1⟩ }) := hS2
      clear hgo hrc e1 hS2 hms1 hpg1 hWR hWR' hNA hd hY
      by_cases w2a : 0 < S.lm
      all_goals
        (try (have w2b : ¬ S.lm ≤ WR := fun e => w2 ⟨w2a, e⟩))
        go_enter Tryd.func31, Tryd.ntmps31
        go_wp2_with fail
        refine HIS.mono ?_
        rintro e w1 ⟨rfl, hw⟩
        subst w1
        go_upto_region 9 with fail
        rw [HW3.out]
        go_wp2_with fail
        refine hDN.mono ?_
        rintro e w4 ⟨rfl, hn4⟩
        obtain ⟨G4, ⟨g4, c4, A4, tn4, ta4, tc4, la4, lc4, V4, r4, q2, q3, q4, q5, q6⟩, f4, k4⟩ := hn4
        obtain ⟨X4, Y4, d4, eX4, eY4, hX4, hY4, hd4⟩ := r4.at HG.out.1
        obtain rfl : X = X4 := by omega
        obtain rfl : Y = Y4 := by omega
        clear eX4 eY4
        obtain ⟨PG, hPG⟩ : ∃ PG, PG = S1.pg := ⟨_, rfl⟩
        have hpgb : PG ≤ 16777216 := by rw [hPG, HG.out.2.1]; have := HG.out.2.2.2; omega
        have d0 : w4.drew.cell? ⟨b, 0, none⟩ = some (.int .i64 (PG : Int)) := by rw [hPG]; exact r4.cel (i := 0) rfl
        have da : w4.drew.cell? ⟨b, 3 + X, none⟩ = some (.slice (some ⟨g4 X, 0, none⟩) (A4 X).length (c4 X)) := r4.car hX4
        obtain ⟨NB, hNB⟩ : ∃ NB, NB = (A4 X).length := ⟨_, rfl⟩
        rw [← hNB] at da
        have hYb : (Y : Int) < (NB : Int) := by omega
        have HBK : Hid (Calls Tryd.prog 25 #[.int .i64 (PG : Int)] w4.drew fun e w' => Bk21 w4 w4.heap.size PG e w') := (rblk21 PG hpgb w4.drew).mono (fun e w' q => ⟨q.1, q.2.1, (Below.refl _ _).drew.trans (a := w4) q.2.2⟩)
        have hbg4 : ¬ b = g4 X := r4.bg hX4
        have hgb4 : ¬ g4 X = b := fun e => r4.bg hX4 e.symm
        have HC5 : Hid (∀ w5 : World, Below w4.heap.size w4 w5 → (w5.cell? ⟨b, 0, none⟩ = some (.int .i64 (PG : Int)) ∧ w5.cell? ⟨b, 3 + X, none⟩ = some (.slice (some ⟨g4 X, 0, none⟩) NB (c4 X))) ∧ (∀ i, w5.frozen? ⟨g4 X, i, none⟩ = false) ∧ w5.cell? ⟨g4 X, Y * 3, none⟩ = some (.slice (some ⟨d4.k, d4.off, none⟩) d4.b.length d4.c) ∧ w5.cell? ⟨g4 X, Y * 3 + 1, none⟩ = some (.bool d4.er) ∧ w5.cell? ⟨g4 X, Y * 3 + 2, none⟩ = some (.int .i64 d4.wr)) := fun w5 hb => by
          have q := r4.old hb
          refine ⟨⟨by rw [hPG]; exact q.cel (i := 0) rfl, by rw [hNB]; exact q.car hX4⟩, fun i => q.frg hX4 i, (q.pgc hX4 hd4).1, (q.pgc hX4 hd4).2.1, (q.pgc hX4 hd4).2.2⟩
        have HFIN : Hid (∀ w5 : World, Below w4.heap.size w4 w5 → w5.heap[w4.heap.size]? = some (.cells ((List.replicate PG (255 : Int)).map (Value.int .u8)).toArray 5 (0, 0)) → Rn21 w (((w5.setCell ⟨g4 X, Y * 3, none⟩ (.slice (some ⟨w4.heap.size, 0, none⟩) PG PG)).setCell ⟨g4 X, Y * 3 + 1, none⟩ (.bool true)).setCell ⟨g4 X, Y * 3 + 2, none⟩ (.int .i64 (WR + 1))) b G S2) := fun w5 hb hh => by
          have r5 := r4.new hb (fun k => k = w4.heap.size) (fun k e => by subst e; exact ⟨Nat.le_refl _, (Array.getElem?_eq_some_iff.1 hh).1⟩)
          obtain ⟨X1, hX1⟩ := r5.ha X hX4
          have hk7 : Kp (fun k => k = g4 X) w5 (((w5.setCell ⟨g4 X, Y * 3, none⟩ (.slice (some ⟨w4.heap.size, 0, none⟩) PG PG)).setCell ⟨g4 X, Y * 3 + 1, none⟩ (.bool true)).setCell ⟨g4 X, Y * 3 + 2, none⟩ (.int .i64 (WR + 1))) := ((Kp.set (S := fun k => k = g4 X) rfl _).trans (Kp.set (S := fun k => k = g4 X) rfl _) (fun _ _ e => e)).trans (Kp.set (S := fun k => k = g4 X) rfl _) (fun _ _ e => e)
          have hrow := pgrow21 (w := w5) (d' := ⟨w4.heap.size, 0, PG, List.replicate PG 255, true, WR + 1⟩) hX1 hd4
          rw [show (⟨w4.heap.size, 0, PG, List.replicate PG 255, true, WR + 1⟩ : Pd21).b.length = PG from List.length_replicate] at hrow
          have hgl := r4.gl hX4
          have hsg : Seg w5 (some ⟨w4.heap.size, 0, none⟩) (List.replicate PG 255) := seg_row21 hh (fun y hy => by rw [(List.mem_replicate.1 hy).2]; decide)
          have r7 := r5.page hX4 hY4 ⟨w4.heap.size, 0, PG, List.replicate PG 255, true, WR + 1⟩ ⟨[], true, WR + 1⟩ hk7 ⟨X1, hrow⟩ (hsg.kp hk7 (fun b' o' e' _ => by cases e'; show ¬ w4.heap.size = g4 X; omega)) (.inr rfl) (by show List.replicate PG 255 = [] ++ List.replicate (S1.pg - 0) 255; rw [hPG]; simp) rfl rfl (by simp)
          refine Rn21.cons (G1 := G4) (w1 := w4) (fun k e => by rcases f4 k e with q | q; (exact .inl q); (exact .inr (Nat.le_trans HK3.out.size q))) (HK3.out.trans k4 (fun _ _ e => e)) ?_
          rw [HS2.out]
          refine ⟨fun k => (G4 k ∨ w4.heap.size ≤ k) ∧ k < w5.heap.size, ⟨g4, c4, _, tn4, ta4, tc4, la4, lc4, _, r7, ⟨.inl q2, r5.bl⟩, fun x hx => ⟨.inl (q3 x hx), r5.gl hx⟩, fun k e => ⟨.inl (q4 k e), (r5.lo e).1⟩, fun k e => ⟨?_, r5.vs k e⟩, fun k e => ?_⟩, fun k e => e.1, ?_⟩
          · rcases e with e | e
            · exact .inl (q5 k e)
            · exact .inr (by rw [e]; exact Nat.le_refl _)
          · exact Nat.lt_of_lt_of_le e.2 hk7.size
          · exact (Kp.of_below hb).trans (hk7.mono (S' := G4) (fun i _ e => by subst e; exact q3 X hX4)) (fun _ _ e => e)
        clear r4 q2 q3 q4 q5 q6 f4 k4 hPG hNB hX4 hY4 hd4
        go_wp2_with fail
        go_region_held3 (fun V => V.cell? ⟨b, 0, none⟩ = some (.int .i64 (PG : Int)) ∧ V.cell? ⟨b, 3 + X, none⟩ = some (.slice (some ⟨g4 X, 0, none⟩) NB (c4 X))) (first | exact ⟨d0, da⟩ | exact k5 | go_keep)
          (first | (go_at_call 25; refine HBK.out.mono ?_; rintro e5 w5 ⟨rfl, hh5, hb5⟩; obtain ⟨k5, fg5, y0, y1, y2⟩ := HC5.out w5 hb5; have fy0 := fg5 (Y * 3); have fy1 := fg5 (Y * 3 + 1); have fy2 := fg5 (Y * 3 + 2); have HF5 := HFIN.out w5 hb5 hh5; have HF5' : Hid (Rn21 w (((w5.setCell ⟨g4 X, Y * 3, none⟩ (.slice (some ⟨w4.heap.size, 0, none⟩) PG PG)).setCell ⟨g4 X, Y * 3 + 1, none⟩ (.bool true)).setCell ⟨g4 X, Y * 3 + 2, none⟩ (.int .i64 (WR + 1))) b G S2) := HF5; clear HF5 hh5 hb5 fg5))
        go_wp2_with fail
        go_ret
        exact ⟨rfl, HF5'.out⟩
end Go.Proofs.YtjoghmdjnkdokaaDoor
