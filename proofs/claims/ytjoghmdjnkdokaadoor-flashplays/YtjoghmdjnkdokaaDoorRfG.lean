
import Derived.Test.YtjoghmdjnkdokaaDoorRfF
namespace Go.Proofs.YtjoghmdjnkdokaaDoor
open Go.RowKit Go.Shelf
set_option linter.unusedVariables false
set_option linter.unusedSimpArgs false

/-! The document's flash: Program. -/
theorem dn21_cut (S : Fs21) (kd x y : Int) (L : List Int) (h : S.lf = 1) : dnS21 S kd x y = rn21 S kd x y ⟨L, false, (sh21 S x y).wr⟩ := by
  unfold dnS21 rn21
  rw [if_pos h, if_pos h]
  rfl
theorem dn21_go (S : Fs21) (kd x y : Int) (s : Sh21) (h : ¬ S.lf = 1) : { dnS21 S kd x y with pa := up21 (dnS21 S kd x y).pa x y s } = rn21 S kd x y s := by
  unfold dnS21 rn21
  rw [if_neg h, if_neg h]
  rfl
set_option maxRecDepth 100000 in
set_option maxHeartbeats 16000000 in
theorem rprg21 {w : World} {b : Nat} {G : Nat → Prop} {S : Fs21} (h : Rl21d w b G S) (hO : Ok21 S) (x y : Int) (hx : In21 x) (hy : In21 y) (hlg : S.lg.length ≤ 4398046511000)
    (a : Option Addr) (L : List Int) (n cap : Nat) (hs : Seg w a L) (hn : Hid (L.length = n)) (hap : ∀ x off, a = some ⟨x, off, none⟩ → 0 < n → ¬ G x) :
    Calls Tryd.prog 32 #[.pointer (some ⟨b, 0, none⟩), .int .i64 x, .int .i64 y, .slice a n cap] w fun e w' => e = .returned (.int .i64 (pgE21 S x y n)) ∧ Rn21 w w' b G (pgS21 S x y L) := by
  have HL : Hid (Rl21d w b G S) := h
  have HIS := ris21 h x y hx hy
  obtain ⟨g, c, A, tn, ta, tc, la, lc, V, h1, h2, h3, h4, h5, h6⟩ := h
  have c7 : w.cell? ⟨b, 7, none⟩ = some (.bool (!S.on)) := h1.cel rfl
  have c0 : w.cell? ⟨b, 0, none⟩ = some (.int .i64 (S.pg : Int)) := h1.cel rfl
  have hE : Hid (pgE21 S x y n = if rf21 S.on S.ps x y ≠ 0 then rf21 S.on S.ps x y else if S.pg < n then 1 else if (sh21 S x y).er = false then 212 else rc21 S) := rfl
  have hS : Hid (pgS21 S x y L = if rf21 S.on S.ps x y ≠ 0 then S else if S.pg < n then S else if (sh21 S x y).er = false then S else rn21 S 2 x y ⟨L, false, (sh21 S x y).wr⟩) := by show _ = _; unfold pgS21; rw [hn.out]
  rw [hE.out, hS.out]
  clear hE hS
  clear h2 h3 h4 h5 h6
  by_cases hon : S.on = false
  · have hrf : rf21 S.on S.ps x y = 213 := by rw [hon]; rfl
    rw [hrf, if_pos (by decide), if_pos (by decide)]
    rw [hon] at c7
    replace c7 : w.cell? ⟨b, 7, none⟩ = some (.bool true) := c7
    clear h1 hrf HIS
    go_enter Tryd.func32, Tryd.ntmps32
    go_wp2_with fail
    go_ret
    exact ⟨rfl, HL.out.stay (Below.refl _ _)⟩
  have hon' : S.on = true := by simpa using hon
  rw [hon'] at c7
  replace c7 : w.cell? ⟨b, 7, none⟩ = some (.bool false) := c7
  have hrf : rf21 S.on S.ps x y = ms21 S.ps x y := by rw [hon']; rfl
  rw [hrf]
  clear hrf
  by_cases hms : ¬ ms21 S.ps x y = 0
  · have h211 : ms21 S.ps x y = 211 := by unfold ms21 at hms ⊢; split <;> simp_all
    rw [h211, if_pos (by decide), if_pos (by decide)]
    have e : decide (ms21 S.ps x y = 0) = false := by simp [hms]
    rw [e] at HIS
    clear h1 e hms h211
    go_enter Tryd.func32, Tryd.ntmps32
    go_wp2_with fail
    refine HIS.mono ?_
    rintro e w1 ⟨rfl, hw⟩
    subst w1
    go_wp2_with fail
    go_ret
    exact ⟨rfl, HL.out.stay (Below.refl _ _)⟩
  replace hms : ms21 S.ps x y = 0 := by omega
  have hnn : ¬ (ms21 S.ps x y ≠ 0) := by rw [hms]; simp
  rw [if_neg hnn, if_neg hnn]
  clear hnn
  have e0 : decide (ms21 S.ps x y = 0) = true := by simp [hms]
  rw [e0] at HIS
  clear e0
  by_cases hlen : S.pg < n
  · rw [if_pos hlen, if_pos hlen]
    have hli : (S.pg : Int) < (n : Int) := by omega
    clear h1 hs hap
    go_enter Tryd.func32, Tryd.ntmps32
    go_wp2_with fail
    refine HIS.mono ?_
    rintro e w1 ⟨rfl, hw⟩
    subst w1
    go_wp2_with fail
    go_ret
    exact ⟨rfl, HL.out.stay (Below.refl _ _)⟩
  rw [if_neg hlen, if_neg hlen]
  have hli : ¬ (S.pg : Int) < (n : Int) := by omega
  obtain ⟨X, Y, d, rfl, rfl, hX, hY, hd⟩ := h1.at hms
  have hdd := h1.hd X Y d hX hd
  have her : d.er = (sh21 S (X : Int) (Y : Int)).er := hdd.2.2.2.1
  have ca := h1.car hX
  have p1 := (h1.pgc hX hd).2.1
  obtain ⟨NA, hNA⟩ : ∃ NA, NA = (A X).length := ⟨_, rfl⟩
  rw [← hNA] at ca
  have hXi : (X : Int) < 3 := by omega
  have hYi : (Y : Int) < (NA : Int) := by omega
  rw [her] at p1
  by_cases hW : (sh21 S (X : Int) (Y : Int)).er = false
  · rw [if_pos hW, if_pos hW]
    rw [hW] at p1
    clear h1 hdd her hNA hd hY hW hs hap
    go_enter Tryd.func32, Tryd.ntmps32
    go_wp2_with fail
    refine HIS.mono ?_
    rintro e w1 ⟨rfl, hw⟩
    subst w1
    go_wp2_with fail
    go_ret
    exact ⟨rfl, HL.out.stay (Below.refl _ _)⟩
  · rw [if_neg hW, if_neg hW]
    have hW' : (sh21 S (X : Int) (Y : Int)).er = true := by simpa using hW
    rw [hW'] at p1
    have hDN := rdon21 HL.out hO 2 X Y hms hlg
    clear h1 hdd her hNA hd hY hW hW'
    by_cases hlf : S.lf = 1
    · have e1 : decide (S.lf = 1) = true := by simp [hlf]
      rw [e1] at hDN
      have hcut := dn21_cut S 2 (X : Int) (Y : Int) L hlf
      have hrc : rc21 S = 213 := by unfold rc21; rw [if_pos hlf]
      rw [hrc, ← hcut]
      generalize dnS21 S 2 (X : Int) (Y : Int) = S1 at hDN ⊢
      clear hcut hrc e1 hs hap
      go_enter Tryd.func32, Tryd.ntmps32
      go_wp2_with fail
      refine HIS.mono ?_
      rintro e w1 ⟨rfl, hw⟩
      subst w1
      go_wp2_with fail
      refine hDN.mono ?_
      rintro e w4 ⟨rfl, hn4⟩
      have HN4' : Hid (Rn21 w w4 b G S1) := hn4
      clear hn4
      go_wp2_with fail
      go_ret
      exact ⟨rfl, HN4'.out⟩
    · have e1 : decide (S.lf = 1) = false := by simp [hlf]
      rw [e1] at hDN
      have hgo := dn21_go S 2 (X : Int) (Y : Int) ⟨L, false, (sh21 S (X : Int) (Y : Int)).wr⟩ hlf
      have hrc : rc21 S = 0 := by unfold rc21; rw [if_neg hlf]
      have hms1 : ms21 (dnS21 S 2 (X : Int) (Y : Int)).ps (X : Int) (Y : Int) = 0 := by
        have : (dnS21 S 2 (X : Int) (Y : Int)).ps = S.ps := by unfold dnS21; split <;> rfl
        rw [this]; exact hms
      have hpg1 : (dnS21 S 2 (X : Int) (Y : Int)).pg = S.pg := by unfold dnS21; split <;> rfl
      have hsh1 : sh21 (dnS21 S 2 (X : Int) (Y : Int)) (X : Int) (Y : Int) = sh21 S (X : Int) (Y : Int) := by unfold dnS21; rw [if_neg hlf]; rfl
      rw [hrc, ← hgo, ← hsh1]
      generalize dnS21 S 2 (X : Int) (Y : Int) = S1 at hDN hms1 hpg1 ⊢
      have HG : Hid (ms21 S1.ps (X : Int) (Y : Int) = 0 ∧ S1.pg = S.pg ∧ 64 ≤ S.pg ∧ S.pg ≤ 4096 ∧ n ≤ S.pg) := ⟨hms1, hpg1, hO.pg.1, hO.pg.2, by omega⟩
      obtain ⟨S2, hS2⟩ : ∃ S2 : Fs21, S2 = { S1 with pa := up21 S1.pa (X : Int) (Y : Int) ⟨L, false, (sh21 S1 (X : Int) (Y : Int)).wr⟩ } := ⟨_, rfl⟩
      rw [← hS2]
      have HS2 : Hid (S2 = { S1 with pa := up21 S1.pa (X : Int) (Y : Int) ⟨L, false, (sh21 S1 (X : Int) (Y : Int)).wr⟩ }) := hS2
      have HSG : Hid (Seg w a L ∧ ∀ x off, a = some ⟨x, off, none⟩ → 0 < n → ¬ G x) := ⟨hs, hap⟩
      clear hgo hrc e1 hS2 hms1 hpg1 hsh1 hs hap
      go_enter Tryd.func32, Tryd.ntmps32
      go_wp2_with fail
      refine HIS.mono ?_
      rintro e w1 ⟨rfl, hw⟩
      subst w1
      go_wp2_with fail
      refine hDN.mono ?_
      rintro e w4 ⟨rfl, hn4⟩
      obtain ⟨G4, ⟨g4, c4, A4, tn4, ta4, tc4, la4, lc4, V4, r4, q2, q3, q4, q5, q6⟩, f4, k4⟩ := hn4
      obtain ⟨X4, Y4, d4, eX4, eY4, hX4, hY4, hd4⟩ := r4.at HG.out.1
      obtain rfl : X = X4 := by omega
      obtain rfl : Y = Y4 := by omega
      clear eX4 eY4
      obtain ⟨PG, hPG⟩ : ∃ PG, PG = S1.pg := ⟨_, rfl⟩
      have hpgb : PG ≤ 16777216 := by rw [hPG, HG.out.2.1]; have := HG.out.2.2.2.1; omega
      have hnPG : n ≤ PG := by rw [hPG, HG.out.2.1]; exact HG.out.2.2.2.2
      have d0 : w4.cell? ⟨b, 0, none⟩ = some (.int .i64 (PG : Int)) := by rw [hPG]; exact r4.cel (i := 0) rfl
      obtain ⟨NB, hNB⟩ : ∃ NB, NB = (A4 X).length := ⟨_, rfl⟩
      have hYb : (Y : Int) < (NB : Int) := by omega
      have HBK : Hid (Calls Tryd.prog 25 #[.int .i64 (PG : Int)] w4 fun e w' => Bk21 w4 w4.heap.size PG e w') := rblk21 PG hpgb w4
      have hseg4 : Seg w4 a L := HSG.out.1.kp k4 (fun b' o' e' hl => HSG.out.2 b' o' e' (by rw [← hn.out]; exact hl))
      obtain ⟨WR, hWR⟩ : ∃ WR, WR = d4.wr := ⟨_, rfl⟩
      have hwr4 : d4.wr = (sh21 S1 (X : Int) (Y : Int)).wr := (r4.hd X Y d4 hX4 hd4).2.2.2.2.1
      have HC5 : Hid (∀ w5 : World, Below w4.heap.size w4 w5 → (w5.cell? ⟨b, 3 + X, none⟩ = some (.slice (some ⟨g4 X, 0, none⟩) NB (c4 X)) ∧ w5.cell? ⟨g4 X, Y * 3 + 2, none⟩ = some (.int .i64 WR)) ∧ (∀ i, w5.frozen? ⟨g4 X, i, none⟩ = false) ∧ w5.cell? ⟨g4 X, Y * 3, none⟩ = some (.slice (some ⟨d4.k, d4.off, none⟩) d4.b.length d4.c) ∧ w5.cell? ⟨g4 X, Y * 3 + 1, none⟩ = some (.bool d4.er)) := fun w5 hb => by
        have q := r4.old hb
        refine ⟨⟨by rw [hNB]; exact q.car hX4, by rw [hWR]; exact (q.pgc hX4 hd4).2.2⟩, fun i => q.frg hX4 i, (q.pgc hX4 hd4).1, (q.pgc hX4 hd4).2.1⟩
      have HFIN : Hid (∀ w5 : World, Below w4.heap.size w4 w5 → w5.heap[w4.heap.size]? = some (.cells ((sp21 (List.replicate PG (255 : Int)) 0 L).map (Value.int .u8)).toArray 5 (0, 0)) → Rn21 w (((w5.setCell ⟨g4 X, Y * 3, none⟩ (.slice (some ⟨w4.heap.size, 0, none⟩) PG PG)).setCell ⟨g4 X, Y * 3 + 1, none⟩ (.bool false)).setCell ⟨g4 X, Y * 3 + 2, none⟩ (.int .i64 WR)) b G S2) := fun w5 hb hh => by
        have hll : (sp21 (List.replicate PG (255 : Int)) 0 L).length = PG := by rw [sp21_len _ _ _ (by simp; have := hn.out; omega)]; simp
        have hsp : sp21 (List.replicate PG (255 : Int)) 0 L = L ++ List.replicate (PG - L.length) 255 := by unfold sp21; simp
        have r5 := r4.new hb (fun k => k = w4.heap.size) (fun k e => by subst e; exact ⟨Nat.le_refl _, (Array.getElem?_eq_some_iff.1 hh).1⟩)
        obtain ⟨X1, hX1⟩ := r5.ha X hX4
        have hk7 : Kp (fun k => k = g4 X) w5 (((w5.setCell ⟨g4 X, Y * 3, none⟩ (.slice (some ⟨w4.heap.size, 0, none⟩) PG PG)).setCell ⟨g4 X, Y * 3 + 1, none⟩ (.bool false)).setCell ⟨g4 X, Y * 3 + 2, none⟩ (.int .i64 WR)) := ((Kp.set (S := fun k => k = g4 X) rfl _).trans (Kp.set (S := fun k => k = g4 X) rfl _) (fun _ _ e => e)).trans (Kp.set (S := fun k => k = g4 X) rfl _) (fun _ _ e => e)
        have hrow := pgrow21 (w := w5) (d' := ⟨w4.heap.size, 0, PG, sp21 (List.replicate PG 255) 0 L, false, WR⟩) hX1 hd4
        rw [show (⟨w4.heap.size, 0, PG, sp21 (List.replicate PG 255) 0 L, false, WR⟩ : Pd21).b.length = PG from hll] at hrow
        have hgl := r4.gl hX4
        have hsg : Seg w5 (some ⟨w4.heap.size, 0, none⟩) (sp21 (List.replicate PG 255) 0 L) := seg_row21 hh (fun y hy => by
          rw [hsp] at hy
          rcases List.mem_append.1 hy with e | e
          · exact hseg4.mem y e
          · rw [(List.mem_replicate.1 e).2]; decide)
        have r7 := r5.page hX4 hY4 ⟨w4.heap.size, 0, PG, sp21 (List.replicate PG 255) 0 L, false, WR⟩ ⟨L, false, (sh21 S1 (X : Int) (Y : Int)).wr⟩ hk7 ⟨X1, hrow⟩ (hsg.kp hk7 (fun b' o' e' _ => by cases e'; show ¬ w4.heap.size = g4 X; omega)) (.inr rfl) (by show sp21 _ 0 L = L ++ List.replicate (S1.pg - L.length) 255; rw [hsp, hPG]) rfl (by show WR = _; rw [hWR]; exact hwr4) (by show (sp21 _ 0 L).length ≤ PG; omega)
        refine Rn21.cons (G1 := G4) (w1 := w4) f4 k4 ?_
        rw [HS2.out]
        refine ⟨fun k => (G4 k ∨ w4.heap.size ≤ k) ∧ k < w5.heap.size, ⟨g4, c4, _, tn4, ta4, tc4, la4, lc4, _, r7, ⟨.inl q2, r5.bl⟩, fun x hx => ⟨.inl (q3 x hx), r5.gl hx⟩, fun k e => ⟨.inl (q4 k e), (r5.lo e).1⟩, fun k e => ⟨?_, r5.vs k e⟩, fun k e => ?_⟩, fun k e => e.1, ?_⟩
        · rcases e with e | e
          · exact .inl (q5 k e)
          · exact .inr (by rw [e]; exact Nat.le_refl _)
        · exact Nat.lt_of_lt_of_le e.2 hk7.size
        · exact (Kp.of_below hb).trans (hk7.mono (S' := G4) (fun i _ e => by subst e; exact q3 X hX4)) (fun _ _ e => e)
      have HKP : Hid (∀ w5 : World, Below w4.heap.size w4 w5 → (((w5.setCell ⟨g4 X, Y * 3, none⟩ (.slice (some ⟨w4.heap.size, 0, none⟩) PG PG)).setCell ⟨g4 X, Y * 3 + 1, none⟩ (.bool false)).setCell ⟨g4 X, Y * 3 + 2, none⟩ (.int .i64 WR)).cell? ⟨b, 3 + X, none⟩ = some (.slice (some ⟨g4 X, 0, none⟩) NB (c4 X)) ∧ (((w5.setCell ⟨g4 X, Y * 3, none⟩ (.slice (some ⟨w4.heap.size, 0, none⟩) PG PG)).setCell ⟨g4 X, Y * 3 + 1, none⟩ (.bool false)).setCell ⟨g4 X, Y * 3 + 2, none⟩ (.int .i64 WR)).cell? ⟨g4 X, Y * 3 + 2, none⟩ = some (.int .i64 WR)) := fun w5 hb => by
        have q := r4.old hb
        obtain ⟨X1, hX1⟩ := q.ha X hX4
        have hk7 : Kp (fun k => k = g4 X) w5 (((w5.setCell ⟨g4 X, Y * 3, none⟩ (.slice (some ⟨w4.heap.size, 0, none⟩) PG PG)).setCell ⟨g4 X, Y * 3 + 1, none⟩ (.bool false)).setCell ⟨g4 X, Y * 3 + 2, none⟩ (.int .i64 WR)) := ((Kp.set (S := fun k => k = g4 X) rfl _).trans (Kp.set (S := fun k => k = g4 X) rfl _) (fun _ _ e => e)).trans (Kp.set (S := fun k => k = g4 X) rfl _) (fun _ _ e => e)
        have hrow := pgrow21 (w := w5) (d' := ⟨w4.heap.size, 0, PG, List.replicate PG 255, false, WR⟩) hX1 hd4
        rw [show (⟨w4.heap.size, 0, PG, List.replicate PG 255, false, WR⟩ : Pd21).b.length = PG from List.length_replicate] at hrow
        constructor
        · rw [World.cell?_of_block (a := ⟨b, 3 + X, none⟩) (hk7.block b q.bl (q.bg hX4)), hNB]; exact q.car hX4
        · have hg := (pdl21_get ((A4 X).set Y ⟨w4.heap.size, 0, PG, List.replicate PG 255, false, WR⟩) Y ⟨w4.heap.size, 0, PG, List.replicate PG 255, false, WR⟩ (by simp [hY4])).2.2
          have hl := pdl21_len ((A4 X).set Y ⟨w4.heap.size, 0, PG, List.replicate PG 255, false, WR⟩)
          simp only [World.cell?, hrow, List.getElem?_toArray]
          rw [List.getElem?_append_left (by rw [hl]; simp; omega)]
          exact hg
      have HS4 : Hid (Seg w4 a L) := hseg4
      have hnM : n = Nat.min n PG := by show n = min n PG; omega
      have HNM : Hid (n = Nat.min n PG) := hnM
      have HFT : Hid (0 + n ≤ (List.replicate PG (255 : Int)).length) := by show _ ≤ _; simp; omega
      clear r4 q2 q3 q4 q5 q6 f4 k4 hPG hNB hX4 hY4 hd4 hseg4 hWR hwr4 hnM
      go_wp2_with fail
      refine HBK.out.mono ?_
      rintro e5 w5 ⟨rfl, hh5, hb5⟩
      have HH5 : Hid (w5.heap[w4.heap.size]? = some (.cells ((List.replicate PG (255 : Int)).map (Value.int .u8)).toArray 5 (0, 0))) := hh5
      have HB5 : Hid (Below w4.heap.size w4 w5) := hb5
      clear hh5 hb5
      go_upto_region 13 with (first
        | (refine wpList_copy21 rfl (.tmp 46) (.tmp 47) 22 22 rfl 5 Tryd.underlying22 size_y21 rfl rfl w4.heap.size 0 (List.replicate PG 255) 5 HH5.out L n hn.out HNM.out (fun _ => ⟨rfl, HS4.out.old HB5.out⟩) HFT.out ?_; intro w6 h6 k6))
      have hb6 : Below w4.heap.size w4 w6 := HB5.out.trans (k6.below (fun i e => by omega) HB5.out.size)
      obtain ⟨k5, fg5, y0, y1⟩ := HC5.out w6.drew hb6.drew
      have fy0 := fg5 (Y * 3)
      have fy1 := fg5 (Y * 3 + 1)
      have fy2 := fg5 (Y * 3 + 2)
      have HF5 := HFIN.out w6.drew hb6.drew h6.out
      have HF5' : Hid (Rn21 w (((w6.drew.setCell ⟨g4 X, Y * 3, none⟩ (.slice (some ⟨w4.heap.size, 0, none⟩) PG PG)).setCell ⟨g4 X, Y * 3 + 1, none⟩ (.bool false)).setCell ⟨g4 X, Y * 3 + 2, none⟩ (.int .i64 WR)) b G S2) := HF5
      obtain ⟨k5a, k5b⟩ := k5
      obtain ⟨⟨j5a, j5b⟩, jf, j0, j1⟩ := HC5.out w6 hb6
      have jf0 := jf (Y * 3)
      have jf1 := jf (Y * 3 + 1)
      have jf2 := jf (Y * 3 + 2)
      have kkp := HKP.out w6 hb6
      have HKK : Hid ((((w6.setCell ⟨g4 X, Y * 3, none⟩ (.slice (some ⟨w4.heap.size, 0, none⟩) PG PG)).setCell ⟨g4 X, Y * 3 + 1, none⟩ (.bool false)).setCell ⟨g4 X, Y * 3 + 2, none⟩ (.int .i64 WR)).cell? ⟨b, 3 + X, none⟩ = some (.slice (some ⟨g4 X, 0, none⟩) NB (c4 X)) ∧ (((w6.setCell ⟨g4 X, Y * 3, none⟩ (.slice (some ⟨w4.heap.size, 0, none⟩) PG PG)).setCell ⟨g4 X, Y * 3 + 1, none⟩ (.bool false)).setCell ⟨g4 X, Y * 3 + 2, none⟩ (.int .i64 WR)).cell? ⟨g4 X, Y * 3 + 2, none⟩ = some (.int .i64 WR)) := kkp
      clear HF5 hb6 fg5 k6 jf kkp
      go_wp2_with fail
      go_region_held3 (fun V => V.cell? ⟨b, 3 + X, none⟩ = some (.slice (some ⟨g4 X, 0, none⟩) NB (c4 X)) ∧ V.cell? ⟨g4 X, Y * 3 + 2, none⟩ = some (.int .i64 WR)) (first | exact ⟨k5a, k5b⟩ | exact HKK.out | go_keep) (fail)
      go_wp2_with fail
      go_ret
      exact ⟨rfl, HF5'.out⟩
end Go.Proofs.YtjoghmdjnkdokaaDoor
