import Derived.Test.YtjoghmdjnkdokaaDoorPm
import Derived.Test.YtjoghmdjnkdokaaDoorPk
import Derived.Test.YtjoghmdjnkdokaaDoorPh
namespace Go.Proofs.YtjoghmdjnkdokaaDoor
open Go.RowKit Go.Shelf
set_option linter.unusedVariables false
set_option linter.unusedSimpArgs false

/-! The document's flash: Program. -/
theorem dn21_cut (S : Fs21) (kd x y : Int) (L : List Int) (h : S.lf = 1) : dnS21 S kd x y = rn21 S kd x y ⟨L, false, (sh21 S x y).wr⟩ := by
  unfold dnS21 rn21
  rw [if_pos h, if_pos h]
  rfl
theorem dn21_go (S : Fs21) (kd x y : Int) (s : Sh21) (h : ¬ S.lf = 1) : { dnS21 S kd x y with pa := up21 (dnS21 S kd x y).pa x y s } = rn21 S kd x y s := by
  unfold dnS21 rn21
  rw [if_neg h, if_neg h]
  rfl
set_option maxRecDepth 100000 in
set_option maxHeartbeats 16000000 in
theorem rprg21 {w : World} {b : Nat} {G : Nat → Prop} {S : Fs21} (h : Rl21d w b G S) (hO : Ok21 S) (x y : Int) (hx : In21 x) (hy : In21 y) (hlg : S.lg.length ≤ 5500000001000)
    (a : Option Addr) (L : List Int) (n cap : Nat) (hs : Seg w a L) (hn : Hid (L.length = n)) (hap : ∀ x off, a = some ⟨x, off, none⟩ → 0 < n → ¬ G x) :
    Calls Tryd.prog 32 #[.pointer (some ⟨b, 0, none⟩), .int .i64 x, .int .i64 y, .slice a n cap] w fun e w' => e = .returned (.int .i64 (pgE21 S x y n)) ∧ Rn21 w w' b G (pgS21 S x y L) := by
  have HL : Hid (Rl21d w b G S) := h
  have HIS := ris21 h x y hx hy
  obtain ⟨g, c, A, tn, ta, tc, la, lc, V, h1, h2, h3, h4, h5, h6⟩ := h
  have c7 : w.cell? ⟨b, 7, none⟩ = some (.bool (!S.on)) := h1.cel rfl
  have c0 : w.cell? ⟨b, 0, none⟩ = some (.int .i64 (S.pg : Int)) := h1.cel rfl
  have hE : Hid (pgE21 S x y n = if rf21 S.on S.ps x y ≠ 0 then rf21 S.on S.ps x y else if S.pg < n then 1 else if (sh21 S x y).er = false then 212 else rc21 S) := rfl
  have hS : Hid (pgS21 S x y L = if rf21 S.on S.ps x y ≠ 0 then S else if S.pg < n then S else if (sh21 S x y).er = false then S else rn21 S 2 x y ⟨L, false, (sh21 S x y).wr⟩) := by show _ = _; unfold pgS21; rw [hn.out]
  rw [hE.out, hS.out]
  clear hE hS
  clear h2 h3 h4 h5 h6
  by_cases hon : S.on = false
  · have hrf : rf21 S.on S.ps x y = 213 := by rw [hon]; rfl
    rw [hrf, if_pos (by decide), if_pos (by decide)]
    rw [hon] at c7
    replace c7 : w.cell? ⟨b, 7, none⟩ = some (.bool true) := c7
    clear h1 hrf HIS
    go_enter Tryd.func32, Tryd.ntmps32
    go_wp2_with fail
    go_ret
    exact ⟨rfl, HL.out.stay (Below.refl _ _)⟩
  have hon' : S.on = true := by simpa using hon
  rw [hon'] at c7
  replace c7 : w.cell? ⟨b, 7, none⟩ = some (.bool false) := c7
  have hrf : rf21 S.on S.ps x y = ms21 S.ps x y := by rw [hon']; rfl
  rw [hrf]
  clear hrf
  by_cases hms : ¬ ms21 S.ps x y = 0
  · have h211 : ms21 S.ps x y = 211 := by unfold ms21 at hms ⊢; split <;> simp_all
    rw [h211, if_pos (by decide), if_pos (by decide)]
    have e : decide (ms21 S.ps x y = 0) = false := by simp [hms]
    rw [e] at HIS
    clear h1 e hms h211
    go_enter Tryd.func32, Tryd.ntmps32
    go_wp2_with fail
    refine HIS.mono ?_
    rintro e w1 ⟨rfl, hw⟩
    subst w1
    go_wp2_with fail
    go_ret
    exact ⟨rfl, HL.out.stay (Below.refl _ _)⟩
  replace hms : ms21 S.ps x y = 0 := by omega
  have hnn : ¬ (ms21 S.ps x y ≠ 0) := by rw [hms]; simp
  rw [if_neg hnn, if_neg hnn]
  clear hnn
  have e0 : decide (ms21 S.ps x y = 0) = true := by simp [hms]
  rw [e0] at HIS
  clear e0
  by_cases hlen : S.pg < n
  · rw [if_pos hlen, if_pos hlen]
    have hli : (S.pg : Int) < (n : Int) := by omega
    clear h1 hs hap
    go_enter Tryd.func32, Tryd.ntmps32
    go_wp2_with fail
    refine HIS.mono ?_
    rintro e w1 ⟨rfl, hw⟩
    subst w1
    go_wp2_with fail
    go_ret
    exact ⟨rfl, HL.out.stay (Below.refl _ _)⟩
  rw [if_neg hlen, if_neg hlen]
  have hli : ¬ (S.pg : Int) < (n : Int) := by omega
  obtain ⟨X, Y, d, rfl, rfl, hX, hY, hd⟩ := h1.at hms
  have hdd := h1.hd X Y d hX hd
  have her : d.er = (sh21 S (X : Int) (Y : Int)).er := hdd.2.2.2.1
  have ca := h1.car hX
  have p1 := (h1.pgc hX hd).2.1
  obtain ⟨NA, hNA⟩ : ∃ NA, NA = (A X).length := ⟨_, rfl⟩
  rw [← hNA] at ca
  have hXi : (X : Int) < 3 := by omega
  have hYi : (Y : Int) < (NA : Int) := by omega
  rw [her] at p1
  by_cases hW : (sh21 S (X : Int) (Y : Int)).er = false
  · rw [if_pos hW, if_pos hW]
    rw [hW] at p1
    clear h1 hdd her hNA hd hY hW hs hap
    go_enter Tryd.func32, Tryd.ntmps32
    go_wp2_with fail
    refine HIS.mono ?_
    rintro e w1 ⟨rfl, hw⟩
    subst w1
    go_wp2_with fail
    go_ret
    exact ⟨rfl, HL.out.stay (Below.refl _ _)⟩
  · rw [if_neg hW, if_neg hW]
    have hW' : (sh21 S (X : Int) (Y : Int)).er = true := by simpa using hW
    rw [hW'] at p1
    have hDN := rdon21 HL.out hO 2 X Y hms hlg
    clear h1 hdd her hNA hd hY hW hW'
    by_cases hlf : S.lf = 1
    · have e1 : decide (S.lf = 1) = true := by simp [hlf]
      rw [e1] at hDN
      have hcut := dn21_cut S 2 (X : Int) (Y : Int) L hlf
      have hrc : rc21 S = 213 := by unfold rc21; rw [if_pos hlf]
      rw [hrc, ← hcut]
      generalize dnS21 S 2 (X : Int) (Y : Int) = S1 at hDN ⊢
      clear hcut hrc e1 hs hap
      go_enter Tryd.func32, Tryd.ntmps32
      go_wp2_with fail
      refine HIS.mono ?_
      rintro e w1 ⟨rfl, hw⟩
      subst w1
      go_wp2_with fail
      refine hDN.mono ?_
      rintro e w4 ⟨rfl, hn4⟩
      have HN4' : Hid (Rn21 w w4 b G S1) := hn4
      clear hn4
      go_wp2_with fail
      go_ret
      exact ⟨rfl, HN4'.out⟩
    · have e1 : decide (S.lf = 1) = false := by simp [hlf]
      rw [e1] at hDN
      have hgo := dn21_go S 2 (X : Int) (Y : Int) ⟨L, false, (sh21 S (X : Int) (Y : Int)).wr⟩ hlf
      have hrc : rc21 S = 0 := by unfold rc21; rw [if_neg hlf]
      have hms1 : ms21 (dnS21 S 2 (X : Int) (Y : Int)).ps (X : Int) (Y : Int) = 0 := by
        have : (dnS21 S 2 (X : Int) (Y : Int)).ps = S.ps := by unfold dnS21; split <;> rfl
        rw [this]; exact hms
      have hpg1 : (dnS21 S 2 (X : Int) (Y : Int)).pg = S.pg := by unfold dnS21; split <;> rfl
      have hsh1 : sh21 (dnS21 S 2 (X : Int) (Y : Int)) (X : Int) (Y : Int) = sh21 S (X : Int) (Y : Int) := by unfold dnS21; rw [if_neg hlf]; rfl
      rw [hrc, ← hgo, ← hsh1]
      generalize dnS21 S 2 (X : Int) (Y : Int) = S1 at hDN hms1 hpg1 ⊢
      have HG : Hid (ms21 S1.ps (X : Int) (Y : Int) = 0 ∧ S1.pg = S.pg ∧ 64 ≤ S.pg ∧ S.pg ≤ 4096 ∧ n ≤ S.pg) := ⟨hms1, hpg1, hO.pg.1, hO.pg.2, by omega⟩
      obtain ⟨S2, hS2⟩ : ∃ S2 : Fs21, S2 = { S1 with pa := up21 S1.pa (X : Int) (Y : Int) ⟨L, false, (sh21 S1 (X : Int) (Y : Int)).wr⟩ } := ⟨_, rfl⟩
      rw [← hS2]
      have HS2 : Hid (S2 = { S1 with pa := up21 S1.pa (X : Int) (Y : Int) ⟨L, false, (sh21 S1 (X : Int) (Y : Int)).wr⟩ }) := hS2
      have HSG : Hid (Seg w a L ∧ ∀ x off, a = some ⟨x, off, none⟩ → 0 < n → ¬ G x) := ⟨hs, hap⟩
      clear hgo hrc e1 hS2 hms1 hpg1 hsh1 hs hap
      go_enter Tryd.func32, Tryd.ntmps32
      go_wp2_with fail
      refine HIS.mono ?_
      rintro e w1 ⟨rfl, hw⟩
      subst w1
      go_wp2_with fail
      refine hDN.mono ?_
      rintro e w4 ⟨rfl, hn4⟩
      obtain ⟨G4, ⟨g4, c4, A4, tn4, ta4, tc4, la4, lc4, V4, r4, q2, q3, q4, q5, q6⟩, f4, k4⟩ := hn4
      obtain ⟨X4, Y4, d4, eX4, eY4, hX4, hY4, hd4⟩ := r4.at HG.out.1
      obtain rfl : X = X4 := by omega
      obtain rfl : Y = Y4 := by omega
      clear eX4 eY4
      obtain ⟨PG, hPG⟩ : ∃ PG, PG = S1.pg := ⟨_, rfl⟩
      have hpgb : PG ≤ 16777216 := by rw [hPG, HG.out.2.1]; have := HG.out.2.2.2.1; omega
      have hnPG : n ≤ PG := by rw [hPG, HG.out.2.1]; exact HG.out.2.2.2.2
      have d0 : w4.cell? ⟨b, 0, none⟩ = some (.int .i64 (PG : Int)) := by rw [hPG]; exact r4.cel (i := 0) rfl
      obtain ⟨NB, hNB⟩ : ∃ NB, NB = (A4 X).length := ⟨_, rfl⟩
      have hYb : (Y : Int) < (NB : Int) := by omega
      have HBK : Hid (Calls Tryd.prog 25 #[.int .i64 (PG : Int)] w4 fun e w' => Bk21 w4 w4.heap.size PG e w') := rblk21 PG hpgb w4
      have hseg4 : Seg w4 a L := HSG.out.1.kp k4 (fun b' o' e' hl => HSG.out.2 b' o' e' (by rw [← hn.out]; exact hl))
      obtain ⟨WR, hWR⟩ : ∃ WR, WR = d4.wr := ⟨_, rfl⟩
      have hwr4 : d4.wr = (sh21 S1 (X : Int) (Y : Int)).wr := (r4.hd X Y d4 hX4 hd4).2.2.2.2.1
      have HC5 : Hid (∀ w5 : World, Below w4.heap.size w4 w5 → (w5.cell? ⟨b, 3 + X, none⟩ = some (.slice (some ⟨g4 X, 0, none⟩) NB (c4 X)) ∧ w5.cell? ⟨g4 X, Y * 3 + 2, none⟩ = some (.int .i64 WR)) ∧ (∀ i, w5.frozen? ⟨g4 X, i, none⟩ = false) ∧ w5.cell? ⟨g4 X, Y * 3, none⟩ = some (.slice (some ⟨d4.k, d4.off, none⟩) d4.b.length d4.c) ∧ w5.cell? ⟨g4 X, Y * 3 + 1, none⟩ = some (.bool d4.er)) := fun w5 hb => by
        have q := r4.old hb
        refine ⟨⟨by rw [hNB]; exact q.car hX4, by rw [hWR]; exact (q.pgc hX4 hd4).2.2⟩, fun i => q.frg hX4 i, (q.pgc hX4 hd4).1, (q.pgc hX4 hd4).2.1⟩
      have HFIN : Hid (∀ w5 : World, Below w4.heap.size w4 w5 → w5.heap[w4.heap.size]? = some (.cells ((sp21 (List.replicate PG (255 : Int)) 0 L).map (Value.int .u8)).toArray 5 (0, 0)) → Rn21 w (((w5.setCell ⟨g4 X, Y * 3, none⟩ (.slice (some ⟨w4.heap.size, 0, none⟩) PG PG)).setCell ⟨g4 X, Y * 3 + 1, none⟩ (.bool false)).setCell ⟨g4 X, Y * 3 + 2, none⟩ (.int .i64 WR)) b G S2) := fun w5 hb hh => by
        have hll : (sp21 (List.replicate PG (255 : Int)) 0 L).length = PG := by rw [sp21_len _ _ _ (by simp; have := hn.out; omega)]; simp
        have hsp : sp21 (List.replicate PG (255 : Int)) 0 L = L ++ List.replicate (PG - L.length) 255 := by unfold sp21; simp
        have r5 := r4.new hb (fun k => k = w4.heap.size) (fun k e => by subst e; exact ⟨Nat.le_refl _, (Array.getElem?_eq_some_iff.1 hh).1⟩)
        obtain ⟨X1, hX1⟩ := r5.ha X hX4
        have hk7 : Kp (fun k => k = g4 X) w5 (((w5.setCell ⟨g4 X, Y * 3, none⟩ (.slice (some ⟨w4.heap.size, 0, none⟩) PG PG)).setCell ⟨g4 X, Y * 3 + 1, none⟩ (.bool false)).setCell ⟨g4 X, Y * 3 + 2, none⟩ (.int .i64 WR)) := ((Kp.set (S := fun k => k = g4 X) rfl _).trans (Kp.set (S := fun k => k = g4 X) rfl _) (fun _ _ e => e)).trans (Kp.set (S := fun k => k = g4 X) rfl _) (fun _ _ e => e)
        have hrow := pgrow21 (w := w5) (d' := ⟨w4.heap.size, 0, PG, sp21 (List.replicate PG 255) 0 L, false, WR⟩) hX1 hd4
        rw [show (⟨w4.heap.size, 0, PG, sp21 (List.replicate PG 255) 0 L, false, WR⟩ : Pd21).b.length = PG from hll] at hrow
        have hgl := r4.gl hX4
        have hsg : Seg w5 (some ⟨w4.heap.size, 0, none⟩) (sp21 (List.replicate PG 255) 0 L) := seg_row21 hh (fun y hy => by
          rw [hsp] at hy
          rcases List.mem_append.1 hy with e | e
          · exact hseg4.mem y e
          · rw [(List.mem_replicate.1 e).2]; decide)
        have r7 := r5.page hX4 hY4 ⟨w4.heap.size, 0, PG, sp21 (List.replicate PG 255) 0 L, false, WR⟩ ⟨L, false, (sh21 S1 (X : Int) (Y : Int)).wr⟩ hk7 ⟨X1, hrow⟩ (hsg.kp hk7 (fun b' o' e' _ => by cases e'; show ¬ w4.heap.size = g4 X; omega)) (.inr rfl) (by show sp21 _ 0 L = L ++ List.replicate (S1.pg - L.length) 255; rw [hsp, hPG]) rfl (by show WR = _; rw [hWR]; exact hwr4) (by show (sp21 _ 0 L).length ≤ PG; omega)
        refine Rn21.cons (G1 := G4) (w1 := w4) f4 k4 ?_
        rw [HS2.out]
        refine ⟨fun k => (G4 k ∨ w4.heap.size ≤ k) ∧ k < w5.heap.size, ⟨g4, c4, _, tn4, ta4, tc4, la4, lc4, _, r7, ⟨.inl q2, r5.bl⟩, fun x hx => ⟨.inl (q3 x hx), r5.gl hx⟩, fun k e => ⟨.inl (q4 k e), (r5.lo e).1⟩, fun k e => ⟨?_, r5.vs k e⟩, fun k e => ?_⟩, fun k e => e.1, ?_⟩
        · rcases e with e | e
          · exact .inl (q5 k e)
          · exact .inr (by rw [e]; exact Nat.le_refl _)
        · exact Nat.lt_of_lt_of_le e.2 hk7.size
        · exact (Kp.of_below hb).trans (hk7.mono (S' := G4) (fun i _ e => by subst e; exact q3 X hX4)) (fun _ _ e => e)
      have HKP : Hid (∀ w5 : World, Below w4.heap.size w4 w5 → (((w5.setCell ⟨g4 X, Y * 3, none⟩ (.slice (some ⟨w4.heap.size, 0, none⟩) PG PG)).setCell ⟨g4 X, Y * 3 + 1, none⟩ (.bool false)).setCell ⟨g4 X, Y * 3 + 2, none⟩ (.int .i64 WR)).cell? ⟨b, 3 + X, none⟩ = some (.slice (some ⟨g4 X, 0, none⟩) NB (c4 X)) ∧ (((w5.setCell ⟨g4 X, Y * 3, none⟩ (.slice (some ⟨w4.heap.size, 0, none⟩) PG PG)).setCell ⟨g4 X, Y * 3 + 1, none⟩ (.bool false)).setCell ⟨g4 X, Y * 3 + 2, none⟩ (.int .i64 WR)).cell? ⟨g4 X, Y * 3 + 2, none⟩ = some (.int .i64 WR)) := fun w5 hb => by
        have q := r4.old hb
        obtain ⟨X1, hX1⟩ := q.ha X hX4
        have hk7 : Kp (fun k => k = g4 X) w5 (((w5.setCell ⟨g4 X, Y * 3, none⟩ (.slice (some ⟨w4.heap.size, 0, none⟩) PG PG)).setCell ⟨g4 X, Y * 3 + 1, none⟩ (.bool false)).setCell ⟨g4 X, Y * 3 + 2, none⟩ (.int .i64 WR)) := ((Kp.set (S := fun k => k = g4 X) rfl _).trans (Kp.set (S := fun k => k = g4 X) rfl _) (fun _ _ e => e)).trans (Kp.set (S := fun k => k = g4 X) rfl _) (fun _ _ e => e)
        have hrow := pgrow21 (w := w5) (d' := ⟨w4.heap.size, 0, PG, List.replicate PG 255, false, WR⟩) hX1 hd4
        rw [show (⟨w4.heap.size, 0, PG, List.replicate PG 255, false, WR⟩ : Pd21).b.length = PG from List.length_replicate] at hrow
        constructor
        · rw [World.cell?_of_block (a := ⟨b, 3 + X, none⟩) (hk7.block b q.bl (q.bg hX4)), hNB]; exact q.car hX4
        · have hg := (pdl21_get ((A4 X).set Y ⟨w4.heap.size, 0, PG, List.replicate PG 255, false, WR⟩) Y ⟨w4.heap.size, 0, PG, List.replicate PG 255, false, WR⟩ (by simp [hY4])).2.2
          have hl := pdl21_len ((A4 X).set Y ⟨w4.heap.size, 0, PG, List.replicate PG 255, false, WR⟩)
          simp only [World.cell?, hrow, List.getElem?_toArray]
          rw [List.getElem?_append_left (by rw [hl]; simp; omega)]
          exact hg
      have HS4 : Hid (Seg w4 a L) := hseg4
      have hnM : n = Nat.min n PG := by show n = min n PG; omega
      have HNM : Hid (n = Nat.min n PG) := hnM
      have HFT : Hid (0 + n ≤ (List.replicate PG (255 : Int)).length) := by show _ ≤ _; simp; omega
      clear r4 q2 q3 q4 q5 q6 f4 k4 hPG hNB hX4 hY4 hd4 hseg4 hWR hwr4 hnM
      go_wp2_with fail
      refine HBK.out.mono ?_
      rintro e5 w5 ⟨rfl, hh5, hb5⟩
      have HH5 : Hid (w5.heap[w4.heap.size]? = some (.cells ((List.replicate PG (255 : Int)).map (Value.int .u8)).toArray 5 (0, 0))) := hh5
      have HB5 : Hid (Below w4.heap.size w4 w5) := hb5
      clear hh5 hb5
      go_upto_region 13 with (first
        | (refine wpList_copy21 rfl (.tmp 46) (.tmp 47) 22 22 rfl 5 Tryd.underlying22 size_y21 rfl rfl w4.heap.size 0 (List.replicate PG 255) 5 HH5.out L n hn.out HNM.out (fun _ => ⟨rfl, HS4.out.old HB5.out⟩) HFT.out ?_; intro w6 h6 k6))
      have hb6 : Below w4.heap.size w4 w6 := HB5.out.trans (k6.below (fun i e => by omega) HB5.out.size)
      obtain ⟨k5, fg5, y0, y1⟩ := HC5.out w6.drew hb6.drew
      have fy0 := fg5 (Y * 3)
      have fy1 := fg5 (Y * 3 + 1)
      have fy2 := fg5 (Y * 3 + 2)
      have HF5 := HFIN.out w6.drew hb6.drew h6.out
      have HF5' : Hid (Rn21 w (((w6.drew.setCell ⟨g4 X, Y * 3, none⟩ (.slice (some ⟨w4.heap.size, 0, none⟩) PG PG)).setCell ⟨g4 X, Y * 3 + 1, none⟩ (.bool false)).setCell ⟨g4 X, Y * 3 + 2, none⟩ (.int .i64 WR)) b G S2) := HF5
      obtain ⟨k5a, k5b⟩ := k5
      obtain ⟨⟨j5a, j5b⟩, jf, j0, j1⟩ := HC5.out w6 hb6
      have jf0 := jf (Y * 3)
      have jf1 := jf (Y * 3 + 1)
      have jf2 := jf (Y * 3 + 2)
      have kkp := HKP.out w6 hb6
      have HKK : Hid ((((w6.setCell ⟨g4 X, Y * 3, none⟩ (.slice (some ⟨w4.heap.size, 0, none⟩) PG PG)).setCell ⟨g4 X, Y * 3 + 1, none⟩ (.bool false)).setCell ⟨g4 X, Y * 3 + 2, none⟩ (.int .i64 WR)).cell? ⟨b, 3 + X, none⟩ = some (.slice (some ⟨g4 X, 0, none⟩) NB (c4 X)) ∧ (((w6.setCell ⟨g4 X, Y * 3, none⟩ (.slice (some ⟨w4.heap.size, 0, none⟩) PG PG)).setCell ⟨g4 X, Y * 3 + 1, none⟩ (.bool false)).setCell ⟨g4 X, Y * 3 + 2, none⟩ (.int .i64 WR)).cell? ⟨g4 X, Y * 3 + 2, none⟩ = some (.int .i64 WR)) := kkp
      clear HF5 hb6 fg5 k6 jf kkp
      go_wp2_with fail
      go_region_held3 (fun V => V.cell? ⟨b, 3 + X, none⟩ = some (.slice (some ⟨g4 X, 0, none⟩) NB (c4 X)) ∧ V.cell? ⟨g4 X, Y * 3 + 2, none⟩ = some (.int .i64 WR)) (first | exact ⟨k5a, k5b⟩ | exact HKK.out | go_keep) (fail)
      go_wp2_with fail
      go_ret
      exact ⟨rfl, HF5'.out⟩
end Go.Proofs.YtjoghmdjnkdokaaDoor

namespace Go.Proofs.YtjoghmdjnkdokaaDoor
open Go.RowKit Go.Shelf
set_option linter.unusedVariables false
set_option linter.unusedSimpArgs false

/-! The document's page writer (sapperref22): the same state Pw22 as the landed writer's. Failed is cl, unless cl = 221 (Over). -/
structure Rw22 (w : World) (u b : Nat) (ha : Option Addr) (hc : Nat) (P : Pw22) : Prop where
  hu : w.heap[u]? = some (.cells #[.pointer (some ⟨b, 0, none⟩), .int .i64 P.ar, .slice ha P.bf.length hc, .int .i64 (P.wn : Int), .int .i64 (P.pn : Int), .int .i64 (if P.cl = 221 then 0 else P.cl), .bool (decide (P.cl = 221))] 186 (0, 0))
  ow : w.ownsRow 0 5 1 (.slice ha P.bf.length hc) P.bf.length (P.bf.map (Value.int .u8))
  ne : ∀ k, (Value.slice ha P.bf.length hc).ownBlock = some k → k ≠ u
  bd : ∀ y ∈ P.bf, 0 ≤ y ∧ y ≤ 255
theorem Rw22.cel {w : World} {u b : Nat} {ha : Option Addr} {hc : Nat} {P : Pw22} (h : Rw22 w u b ha hc P) {i : Nat} {v : Value} (hi : (#[.pointer (some ⟨b, 0, none⟩), .int .i64 P.ar, .slice ha P.bf.length hc, .int .i64 (P.wn : Int), .int .i64 (P.pn : Int), .int .i64 (if P.cl = 221 then 0 else P.cl), .bool (decide (P.cl = 221))] : Array Value)[i]? = some v) : w.cell? ⟨u, i, none⟩ = some v := by
  simp only [World.cell?, h.hu]; exact hi
end Go.Proofs.YtjoghmdjnkdokaaDoor

namespace Go.Proofs.YtjoghmdjnkdokaaDoor
open Go.RowKit Go.Shelf
set_option linter.unusedVariables false
set_option linter.unusedSimpArgs false

/-! The document's page writer: its footprint; what flush leaves of it. -/
theorem rf22_not (on : Bool) (ps : Nat) (x y : Int) : rf21 on ps x y ≠ 221 := by
  unfold rf21 ms21
  repeat' split
  all_goals decide
theorem rc22_not (S : Fs21) : rc21 S ≠ 221 := by
  unfold rc21; split <;> decide
theorem erE22_not (S : Fs21) (x y : Int) : erE21 S x y ≠ 221 := by
  unfold erE21
  split
  · exact rf22_not _ _ _ _
  · split
    · decide
    · exact rc22_not _
theorem pgE22_not (S : Fs21) (x y : Int) (n : Nat) : pgE21 S x y n ≠ 221 := by
  unfold pgE21
  split
  · exact rf22_not _ _ _ _
  · split
    · decide
    · split
      · decide
      · exact rc22_not _
theorem lyE22_not (S : Fs21) (P : Pw22) : lyE22 S P ≠ 221 := by
  unfold lyE22
  split
  · exact erE22_not _ _ _
  · exact pgE22_not _ _ _ _
structure Rh22 (w : World) (u b : Nat) (G H : Nat → Prop) (ha : Option Addr) (hc : Nat) (S : Fs21) (P : Pw22) : Prop where
  fl : Rl21d w b G S
  wr : Rw22 w u b ha hc P
  nu : ¬ G u
  nh : ∀ k, (Value.slice ha P.bf.length hc).ownBlock = some k → ¬ G k
  gH : ∀ k, G k → H k
  uH : H u
  hH : ∀ k, (Value.slice ha P.bf.length hc).ownBlock = some k → H k
  lt : ∀ k, H k → k < w.heap.size
def Re22 (w : World) (u b : Nat) (H : Nat → Prop) (S : Fs21) (P : Pw22) : Prop := ∃ G ha hc, Rh22 w u b G H ha hc S P
def Ren22 (w w' : World) (u b : Nat) (H : Nat → Prop) (S' : Fs21) (P' : Pw22) : Prop := ∃ H', Re22 w' u b H' S' P' ∧ (∀ k, H' k → H k ∨ w.heap.size ≤ k) ∧ Kp H w w'
section
variable {w w' : World} {u b : Nat} {G H : Nat → Prop} {ha : Option Addr} {hc : Nat} {S S' : Fs21} {P P' : Pw22}
theorem Rw22.kp (h : Rw22 w u b ha hc P) (h1 : w'.heap[u]? = w.heap[u]?) (h2 : ∀ k, (Value.slice ha P.bf.length hc).ownBlock = some k → w'.heap[k]? = w.heap[k]?) : Rw22 w' u b ha hc P := by
  refine ⟨h1.trans h.hu, ⟨h.ow.1, ?_⟩, h.ne, h.bd⟩
  rcases h.ow.2 with q | ⟨q, cap, cur, q1, q2, q3, q4⟩
  · exact .inl q
  · exact .inr ⟨q, cap, cur, q1, q2, (h2 q (by rw [q1]; rfl)).trans q3, q4⟩
theorem Rw22.seg (h : Rw22 w u b ha hc P) : Seg w ha P.bf := by
  obtain ⟨-, a, cap, e, hs, -⟩ := own_seg h.ow (M := 255) (by decide) h.bd
  cases e
  exact hs
/-- What a call of the document's flash leaves of a writer over it. -/
theorem Rh22.flash (h : Rh22 w u b G H ha hc S P) (hn : Rn21 w w' b G S') : ∃ G' H', Rh22 w' u b G' H' ha hc S' P ∧ (∀ k, H' k → H k ∨ w.heap.size ≤ k) ∧ Kp H w w' := by
  obtain ⟨G', g1, g2, g3⟩ := hn
  have hul := h.lt u h.uH
  refine ⟨G', fun k => G' k ∨ k = u ∨ (Value.slice ha P.bf.length hc).ownBlock = some k, ⟨g1, h.wr.kp (g3.block u hul h.nu) (fun k e => g3.block k (h.lt k (h.hH k e)) (h.nh k e)), ?_, fun k e q => ?_, fun k e => .inl e, .inr (.inl rfl), fun k e => .inr (.inr e), ?_⟩, ?_, g3.mono (fun i _ e => h.gH i e)⟩
  · intro q
    rcases g2 u q with q | q
    · exact h.nu q
    · omega
  · rcases g2 k q with q | q
    · exact h.nh k e q
    · have := h.lt k (h.hH k e); omega
  · rintro k (e | rfl | e)
    · exact g1.lts k e
    · exact Nat.lt_of_lt_of_le hul g3.size
    · exact Nat.lt_of_lt_of_le (h.lt k (h.hH k e)) g3.size
  · rintro k (e | rfl | e)
    · rcases g2 k e with q | q
      · exact .inl (h.gH k q)
      · exact .inr q
    · exact .inl h.uH
    · exact .inl (h.hH k e)
end
end Go.Proofs.YtjoghmdjnkdokaaDoor

namespace Go.Proofs.YtjoghmdjnkdokaaDoor
open Go.RowKit Go.Shelf
set_option linter.unusedVariables false
set_option linter.unusedSimpArgs false

/-! The document's page writer: flush. -/
section
variable {w w' : World} {u b : Nat} {G H : Nat → Prop} {ha : Option Addr} {hc : Nat} {S S' : Fs21} {P P' : Pw22}
theorem own_tr22 {N n : Nat} {e : TypeId} {k : Nat} {v : Value} {xs : List Value} (h : w.ownsRow N e k v n xs) (hk : ∀ r, v.ownBlock = some r → w'.heap[r]? = w.heap[r]?) : w'.ownsRow N e k v n xs := by
  refine ⟨h.1, ?_⟩
  rcases h.2 with q | ⟨q, cap, cur, q1, q2, q3, q4⟩
  · exact .inl q
  · exact .inr ⟨q, cap, cur, q1, q2, (hk q (by rw [q1]; rfl)).trans q3, q4⟩
theorem Rw22.setF (h : Rw22 w u b ha hc P) (h0 : P.cl = 0) (x : Int) (hx : x ≠ 221) : Rw22 (w.setCell ⟨u, 5, none⟩ (.int .i64 x)) u b ha hc { P with cl := x } := by
  refine ⟨?_, own_tr22 h.ow (fun r hr => set_other22 w _ (h.ne r hr)), h.ne, h.bd⟩
  have q := (seven_set22 h.hu (.int .i64 x)).2.2.1
  have e1 : (if x = 221 then 0 else x) = x := if_neg hx
  have e2 : decide (P.cl = 221) = decide (x = 221) := by rw [h0]; simp [hx]
  rw [e2] at q
  show (w.setCell ⟨u, 5, none⟩ (.int .i64 x)).heap[u]? = some (.cells #[_, _, _, _, _, .int .i64 (if x = 221 then 0 else x), .bool (decide (x = 221))] _ _)
  rw [e1]
  exact q
theorem Rw22.setN (h : Rw22 w u b ha hc P) (n : Nat) : Rw22 ((w.setCell ⟨u, 4, none⟩ (.int .i64 (n : Int))).setCell ⟨u, 2, none⟩ (.slice none 0 0)) u b none 0 { P with pn := n, bf := [] } := by
  refine ⟨?_, World.ownsRow_nil _ _ _ _, fun k e => by simp [Value.ownBlock] at e, by simp⟩
  have q := (seven_set22 h.hu (.int .i64 (n : Int))).2.1
  simp [World.setCell, Array.getElem?_modify, h.hu]
theorem Rh22.fail (h : Rh22 w u b G H ha hc S P) (h0 : P.cl = 0) (x : Int) (hx : x ≠ 221) : Ren22 w (w.setCell ⟨u, 5, none⟩ (.int .i64 x)) u b H S { P with cl := x } := by
  have hk : Kp H w (w.setCell ⟨u, 5, none⟩ (.int .i64 x)) := Kp.set h.uH _
  refine ⟨H, ⟨G, ha, hc, ⟨h.fl.kp (fun k e => set_other22 w _ (fun q => h.nu (q ▸ e))) hk.size, h.wr.setF h0 x hx, h.nu, h.nh, h.gH, h.uH, h.hH, fun k e => Nat.lt_of_lt_of_le (h.lt k e) hk.size⟩⟩, fun _ e => .inl e, hk⟩
theorem Rh22.next (h : Rh22 w u b G H ha hc S P) (n : Nat) : Ren22 w ((w.setCell ⟨u, 4, none⟩ (.int .i64 (n : Int))).setCell ⟨u, 2, none⟩ (.slice none 0 0)) u b H S { P with pn := n, bf := [] } := by
  have hk : Kp H w ((w.setCell ⟨u, 4, none⟩ (.int .i64 (n : Int))).setCell ⟨u, 2, none⟩ (.slice none 0 0)) := (Kp.set h.uH _).trans (Kp.set h.uH _) (fun _ _ e => e)
  refine ⟨H, ⟨G, none, 0, ⟨h.fl.kp (fun k e => ?_) hk.size, h.wr.setN n, h.nu, fun k e => by simp [Value.ownBlock] at e, h.gH, h.uH, fun k e => by simp [Value.ownBlock] at e, fun k e => Nat.lt_of_lt_of_le (h.lt k e) hk.size⟩⟩, fun _ e => .inl e, hk⟩
  have hne : k ≠ u := fun q => h.nu (q ▸ e)
  rw [set_other22 _ _ hne, set_other22 _ _ hne]
theorem Ren22.cons {w1 w2 : World} {H1 : Nat → Prop} (f1 : ∀ k, H1 k → H k ∨ w.heap.size ≤ k) (k1 : Kp H w w1) (h : Ren22 w1 w2 u b H1 S' P') : Ren22 w w2 u b H S' P' := by
  obtain ⟨H2, h1, h2, h3⟩ := h
  refine ⟨H2, h1, fun k e => ?_, k1.trans h3 (fun i hi e => ?_)⟩
  · rcases h2 k e with q | q
    · exact f1 k q
    · exact .inr (Nat.le_trans k1.size q)
  · rcases f1 i e with q | q
    · exact q
    · omega
end
end Go.Proofs.YtjoghmdjnkdokaaDoor

namespace Go.Proofs.YtjoghmdjnkdokaaDoor
open Go.RowKit Go.Shelf
set_option linter.unusedVariables false
set_option linter.unusedSimpArgs false

/-! The document's page writer: flush, walked. -/
section
variable {w w' : World} {u b : Nat} {G H : Nat → Prop} {ha : Option Addr} {hc : Nat} {S S' : Fs21} {P P' : Pw22}
end
end Go.Proofs.YtjoghmdjnkdokaaDoor

namespace Go.Proofs.YtjoghmdjnkdokaaDoor
open Go.RowKit Go.Shelf
set_option linter.unusedVariables false
set_option linter.unusedSimpArgs false

/-! The document's page writer: End. -/
section
variable {w w' : World} {u b : Nat} {G H : Nat → Prop} {ha : Option Addr} {hc : Nat} {S S' : Fs21} {P P' : Pw22}
theorem Rw22.setO (h : Rw22 w u b ha hc P) (h0 : P.cl = 0) : Rw22 (w.setCell ⟨u, 6, none⟩ (.bool true)) u b ha hc { P with cl := 221 } := by
  refine ⟨?_, own_tr22 h.ow (fun r hr => set_other22 w _ (h.ne r hr)), h.ne, h.bd⟩
  have q := (seven_set22 h.hu (.bool true)).2.2.2
  have e1 : (if P.cl = 221 then 0 else P.cl) = 0 := by rw [h0]; rfl
  rw [e1] at q
  exact q
theorem Rh22.over (h : Rh22 w u b G H ha hc S P) (h0 : P.cl = 0) : Ren22 w (w.setCell ⟨u, 6, none⟩ (.bool true)) u b H S { P with cl := 221 } := by
  have hk : Kp H w (w.setCell ⟨u, 6, none⟩ (.bool true)) := Kp.set h.uH _
  refine ⟨H, ⟨G, ha, hc, ⟨h.fl.kp (fun k e => set_other22 w _ (fun q => h.nu (q ▸ e))) hk.size, h.wr.setO h0, h.nu, h.nh, h.gH, h.uH, h.hH, fun k e => Nat.lt_of_lt_of_le (h.lt k e) hk.size⟩⟩, fun _ e => .inl e, hk⟩
theorem Rh22.same (h : Rh22 w u b G H ha hc S P) : Ren22 w w u b H S P := ⟨H, ⟨G, ha, hc, h⟩, fun _ e => .inl e, Kp.refl _ _⟩
end
end Go.Proofs.YtjoghmdjnkdokaaDoor

namespace Go.Proofs.YtjoghmdjnkdokaaDoor
open Go.RowKit Go.Shelf
set_option linter.unusedVariables false
set_option linter.unusedSimpArgs false

/-! What stands in the pages behind bytes that were written (pure). -/
def ch22 (pg : Nat) (L : List Int) (y : Nat) : List Int := (L.drop (y * pg)).take pg
/-- A flash that nothing stops. -/
structure Qt22 (S : Fs21) : Prop where
  on : S.on = true
  lf : S.lf = 0
  lm : S.lm = 0
theorem sh21_go (S : Fs21) (kd x y : Int) (s : Sh21) (x' y' : Int) : sh21 (go21 S kd x y s) x' y' = if x' = x ∧ y' = y then s else sh21 S x' y' := by
  have := sh21_up S x y s x' y'
  rw [← this]
  rfl
theorem rn22 {S : Fs21} (h : Qt22 S) (kd x y : Int) (s : Sh21) : rn21 S kd x y s = go21 S kd x y s ∧ Qt22 (go21 S kd x y s) ∧ rc21 S = 0 := by
  have h1 := h.lf
  refine ⟨?_, ⟨h.on, ?_, h.lm⟩, ?_⟩
  · unfold rn21; rw [if_neg (by omega)]
  · show max 0 (S.lf - 1) = 0; omega
  · unfold rc21; rw [if_neg (by omega)]
theorem ly22_hold {S : Fs21} {P : Pw22} (h : Qt22 S) (har : P.ar = 0 ∨ P.ar = 1) (hpn : P.pn < S.ps) (hbf : P.bf.length ≤ S.pg) (hwr : (sh21 S P.ar (P.pn : Int)).wr = 0) :
    lyE22 S P = 0 ∧ lyP22 S P = { P with pn := P.pn + 1, bf := [] } ∧ Qt22 (lyS22 S P) ∧ (lyS22 S P).lg = S.lg ++ [(1, P.ar, (P.pn : Int)), (2, P.ar, (P.pn : Int))] ∧ ∀ x y, sh21 (lyS22 S P) x y = if x = P.ar ∧ y = (P.pn : Int) then ⟨P.bf, false, 1⟩ else sh21 S x y := by
  have hms : ms21 S.ps P.ar (P.pn : Int) = 0 := by
    have hpn21 : pn21 S.ps P.ar = (S.ps : Int) := by unfold pn21; rw [if_neg (by omega), if_neg (by omega)]
    unfold ms21
    rw [hpn21, if_neg (by omega)]
  have hrf : rf21 S.on S.ps P.ar (P.pn : Int) = 0 := by rw [h.on]; exact hms
  have hwo : wo21 S P.ar (P.pn : Int) = false := by unfold wo21; rw [hwr, h.lm]; decide
  obtain ⟨r1, r2, r3⟩ := rn22 h 1 P.ar (P.pn : Int) ⟨[], true, (sh21 S P.ar (P.pn : Int)).wr + 1⟩
  have e1 : erE21 S P.ar (P.pn : Int) = 0 := by unfold erE21; rw [hrf, if_neg (by simp), hwo]; exact r3
  have e2 : erS21 S P.ar (P.pn : Int) = go21 S 1 P.ar (P.pn : Int) ⟨[], true, (sh21 S P.ar (P.pn : Int)).wr + 1⟩ := by unfold erS21; rw [hrf, if_neg (by simp), hwo, if_neg (by simp)]; exact r1
  obtain ⟨S1, hS1⟩ : ∃ S1, S1 = go21 S 1 P.ar (P.pn : Int) ⟨[], true, (sh21 S P.ar (P.pn : Int)).wr + 1⟩ := ⟨_, rfl⟩
  rw [← hS1] at e2 r2
  have hs1 : sh21 S1 P.ar (P.pn : Int) = ⟨[], true, 1⟩ := by rw [hS1, sh21_go, hwr]; simp
  have hrf1 : rf21 S1.on S1.ps P.ar (P.pn : Int) = 0 := by rw [r2.on, show S1.ps = S.ps by rw [hS1]; rfl]; exact hms
  have hpg1 : S1.pg = S.pg := by rw [hS1]; rfl
  obtain ⟨q1, q2, q3⟩ := rn22 r2 2 P.ar (P.pn : Int) ⟨P.bf, false, (sh21 S1 P.ar (P.pn : Int)).wr⟩
  have e3 : pgE21 S1 P.ar (P.pn : Int) P.bf.length = 0 := by unfold pgE21; rw [hrf1, if_neg (by simp), if_neg (by omega), hs1, if_neg (by simp)]; exact q3
  have e4 : pgS21 S1 P.ar (P.pn : Int) P.bf = go21 S1 2 P.ar (P.pn : Int) ⟨P.bf, false, (sh21 S1 P.ar (P.pn : Int)).wr⟩ := by unfold pgS21; rw [hrf1, if_neg (by simp), if_neg (by omega)]; rw [if_neg (by rw [hs1]; simp)]; exact q1
  have hE : lyE22 S P = 0 := by unfold lyE22; rw [e1, if_neg (by simp), e2]; exact e3
  have hS : lyS22 S P = go21 S1 2 P.ar (P.pn : Int) ⟨P.bf, false, (sh21 S1 P.ar (P.pn : Int)).wr⟩ := by unfold lyS22; rw [e1, if_neg (by simp), e2]; exact e4
  refine ⟨hE, ?_, by rw [hS]; exact q2, ?_, fun x y => ?_⟩
  · unfold lyP22; rw [if_neg (by rw [hE]; simp)]
  · rw [hS]
    show S1.lg ++ _ = _
    rw [hS1]
    show (S.lg ++ _) ++ _ = _
    simp
  · rw [hS, sh21_go, hs1]
    by_cases e : x = P.ar ∧ y = (P.pn : Int)
    · rw [if_pos e, if_pos e]
    · rw [if_neg e, if_neg e, hS1, sh21_go, if_neg e]
/-- What holds behind the bytes L. -/
structure Hp22 (S0 S : Fs21) (P : Pw22) (ar : Int) (L : List Int) : Prop where
  qt : Qt22 S
  pg : S.pg = S0.pg
  ps : S.ps = S0.ps
  ac : S.ac = S0.ac
  ok : Ok21 S
  sh : ∀ x y : Int, sh21 S x y = if x = ar ∧ 0 ≤ y ∧ y < (P.pn : Int) then ⟨ch22 S0.pg L y.toNat, false, 1⟩ else sh21 S0 x y
  pn : P.pn * S0.pg + P.bf.length = L.length
  bf : P.bf = L.drop (P.pn * S0.pg)
  lt : P.bf.length < S0.pg
  ea : P.ar = ar
  cl : P.cl = 0
  lg : S.lg.length = 2 * P.pn
  wr : ∀ y, (sh21 S0 ar y).wr = 0
theorem ch22_more (pg : Nat) (L M : List Int) (y : Nat) (h : (y + 1) * pg ≤ L.length) : ch22 pg (L ++ M) y = ch22 pg L y := by
  unfold ch22
  rw [Nat.succ_mul] at h
  rw [List.drop_append, List.take_append, List.length_drop]
  have : pg - (L.length - y * pg) = 0 := by omega
  rw [this]; simp
theorem hp22_one {S0 S : Fs21} {P : Pw22} {ar : Int} {L : List Int} (h : Hp22 S0 S P ar L) (har : ar = 0 ∨ ar = 1) (c : Int) (hl : L.length + 1 ≤ S0.pg * S0.ps) :
    if (P.bf ++ [c]).length = S.pg then lyE22 S { P with bf := P.bf ++ [c] } = 0 ∧ Hp22 S0 (lyS22 S { P with bf := P.bf ++ [c] }) (lyP22 S { P with bf := P.bf ++ [c] }) ar (L ++ [c]) ∧ (lyP22 S { P with bf := P.bf ++ [c] }).wn = P.wn
    else Hp22 S0 S { P with bf := P.bf ++ [c] } ar (L ++ [c]) := by
  have hpn := h.pn
  have hdr : (L ++ [c]).drop (P.pn * S0.pg) = P.bf ++ [c] := by
    rw [List.drop_append, ← h.bf, show P.pn * S0.pg - L.length = 0 by omega]; rfl
  have hshm : ∀ x y : Int, (if x = ar ∧ 0 ≤ y ∧ y < (P.pn : Int) then (⟨ch22 S0.pg (L ++ [c]) y.toNat, false, 1⟩ : Sh21) else sh21 S0 x y) = sh21 S x y := fun x y => by
    rw [h.sh]
    by_cases e : x = ar ∧ 0 ≤ y ∧ y < (P.pn : Int)
    · rw [if_pos e, if_pos e, ch22_more]
      have : (y.toNat + 1) * S0.pg ≤ P.pn * S0.pg := Nat.mul_le_mul_right _ (by omega)
      omega
    · rw [if_neg e, if_neg e]
  split
  · rename_i hf
    have hf' : (P.bf ++ [c]).length = S0.pg := by rw [hf, h.pg]
    have hsm : (P.pn + 1) * S0.pg = P.pn * S0.pg + S0.pg := Nat.succ_mul _ _
    have hlt : P.pn < S.ps := by
      rw [h.ps]
      have h1 : (P.pn + 1) * S0.pg ≤ S0.ps * S0.pg := by rw [Nat.mul_comm S0.ps]; simp at hf'; omega
      have h2 : 0 < S0.pg := by have := h.lt; omega
      have := Nat.le_of_mul_le_mul_right h1 h2
      omega
    obtain ⟨y1, y2, y3, y4, y5⟩ := ly22_hold (P := { P with bf := P.bf ++ [c] }) h.qt (by show P.ar = 0 ∨ P.ar = 1; rw [h.ea]; exact har) hlt (by show (P.bf ++ [c]).length ≤ S.pg; omega) (by
      show (sh21 S P.ar (P.pn : Int)).wr = 0
      rw [h.sh, if_neg (by omega), h.ea]; exact h.wr _)
    have hy := lyS22_pg S { P with bf := P.bf ++ [c] }
    refine ⟨y1, ⟨y3, hy.1.trans h.pg, hy.2.1.trans h.ps, hy.2.2.1.trans h.ac, ok22_ly h.ok _, fun x y => ?_, ?_, ?_, ?_, ?_, ?_, ?_, h.wr⟩, ?_⟩
    · rw [y5, y2]
      show (if x = P.ar ∧ y = (P.pn : Int) then _ else _) = if x = ar ∧ 0 ≤ y ∧ y < ((P.pn + 1 : Nat) : Int) then _ else _
      rw [h.ea, ← hshm]
      by_cases e : x = ar ∧ y = (P.pn : Int)
      · rw [if_pos e, if_pos ⟨e.1, by omega, by omega⟩]
        have e2 : y.toNat = P.pn := by omega
        rw [e2]
        unfold ch22
        rw [hdr, List.take_of_length_le (by omega)]
      · rw [if_neg e]
        by_cases e3 : x = ar ∧ 0 ≤ y ∧ y < (P.pn : Int)
        · rw [if_pos e3, if_pos ⟨e3.1, e3.2.1, by omega⟩]
        · rw [if_neg e3, if_neg (fun q => by
            rcases Int.lt_or_le y (P.pn : Int) with w | w
            · exact e3 ⟨q.1, q.2.1, w⟩
            · exact e ⟨q.1, by omega⟩)]
    · rw [y2]; show (P.pn + 1) * S0.pg + 0 = (L ++ [c]).length; simp at hf' ⊢; omega
    · rw [y2]; show [] = _; rw [List.drop_eq_nil_of_le]; simp at hf' ⊢; show L.length + 1 ≤ (P.pn + 1) * S0.pg; omega
    · rw [y2]; show 0 < S0.pg; have := h.lt; omega
    · rw [y2]; exact h.ea
    · rw [y2]; exact h.cl
    · rw [y4, y2, List.length_append]; show S.lg.length + 2 = 2 * (P.pn + 1); rw [h.lg]; omega
    · rw [y2]
  · rename_i hf
    rw [h.pg] at hf
    refine ⟨h.qt, h.pg, h.ps, h.ac, h.ok, fun x y => (hshm x y).symm, ?_, hdr.symm, ?_, h.ea, h.cl, h.lg, h.wr⟩
    · show P.pn * S0.pg + (P.bf ++ [c]).length = (L ++ [c]).length; simp; omega
    · show (P.bf ++ [c]).length < S0.pg; have := h.lt; simp at hf ⊢; omega
theorem hp22_tk {S0 : Fs21} {ar : Int} (har : ar = 0 ∨ ar = 1) : ∀ (M : List Int) (S : Fs21) (P : Pw22) (L : List Int), Hp22 S0 S P ar L → L.length + M.length ≤ S0.pg * S0.ps →
    (tk22 S P M).2.2 = 0 ∧ Hp22 S0 (tk22 S P M).1 (tk22 S P M).2.1 ar (L ++ M) ∧ (tk22 S P M).2.1.wn = P.wn
  | [], S, P, L, h, _ => by
    rw [tk22, List.append_nil]; exact ⟨rfl, h, rfl⟩
  | c :: M, S, P, L, h, hl => by
    have h1 := hp22_one h har c (by simp at hl; omega)
    have el : L ++ c :: M = (L ++ [c]) ++ M := by simp
    rw [tk22]
    split
    · rename_i hf
      rw [if_pos hf] at h1
      obtain ⟨q1, q2, q3⟩ := h1
      rw [if_neg (by rw [q1]; simp), el]
      have := hp22_tk har M _ _ _ q2 (by simp at hl ⊢; omega)
      exact ⟨this.1, this.2.1, this.2.2.trans q3⟩
    · rename_i hf
      rw [if_neg hf] at h1
      rw [el]
      exact hp22_tk har M _ _ _ h1 (by simp at hl ⊢; omega)
theorem hp22_wr {S0 S : Fs21} {P : Pw22} {ar : Int} {L : List Int} (h : Hp22 S0 S P ar L) (har : ar = 0 ∨ ar = 1) (hw : P.wn = L.length) (hL : L.length ≤ S0.pg * S0.ps) (M : List Int) :
    if S0.pg * S0.ps < L.length + M.length then wrE22 S P M = 220 ∧ wrS22 S P M = S ∧ wrP22 S P M = P
    else wrE22 S P M = 0 ∧ Hp22 S0 (wrS22 S P M) (wrP22 S P M) ar (L ++ M) ∧ (wrP22 S P M).wn = (L ++ M).length := by
  have hmx : mx22 S = S0.pg * S0.ps := by unfold mx22; rw [h.pg, h.ps]
  have hfu : fu22 S P M.length ↔ S0.pg * S0.ps < L.length + M.length := by
    unfold fu22; rw [hmx, hw]; omega
  unfold wrE22 wrS22 wrP22
  rw [h.cl]
  have hz : ¬ ((0 : Int) ≠ 0) := by simp
  rw [if_neg hz, if_neg hz, if_neg hz]
  split
  · rename_i e
    rw [if_pos (hfu.2 e), if_pos (hfu.2 e), if_pos (hfu.2 e)]
    exact ⟨rfl, rfl, rfl⟩
  · rename_i e
    have hn : ¬ fu22 S P M.length := fun q => e (hfu.1 q)
    rw [if_neg hn, if_neg hn, if_neg hn]
    obtain ⟨q1, q2, q3⟩ := hp22_tk har M S P L h (by omega)
    have hP : tkP22 S P M = { (tk22 S P M).2.1 with wn := (tk22 S P M).2.1.wn + M.length } := by unfold tkP22; rw [if_pos q1]
    refine ⟨q1, ?_, ?_⟩
    · rw [hP]
      exact ⟨q2.qt, q2.pg, q2.ps, q2.ac, q2.ok, q2.sh, q2.pn, q2.bf, q2.lt, q2.ea, q2.cl, q2.lg, q2.wr⟩
    · rw [hP]; show (tk22 S P M).2.1.wn + M.length = _; rw [q3, hw]; simp
theorem hp22_new (p q : Nat) (ac : Int) (L0 L1 : List Int) (hp : 64 ≤ p ∧ p ≤ 4096) (hq : 1 ≤ q ∧ q ≤ 4096) (ha : ac = 0 ∨ ac = 1) : Hp22 (nw21 p q ac L0 L1) (nw21 p q ac L0 L1) ⟨1 - ac, [], 0, 0, 0⟩ (1 - ac) [] := by
  refine ⟨⟨rfl, rfl, rfl⟩, rfl, rfl, rfl, ok21_new p q ac L0 L1 hp hq ha, fun x y => ?_, by simp, by simp, ?_, rfl, rfl, rfl, fun y => ?_⟩
  · rw [if_neg (by show ¬ (_ ∧ _ ∧ y < ((0 : Nat) : Int)); omega)]
  · show 0 < p; omega
  · unfold sh21 nw21 pj21
    simp only
    split
    · unfold ck21
      split <;> rfl
    · rfl
end Go.Proofs.YtjoghmdjnkdokaaDoor

namespace Go.Proofs.YtjoghmdjnkdokaaDoor
open Go.RowKit Go.Shelf
set_option linter.unusedVariables false
set_option linter.unusedSimpArgs false

/-! The log behind bytes that were written, the power cut at an operation (pure). -/
def od22 (ar : Int) (k : Nat) : List (Int × Int × Int) := (List.range k).map fun i => ((if i % 2 = 0 then 1 else 2 : Int), ar, ((i / 2 : Nat) : Int))
theorem od22_len (ar : Int) (k : Nat) : (od22 ar k).length = k := by simp [od22]
theorem od22_e (ar : Int) (k : Nat) : od22 ar (2 * k + 1) = od22 ar (2 * k) ++ [(1, ar, (k : Int))] := by
  unfold od22
  rw [List.range_succ, List.map_append]
  have h1 : 2 * k % 2 = 0 := by omega
  have h2 : 2 * k / 2 = k := by omega
  simp [h1, h2]
theorem od22_p (ar : Int) (k : Nat) : od22 ar (2 * (k + 1)) = od22 ar (2 * k + 1) ++ [(2, ar, (k : Int))] := by
  unfold od22
  rw [show 2 * (k + 1) = (2 * k + 1) + 1 by omega, List.range_succ, List.map_append]
  have h1 : ¬ (2 * k + 1) % 2 = 0 := by omega
  have h2 : (2 * k + 1) / 2 = k := by omega
  simp
  omega
/-- The power is there. -/
structure Ay22 (S0 S : Fs21) (P : Pw22) (ar : Int) (tc : Nat) : Prop where
  on : S.on = true
  lm : S.lm = 0
  lf : S.lf = if tc = 0 then 0 else (tc : Int) - 2 * (P.pn : Int)
  hl : tc = 0 ∨ 2 * P.pn < tc
  pg : S.pg = S0.pg
  ps : S.ps = S0.ps
  ac : S.ac = S0.ac
  ok : Ok21 S
  wr : ∀ y : Int, (P.pn : Int) ≤ y → (sh21 S ar y).wr = 0
  ea : P.ar = ar
  cl : P.cl = 0
  lg : S.lg = od22 ar (2 * P.pn)
/-- It was cut. -/
structure De22 (S0 S : Fs21) (P : Pw22) (ar : Int) (tc : Nat) : Prop where
  cl : P.cl ≠ 0
  lg : S.lg = od22 ar tc
  po : 0 < tc
  pg : S.pg = S0.pg
  ps : S.ps = S0.ps
  ac : S.ac = S0.ac
  ok : Ok21 S
  ea : P.ar = ar
theorem ly22_cut {S0 S : Fs21} {P : Pw22} {ar : Int} {tc : Nat} (h : Ay22 S0 S P ar tc) (har : ar = 0 ∨ ar = 1) (hpn : P.pn < S.ps) (hbf : P.bf.length ≤ S.pg) :
    (lyE22 S P = 0 ∧ lyP22 S P = { P with pn := P.pn + 1, bf := [] } ∧ Ay22 S0 (lyS22 S P) (lyP22 S P) ar tc) ∨ (lyE22 S P ≠ 0 ∧ De22 S0 (lyS22 S P) (lyP22 S P) ar tc ∧ tc ≤ 2 * (P.pn + 1) ∧ (lyP22 S P).wn = P.wn ∧ (lyP22 S P).pn = P.pn) := by
  have hwr := h.wr (P.pn : Int) (by omega)
  rw [← h.ea] at hwr
  have hms : ms21 S.ps P.ar (P.pn : Int) = 0 := by
    have hpn21 : pn21 S.ps P.ar = (S.ps : Int) := by unfold pn21; rw [if_neg (by rw [h.ea]; omega), if_neg (by rw [h.ea]; omega)]
    unfold ms21
    rw [hpn21, if_neg (by omega)]
  have hrf : rf21 S.on S.ps P.ar (P.pn : Int) = 0 := by rw [h.on]; exact hms
  have hwo : wo21 S P.ar (P.pn : Int) = false := by unfold wo21; rw [hwr, h.lm]; decide
  have hy := lyS22_pg S P
  have hok := ok22_ly h.ok P
  have e1 : erE21 S P.ar (P.pn : Int) = rc21 S := by unfold erE21; rw [hrf, if_neg (by simp), hwo]; simp
  have e2 : erS21 S P.ar (P.pn : Int) = rn21 S 1 P.ar (P.pn : Int) ⟨[], true, (sh21 S P.ar (P.pn : Int)).wr + 1⟩ := by unfold erS21; rw [hrf, if_neg (by simp), hwo, if_neg (by simp)]
  have hlf := h.lf
  have hhl := h.hl
  by_cases l1 : S.lf = 1
  · right
    have htc : tc = 2 * P.pn + 1 := by
      by_cases t0 : tc = 0
      · rw [if_pos t0] at hlf; omega
      · rw [if_neg t0] at hlf; omega
    have hrc : rc21 S = 213 := by unfold rc21; rw [if_pos l1]
    have hE : lyE22 S P = 213 := by unfold lyE22; rw [e1, hrc, if_pos (by decide)]
    have hS : lyS22 S P = rn21 S 1 P.ar (P.pn : Int) ⟨[], true, (sh21 S P.ar (P.pn : Int)).wr + 1⟩ := by unfold lyS22; rw [e1, hrc, if_pos (by decide), e2]
    have hP : lyP22 S P = { P with cl := 213 } := by unfold lyP22; rw [hE, if_pos (by decide)]
    refine ⟨by rw [hE]; decide, ⟨by rw [hP]; simp, ?_, by omega, hy.1.trans h.pg, hy.2.1.trans h.ps, hy.2.2.1.trans h.ac, hok, by rw [hP]; exact h.ea⟩, by omega, by rw [hP], by rw [hP]⟩
    rw [hS]
    unfold rn21
    rw [if_pos l1]
    show S.lg ++ [(1, P.ar, (P.pn : Int))] = _
    rw [htc, od22_e, h.lg, h.ea]
  · have hrc : rc21 S = 0 := by unfold rc21; rw [if_neg l1]
    rw [hrc] at e1
    obtain ⟨S1, hS1⟩ : ∃ S1, S1 = go21 S 1 P.ar (P.pn : Int) ⟨[], true, (sh21 S P.ar (P.pn : Int)).wr + 1⟩ := ⟨_, rfl⟩
    have e2' : erS21 S P.ar (P.pn : Int) = S1 := by rw [e2, hS1]; unfold rn21; rw [if_neg l1]
    have hs1 : sh21 S1 P.ar (P.pn : Int) = ⟨[], true, 1⟩ := by rw [hS1, sh21_go, hwr]; simp
    have hon1 : S1.on = true := by rw [hS1]; exact h.on
    have hps1 : S1.ps = S.ps := by rw [hS1]; rfl
    have hpg1 : S1.pg = S.pg := by rw [hS1]; rfl
    have hlf1 : S1.lf = max 0 (S.lf - 1) := by rw [hS1]; rfl
    have hlg1 : S1.lg = od22 ar (2 * P.pn + 1) := by rw [hS1, od22_e]; show S.lg ++ _ = _; rw [h.lg, h.ea]
    have hrf1 : rf21 S1.on S1.ps P.ar (P.pn : Int) = 0 := by rw [hon1, hps1]; exact hms
    have e3 : pgE21 S1 P.ar (P.pn : Int) P.bf.length = rc21 S1 := by unfold pgE21; rw [hrf1, if_neg (by simp), if_neg (by omega), hs1, if_neg (by simp)]
    have e4 : pgS21 S1 P.ar (P.pn : Int) P.bf = rn21 S1 2 P.ar (P.pn : Int) ⟨P.bf, false, (sh21 S1 P.ar (P.pn : Int)).wr⟩ := by unfold pgS21; rw [hrf1, if_neg (by simp), if_neg (by omega)]; rw [if_neg (by rw [hs1]; simp)]
    have hE : lyE22 S P = rc21 S1 := by unfold lyE22; rw [e1, if_neg (by simp), e2']; exact e3
    have hS : lyS22 S P = rn21 S1 2 P.ar (P.pn : Int) ⟨P.bf, false, (sh21 S1 P.ar (P.pn : Int)).wr⟩ := by unfold lyS22; rw [e1, if_neg (by simp), e2']; exact e4
    by_cases l2 : S1.lf = 1
    · right
      have htc : tc = 2 * (P.pn + 1) := by
        by_cases t0 : tc = 0
        · rw [if_pos t0] at hlf; omega
        · rw [if_neg t0] at hlf; omega
      have hrc1 : rc21 S1 = 213 := by unfold rc21; rw [if_pos l2]
      rw [hrc1] at hE
      have hP : lyP22 S P = { P with cl := 213 } := by unfold lyP22; rw [hE, if_pos (by decide)]
      refine ⟨by rw [hE]; decide, ⟨by rw [hP]; simp, ?_, by omega, hy.1.trans h.pg, hy.2.1.trans h.ps, hy.2.2.1.trans h.ac, hok, by rw [hP]; exact h.ea⟩, by omega, by rw [hP], by rw [hP]⟩
      rw [hS]
      unfold rn21
      rw [if_pos l2]
      show S1.lg ++ [(2, P.ar, (P.pn : Int))] = _
      rw [htc, od22_p, hlg1, h.ea]
    · left
      have hrc1 : rc21 S1 = 0 := by unfold rc21; rw [if_neg l2]
      rw [hrc1] at hE
      have hP : lyP22 S P = { P with pn := P.pn + 1, bf := [] } := by unfold lyP22; rw [hE, if_neg (by simp)]
      have hS' : lyS22 S P = go21 S1 2 P.ar (P.pn : Int) ⟨P.bf, false, (sh21 S1 P.ar (P.pn : Int)).wr⟩ := by rw [hS]; unfold rn21; rw [if_neg l2]
      have hlm1 : S1.lm = 0 := by rw [hS1]; exact h.lm
      refine ⟨hE, hP, ?_, ?_, ?_, ?_, hy.1.trans h.pg, hy.2.1.trans h.ps, hy.2.2.1.trans h.ac, hok, fun y hy' => ?_, by rw [hP]; exact h.ea, by rw [hP]; exact h.cl, ?_⟩
      · rw [hS']; exact hon1
      · rw [hS']; exact hlm1
      · rw [hS', hP]
        show max 0 (S1.lf - 1) = if tc = 0 then 0 else (tc : Int) - 2 * ((P.pn + 1 : Nat) : Int)
        by_cases t0 : tc = 0
        · rw [if_pos t0] at hlf ⊢; omega
        · rw [if_neg t0] at hlf ⊢; omega
      · rw [hP]
        show tc = 0 ∨ 2 * (P.pn + 1) < tc
        by_cases t0 : tc = 0
        · exact .inl t0
        · rw [if_neg t0] at hlf; right; omega
      · rw [hP] at hy'
        have hy2 : ((P.pn + 1 : Nat) : Int) ≤ y := hy'
        rw [hS', sh21_go, if_neg (by omega), hS1, sh21_go, if_neg (by omega)]
        exact h.wr y (by omega)
      · rw [hS', hP]
        show S1.lg ++ [(2, P.ar, (P.pn : Int))] = od22 ar (2 * (P.pn + 1))
        rw [od22_p, hlg1, h.ea]
/-- Alive behind n bytes. -/
structure Al22 (S0 S : Fs21) (P : Pw22) (ar : Int) (tc n : Nat) : Prop where
  ay : Ay22 S0 S P ar tc
  pn : P.pn * S0.pg + P.bf.length = n
  lt : P.bf.length < S0.pg
def Dd22 (S0 S : Fs21) (P : Pw22) (ar : Int) (tc T : Nat) : Prop := De22 S0 S P ar tc ∧ ∃ m, tc ≤ 2 * m ∧ m * S0.pg ≤ T ∧ P.pn ≤ m
theorem tk22_cut {S0 : Fs21} {ar : Int} {tc : Nat} (har : ar = 0 ∨ ar = 1) : ∀ (M : List Int) (S : Fs21) (P : Pw22) (n : Nat), Al22 S0 S P ar tc n → n + M.length ≤ S0.pg * S0.ps →
    ((tk22 S P M).2.2 = 0 ∧ Al22 S0 (tk22 S P M).1 (tk22 S P M).2.1 ar tc (n + M.length) ∧ (tk22 S P M).2.1.wn = P.wn) ∨ ((tk22 S P M).2.2 ≠ 0 ∧ Dd22 S0 (tk22 S P M).1 (tk22 S P M).2.1 ar tc (n + M.length) ∧ (tk22 S P M).2.1.wn = P.wn)
  | [], S, P, n, h, _ => by
    rw [tk22]; exact .inl ⟨rfl, h, rfl⟩
  | c :: M, S, P, n, h, hl => by
    have hlt := h.lt
    have hpn := h.pn
    have el : n + (c :: M).length = (n + 1) + M.length := by simp; omega
    rw [tk22, el]
    rw [el] at hl
    split
    · rename_i hf
      rw [h.ay.pg] at hf
      have hf' : P.bf.length + 1 = S0.pg := by simpa using hf
      have hsm : (P.pn + 1) * S0.pg = P.pn * S0.pg + S0.pg := Nat.succ_mul _ _
      have hps : P.pn < S.ps := by
        rw [h.ay.ps]
        have h1 : (P.pn + 1) * S0.pg ≤ S0.ps * S0.pg := by rw [Nat.mul_comm S0.ps]; omega
        have := Nat.le_of_mul_le_mul_right h1 (by omega)
        omega
      have hay : Ay22 S0 S { P with bf := P.bf ++ [c] } ar tc := ⟨h.ay.on, h.ay.lm, h.ay.lf, h.ay.hl, h.ay.pg, h.ay.ps, h.ay.ac, h.ay.ok, h.ay.wr, h.ay.ea, h.ay.cl, h.ay.lg⟩
      rcases ly22_cut hay har hps (by show (P.bf ++ [c]).length ≤ S.pg; rw [h.ay.pg]; omega) with ⟨q1, q2, q3⟩ | ⟨q1, q2, q3, q4, q5⟩
      · rw [if_neg (by rw [q1]; simp)]
        have hw : (lyP22 S { P with bf := P.bf ++ [c] }).wn = P.wn := by rw [q2]
        have := tk22_cut har M _ _ (n + 1) ⟨q3, by rw [q2]; show (P.pn + 1) * S0.pg + 0 = n + 1; omega, by rw [q2]; show 0 < S0.pg; omega⟩ hl
        rw [hw] at this
        exact this
      · rw [if_pos q1]
        exact .inr ⟨q1, ⟨q2, P.pn + 1, q3, by omega, by rw [q5]; exact Nat.le_succ _⟩, q4⟩
    · rename_i hf
      rw [h.ay.pg] at hf
      have hf' : ¬ P.bf.length + 1 = S0.pg := by simpa using hf
      exact tk22_cut har M S { P with bf := P.bf ++ [c] } (n + 1) ⟨⟨h.ay.on, h.ay.lm, h.ay.lf, h.ay.hl, h.ay.pg, h.ay.ps, h.ay.ac, h.ay.ok, h.ay.wr, h.ay.ea, h.ay.cl, h.ay.lg⟩, by show P.pn * S0.pg + (P.bf ++ [c]).length = n + 1; simp; omega, by show (P.bf ++ [c]).length < S0.pg; simp; omega⟩ hl
/-- Behind n of T bytes. -/
def St22 (S0 S : Fs21) (P : Pw22) (ar : Int) (tc n T : Nat) : Prop := (Al22 S0 S P ar tc n ∧ P.wn = n) ∨ (Dd22 S0 S P ar tc T ∧ P.wn ≤ T)
theorem st22_wr {S0 S : Fs21} {P : Pw22} {ar : Int} {tc n T : Nat} (h : St22 S0 S P ar tc n T) (har : ar = 0 ∨ ar = 1) (M : List Int) (hn : n + M.length ≤ T) (hT : T ≤ S0.pg * S0.ps) : St22 S0 (wrS22 S P M) (wrP22 S P M) ar tc (n + M.length) T := by
  rcases h with ⟨h, hw⟩ | ⟨h, hw⟩
  · have hz : ¬ ((0 : Int) ≠ 0) := by simp
    have hmx : mx22 S = S0.pg * S0.ps := by unfold mx22; rw [h.ay.pg, h.ay.ps]
    have hnf : ¬ fu22 S P M.length := by unfold fu22; rw [hmx, hw]; omega
    unfold wrS22 wrP22
    rw [h.ay.cl, if_neg hz, if_neg hz, if_neg hnf, if_neg hnf]
    rcases tk22_cut har M S P n h (by omega) with ⟨q1, q2, q3⟩ | ⟨q1, q2, q3⟩
    · left
      have hP : tkP22 S P M = { (tk22 S P M).2.1 with wn := (tk22 S P M).2.1.wn + M.length } := by unfold tkP22; rw [if_pos q1]
      rw [hP]
      refine ⟨⟨⟨q2.ay.on, q2.ay.lm, q2.ay.lf, q2.ay.hl, q2.ay.pg, q2.ay.ps, q2.ay.ac, q2.ay.ok, q2.ay.wr, q2.ay.ea, q2.ay.cl, q2.ay.lg⟩, q2.pn, q2.lt⟩, ?_⟩
      show (tk22 S P M).2.1.wn + M.length = _
      rw [q3, hw]
    · right
      have hP : tkP22 S P M = (tk22 S P M).2.1 := by unfold tkP22; rw [if_neg q1]
      rw [hP]
      obtain ⟨d1, m, d2, d3, d4⟩ := q2
      exact ⟨⟨d1, m, d2, by omega, d4⟩, by rw [q3]; omega⟩
  · right
    unfold wrS22 wrP22
    rw [if_pos h.1.cl, if_pos h.1.cl]
    exact ⟨h, hw⟩
theorem st22_end {S0 S : Fs21} {P : Pw22} {ar : Int} {tc T : Nat} (h : St22 S0 S P ar tc T T) (har : ar = 0 ∨ ar = 1) (hT : T ≤ S0.pg * S0.ps) (hp : 0 < S0.pg) :
    (edS22 S P).lg = od22 ar (if 0 < tc ∧ tc < 2 * ((T + S0.pg - 1) / S0.pg) then tc else 2 * ((T + S0.pg - 1) / S0.pg)) ∧ (edS22 S P).ac = S0.ac ∧ Ok21 (edS22 S P) := by
  have hdead : ∀ (S' : Fs21) (P' : Pw22), De22 S0 S' P' ar tc → tc ≤ 2 * ((T + S0.pg - 1) / S0.pg) → S'.lg = od22 ar (if 0 < tc ∧ tc < 2 * ((T + S0.pg - 1) / S0.pg) then tc else 2 * ((T + S0.pg - 1) / S0.pg)) ∧ S'.ac = S0.ac ∧ Ok21 S' := fun S' P' d hm => by
    refine ⟨?_, d.ac, d.ok⟩
    rw [d.lg]
    by_cases e : tc < 2 * ((T + S0.pg - 1) / S0.pg)
    · rw [if_pos ⟨d.po, e⟩]
    · rw [if_neg (by omega)]; congr 1; omega
  rcases h with ⟨h, hw⟩ | ⟨⟨h, m, hm1, hm2, -⟩, hw⟩
  · have hz : ¬ ((0 : Int) ≠ 0) := by simp
    have hpn := h.pn
    have hlt := h.lt
    unfold edS22
    rw [h.ay.cl, if_neg hz]
    unfold enS22
    by_cases hb : 0 < P.bf.length
    · rw [if_pos hb]
      have hN : (T + S0.pg - 1) / S0.pg = P.pn + 1 := by
        have e : T + S0.pg - 1 = (P.bf.length - 1) + (P.pn + 1) * S0.pg := by rw [Nat.succ_mul]; omega
        rw [e, Nat.add_mul_div_right _ _ hp, Nat.div_eq_of_lt (by omega)]; omega
      have hps : P.pn < S.ps := by
        rw [h.ay.ps]
        have h3 : P.pn * S0.pg < S0.ps * S0.pg := by rw [Nat.mul_comm S0.ps]; omega
        exact Nat.lt_of_mul_lt_mul_right h3
      rcases ly22_cut h.ay har hps (by rw [h.ay.pg]; omega) with ⟨q1, q2, q3⟩ | ⟨q1, q2, q3, q4, q5⟩
      · have hl := q3.hl
        have hlg := q3.lg
        rw [q2] at hl hlg
        have hl' : tc = 0 ∨ 2 * (P.pn + 1) < tc := hl
        have hlg' : (lyS22 S P).lg = od22 ar (2 * (P.pn + 1)) := hlg
        rw [hN, if_neg (by omega)]
        exact ⟨hlg', q3.ac, q3.ok⟩
      · exact hdead _ _ q2 (by rw [hN]; exact q3)
    · rw [if_neg hb]
      have hN : (T + S0.pg - 1) / S0.pg = P.pn := by
        have e : T + S0.pg - 1 = (S0.pg - 1) + P.pn * S0.pg := by omega
        rw [e, Nat.add_mul_div_right _ _ hp, Nat.div_eq_of_lt (by omega)]; omega
      have hl := h.ay.hl
      rw [hN, if_neg (by omega)]
      exact ⟨h.ay.lg, h.ay.ac, h.ay.ok⟩
  · unfold edS22
    rw [if_pos h.cl]
    refine hdead S P h ?_
    have : m ≤ (T + S0.pg - 1) / S0.pg := (Nat.le_div_iff_mul_le hp).2 (by omega)
    omega
theorem st22_new (p q : Nat) (ac : Int) (L0 L1 : List Int) (hp : 64 ≤ p ∧ p ≤ 4096) (hq : 1 ≤ q ∧ q ≤ 4096) (ha : ac = 0 ∨ ac = 1) (tc T : Nat) (ht : tc ≤ 1000000) : cuE21 (nw21 p q ac L0 L1) (tc : Int) 0 = 0 ∧ Ok21 (cuS21 (nw21 p q ac L0 L1) (tc : Int) []) ∧ (cuS21 (nw21 p q ac L0 L1) (tc : Int) []).ac = ac ∧ (cuS21 (nw21 p q ac L0 L1) (tc : Int) []).pg = p ∧ (cuS21 (nw21 p q ac L0 L1) (tc : Int) []).ps = q ∧ St22 (nw21 p q ac L0 L1) (cuS21 (nw21 p q ac L0 L1) (tc : Int) []) ⟨1 - ac, [], 0, 0, 0⟩ (1 - ac) tc 0 T := by
  have hok := ok21_new p q ac L0 L1 hp hq ha
  have hS : cuS21 (nw21 p q ac L0 L1) (tc : Int) [] = { nw21 p q ac L0 L1 with lf := (tc : Int), tn := [] } := by
    unfold cuS21
    rw [if_neg (by show ¬ (true = false); simp), if_neg (by show ¬ ((tc : Int) < 0 ∨ p < 0); omega)]
    split <;> rfl
  rw [hS]
  have hok2 : Ok21 ({ nw21 p q ac L0 L1 with lf := (tc : Int), tn := [] } : Fs21) := ⟨hok.pg, hok.ps, hok.ac, hok.lm, ⟨by show (0 : Int) ≤ (tc : Int); omega, by show (tc : Int) ≤ _; omega⟩, by show 0 ≤ _; omega, hok.sh⟩
  refine ⟨?_, hok2, rfl, rfl, rfl, .inl ⟨⟨⟨rfl, rfl, ?_, ?_, rfl, rfl, rfl, hok2, fun y _ => ?_, rfl, rfl, rfl⟩, by simp, ?_⟩, rfl⟩⟩
  · unfold cuE21
    rw [if_neg (by show ¬ (true = false); simp), if_neg (by show ¬ ((tc : Int) < 0 ∨ p < 0); omega)]
  · show (tc : Int) = if tc = 0 then 0 else (tc : Int) - 2 * ((0 : Nat) : Int)
    split <;> omega
  · show tc = 0 ∨ 2 * 0 < tc; omega
  · exact (hp22_new p q ac L0 L1 hp hq ha).wr y
  · show 0 < p; omega
end Go.Proofs.YtjoghmdjnkdokaaDoor
