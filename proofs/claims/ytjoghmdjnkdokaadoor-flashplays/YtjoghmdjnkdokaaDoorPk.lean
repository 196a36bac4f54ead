import Derived.Test.YtjoghmdjnkdokaaDoorPj
import Derived.Test.YtjoghmdjnkdokaaDoorPh
import Derived.Test.YtjoghmdjnkdokaaDoorPf
import Derived.Deep.OwnRows
import Derived.Deep.RegionHeld3
namespace Go.Proofs.YtjoghmdjnkdokaaDoor
open Go.RowKit Go.Shelf
set_option linter.unusedVariables false
set_option linter.unusedSimpArgs false

/-! The document's flash: Program. -/
theorem dn21_cut (S : Fs21) (kd x y : Int) (L : List Int) (h : S.lf = 1) : dnS21 S kd x y = rn21 S kd x y ⟨L, false, (sh21 S x y).wr⟩ := by
  unfold dnS21 rn21
  rw [if_pos h, if_pos h]
  rfl
theorem dn21_go (S : Fs21) (kd x y : Int) (s : Sh21) (h : ¬ S.lf = 1) : { dnS21 S kd x y with pa := up21 (dnS21 S kd x y).pa x y s } = rn21 S kd x y s := by
  unfold dnS21 rn21
  rw [if_neg h, if_neg h]
  rfl
set_option maxRecDepth 100000 in
set_option maxHeartbeats 16000000 in
theorem rprg21 {w : World} {b : Nat} {G : Nat → Prop} {S : Fs21} (h : Rl21d w b G S) (hO : Ok21 S) (x y : Int) (hx : In21 x) (hy : In21 y) (hlg : S.lg.length ≤ 4398046511000)
    (a : Option Addr) (L : List Int) (n cap : Nat) (hs : Seg w a L) (hn : Hid (L.length = n)) (hap : ∀ x off, a = some ⟨x, off, none⟩ → 0 < n → ¬ G x) :
    Calls Tryd.prog 32 #[.pointer (some ⟨b, 0, none⟩), .int .i64 x, .int .i64 y, .slice a n cap] w fun e w' => e = .returned (.int .i64 (pgE21 S x y n)) ∧ Rn21 w w' b G (pgS21 S x y L) := by
  have HL : Hid (Rl21d w b G S) := h
  have HIS := ris21 h x y hx hy
  obtain ⟨g, c, A, tn, ta, tc, la, lc, V, h1, h2, h3, h4, h5, h6⟩ := h
  have c7 : w.cell? ⟨b, 7, none⟩ = some (.bool (!S.on)) := h1.cel rfl
  have c0 : w.cell? ⟨b, 0, none⟩ = some (.int .i64 (S.pg : Int)) := h1.cel rfl
  have hE : Hid (pgE21 S x y n = if rf21 S.on S.ps x y ≠ 0 then rf21 S.on S.ps x y else if S.pg < n then 1 else if (sh21 S x y).er = false then 212 else rc21 S) := rfl
  have hS : Hid (pgS21 S x y L = if rf21 S.on S.ps x y ≠ 0 then S else if S.pg < n then S else if (sh21 S x y).er = false then S else rn21 S 2 x y ⟨L, false, (sh21 S x y).wr⟩) := by show _ = _; unfold pgS21; rw [hn.out]
  rw [hE.out, hS.out]
  clear hE hS
  clear h2 h3 h4 h5 h6
  by_cases hon : S.on = false
  · have hrf : rf21 S.on S.ps x y = 213 := by rw [hon]; rfl
    rw [hrf, if_pos (by decide), if_pos (by decide)]
    rw [hon] at c7
    replace c7 : w.cell? ⟨b, 7, none⟩ = some (.bool true) := c7
    clear h1 hrf HIS
    go_enter Tryd.func32, Tryd.ntmps32
    go_wp2_with fail
    go_ret
    exact ⟨rfl, HL.out.stay (Below.refl _ _)⟩
  have hon' : S.on = true := by simpa using hon
  rw [hon'] at c7
  replace c7 : w.cell? ⟨b, 7, none⟩ = some (.bool false) := c7
  have hrf : rf21 S.on S.ps x y = ms21 S.ps x y := by rw [hon']; rfl
  rw [hrf]
  clear hrf
  by_cases hms : ¬ ms21 S.ps x y = 0
  · have h211 : ms21 S.ps x y = 211 := by unfold ms21 at hms ⊢; split <;> simp_all
    rw [h211, if_pos (by decide), if_pos (by decide)]
    have e : decide (ms21 S.ps x y = 0) = false := by simp [hms]
    rw [e] at HIS
    clear h1 e hms h211
    go_enter Tryd.func32, Tryd.ntmps32
    go_wp2_with fail
    refine HIS.mono ?_
    rintro e w1 ⟨rfl, hw⟩
    subst w1
    go_wp2_with fail
    go_ret
    exact ⟨rfl, HL.out.stay (Below.refl _ _)⟩
  replace hms : ms21 S.ps x y = 0 := by omega
  have hnn : ¬ (ms21 S.ps x y ≠ 0) := by rw [hms]; simp
  rw [if_neg hnn, if_neg hnn]
  clear hnn
  have e0 : decide (ms21 S.ps x y = 0) = true := by simp [hms]
  rw [e0] at HIS
  clear e0
  by_cases hlen : S.pg < n
  · rw [if_pos hlen, if_pos hlen]
    have hli : (S.pg : Int) < (n : Int) := by omega
    clear h1 hs hap
    go_enter Tryd.func32, Tryd.ntmps32
    go_wp2_with fail
    refine HIS.mono ?_
    rintro e w1 ⟨rfl, hw⟩
    subst w1
    go_wp2_with fail
    go_ret
    exact ⟨rfl, HL.out.stay (Below.refl _ _)⟩
  rw [if_neg hlen, if_neg hlen]
  have hli : ¬ (S.pg : Int) < (n : Int) := by omega
  obtain ⟨X, Y, d, rfl, rfl, hX, hY, hd⟩ := h1.at hms
  have hdd := h1.hd X Y d hX hd
  have her : d.er = (sh21 S (X : Int) (Y : Int)).er := hdd.2.2.2.1
  have ca := h1.car hX
  have p1 := (h1.pgc hX hd).2.1
  obtain ⟨NA, hNA⟩ : ∃ NA, NA = (A X).length := ⟨_, rfl⟩
  rw [← hNA] at ca
  have hXi : (X : Int) < 3 := by omega
  have hYi : (Y : Int) < (NA : Int) := by omega
  rw [her] at p1
  by_cases hW : (sh21 S (X : Int) (Y : Int)).er = false
  · rw [if_pos hW, if_pos hW]
    rw [hW] at p1
    clear h1 hdd her hNA hd hY hW hs hap
    go_enter Tryd.func32, Tryd.ntmps32
    go_wp2_with fail
    refine HIS.mono ?_
    rintro e w1 ⟨rfl, hw⟩
    subst w1
    go_wp2_with fail
    go_ret
    exact ⟨rfl, HL.out.stay (Below.refl _ _)⟩
  · rw [if_neg hW, if_neg hW]
    have hW' : (sh21 S (X : Int) (Y : Int)).er = true := by simpa using hW
    rw [hW'] at p1
    have hDN := rdon21 HL.out hO 2 X Y hms hlg
    clear h1 hdd her hNA hd hY hW hW'
    by_cases hlf : S.lf = 1
    · have e1 : decide (S.lf = 1) = true := by simp [hlf]
      rw [e1] at hDN
      have hcut := dn21_cut S 2 (X : Int) (Y : Int) L hlf
      have hrc : rc21 S = 213 := by unfold rc21; rw [if_pos hlf]
      rw [hrc, ← hcut]
      generalize dnS21 S 2 (X : Int) (Y : Int) = S1 at hDN ⊢
      clear hcut hrc e1 hs hap
      go_enter Tryd.func32, Tryd.ntmps32
      go_wp2_with fail
      refine HIS.mono ?_
      rintro e w1 ⟨rfl, hw⟩
      subst w1
      go_wp2_with fail
      refine hDN.mono ?_
      rintro e w4 ⟨rfl, hn4⟩
      have HN4' : Hid (Rn21 w w4 b G S1) := hn4
      clear hn4
      go_wp2_with fail
      go_ret
      exact ⟨rfl, HN4'.out⟩
    · have e1 : decide (S.lf = 1) = false := by simp [hlf]
      rw [e1] at hDN
      have hgo := dn21_go S 2 (X : Int) (Y : Int) ⟨L, false, (sh21 S (X : Int) (Y : Int)).wr⟩ hlf
      have hrc : rc21 S = 0 := by unfold rc21; rw [if_neg hlf]
      have hms1 : ms21 (dnS21 S 2 (X : Int) (Y : Int)).ps (X : Int) (Y : Int) = 0 := by
        have : (dnS21 S 2 (X : Int) (Y : Int)).ps = S.ps := by unfold dnS21; split <;> rfl
        rw [this]; exact hms
      have hpg1 : (dnS21 S 2 (X : Int) (Y : Int)).pg = S.pg := by unfold dnS21; split <;> rfl
      have hsh1 : sh21 (dnS21 S 2 (X : Int) (Y : Int)) (X : Int) (Y : Int) = sh21 S (X : Int) (Y : Int) := by unfold dnS21; rw [if_neg hlf]; rfl
      rw [hrc, ← hgo, ← hsh1]
      generalize dnS21 S 2 (X : Int) (Y : Int) = S1 at hDN hms1 hpg1 ⊢
      have HG : Hid (ms21 S1.ps (X : Int) (Y : Int) = 0 ∧ S1.pg = S.pg ∧ 64 ≤ S.pg ∧ S.pg ≤ 4096 ∧ n ≤ S.pg) := ⟨hms1, hpg1, hO.pg.1, hO.pg.2, by omega⟩
      obtain ⟨S2, hS2⟩ : ∃ S2 : Fs21, S2 = { S1 with pa := up21 S1.pa (X : Int) (Y : Int) ⟨L, false, (sh21 S1 (X : Int) (Y : Int)).wr⟩ } := ⟨_, rfl⟩
      rw [← hS2]
      have HS2 : Hid (S2 = { S1 with pa := up21 S1.pa (X : Int) (Y : Int) ⟨L, false, (sh21 S1 (X : Int) (Y : Int)).wr⟩ }) := hS2
      have HSG : Hid (Seg w a L ∧ ∀ x off, a = some ⟨x, off, none⟩ → 0 < n → ¬ G x) := ⟨hs, hap⟩
      clear hgo hrc e1 hS2 hms1 hpg1 hsh1 hs hap
      go_enter Tryd.func32, Tryd.ntmps32
      go_wp2_with fail
      refine HIS.mono ?_
      rintro e w1 ⟨rfl, hw⟩
      subst w1
      go_wp2_with fail
      refine hDN.mono ?_
      rintro e w4 ⟨rfl, hn4⟩
      obtain ⟨G4, ⟨g4, c4, A4, tn4, ta4, tc4, la4, lc4, V4, r4, q2, q3, q4, q5, q6⟩, f4, k4⟩ := hn4
      obtain ⟨X4, Y4, d4, eX4, eY4, hX4, hY4, hd4⟩ := r4.at HG.out.1
      obtain rfl : X = X4 := by omega
      obtain rfl : Y = Y4 := by omega
      clear eX4 eY4
      obtain ⟨PG, hPG⟩ : ∃ PG, PG = S1.pg := ⟨_, rfl⟩
      have hpgb : PG ≤ 16777216 := by rw [hPG, HG.out.2.1]; have := HG.out.2.2.2.1; omega
      have hnPG : n ≤ PG := by rw [hPG, HG.out.2.1]; exact HG.out.2.2.2.2
      have d0 : w4.cell? ⟨b, 0, none⟩ = some (.int .i64 (PG : Int)) := by rw [hPG]; exact r4.cel (i := 0) rfl
      obtain ⟨NB, hNB⟩ : ∃ NB, NB = (A4 X).length := ⟨_, rfl⟩
      have hYb : (Y : Int) < (NB : Int) := by omega
      have HBK : Hid (Calls Tryd.prog 25 #[.int .i64 (PG : Int)] w4 fun e w' => Bk21 w4 w4.heap.size PG e w') := rblk21 PG hpgb w4
      have hseg4 : Seg w4 a L := HSG.out.1.kp k4 (fun b' o' e' hl => HSG.out.2 b' o' e' (by rw [← hn.out]; exact hl))
      obtain ⟨WR, hWR⟩ : ∃ WR, WR = d4.wr := ⟨_, rfl⟩
      have hwr4 : d4.wr = (sh21 S1 (X : Int) (Y : Int)).wr := (r4.hd X Y d4 hX4 hd4).2.2.2.2.1
      have HC5 : Hid (∀ w5 : World, Below w4.heap.size w4 w5 → (w5.cell? ⟨b, 3 + X, none⟩ = some (.slice (some ⟨g4 X, 0, none⟩) NB (c4 X)) ∧ w5.cell? ⟨g4 X, Y * 3 + 2, none⟩ = some (.int .i64 WR)) ∧ (∀ i, w5.frozen? ⟨g4 X, i, none⟩ = false) ∧ w5.cell? ⟨g4 X, Y * 3, none⟩ = some (.slice (some ⟨d4.k, d4.off, none⟩) d4.b.length d4.c) ∧ w5.cell? ⟨g4 X, Y * 3 + 1, none⟩ = some (.bool d4.er)) := fun w5 hb => by
        have q := r4.old hb
        refine ⟨⟨by rw [hNB]; exact q.car hX4, by rw [hWR]; exact (q.pgc hX4 hd4).2.2⟩, fun i => q.frg hX4 i, (q.pgc hX4 hd4).1, (q.pgc hX4 hd4).2.1⟩
      have HFIN : Hid (∀ w5 : World, Below w4.heap.size w4 w5 → w5.heap[w4.heap.size]? = some (.cells ((sp21 (List.replicate PG (255 : Int)) 0 L).map (Value.int .u8)).toArray 5 (0, 0)) → Rn21 w (((w5.setCell ⟨g4 X, Y * 3, none⟩ (.slice (some ⟨w4.heap.size, 0, none⟩) PG PG)).setCell ⟨g4 X, Y * 3 + 1, none⟩ (.bool false)).setCell ⟨g4 X, Y * 3 + 2, none⟩ (.int .i64 WR)) b G S2) := fun w5 hb hh => by
        have hll : (sp21 (List.replicate PG (255 : Int)) 0 L).length = PG := by rw [sp21_len _ _ _ (by simp; have := hn.out; omega)]; simp
        have hsp : sp21 (List.replicate PG (255 : Int)) 0 L = L ++ List.replicate (PG - L.length) 255 := by unfold sp21; simp
        have r5 := r4.new hb (fun k => k = w4.heap.size) (fun k e => by subst e; exact ⟨Nat.le_refl _, (Array.getElem?_eq_some_iff.1 hh).1⟩)
        obtain ⟨X1, hX1⟩ := r5.ha X hX4
        have hk7 : Kp (fun k => k = g4 X) w5 (((w5.setCell ⟨g4 X, Y * 3, none⟩ (.slice (some ⟨w4.heap.size, 0, none⟩) PG PG)).setCell ⟨g4 X, Y * 3 + 1, none⟩ (.bool false)).setCell ⟨g4 X, Y * 3 + 2, none⟩ (.int .i64 WR)) := ((Kp.set (S := fun k => k = g4 X) rfl _).trans (Kp.set (S := fun k => k = g4 X) rfl _) (fun _ _ e => e)).trans (Kp.set (S := fun k => k = g4 X) rfl _) (fun _ _ e => e)
        have hrow := pgrow21 (w := w5) (d' := ⟨w4.heap.size, 0, PG, sp21 (List.replicate PG 255) 0 L, false, WR⟩) hX1 hd4
        rw [show (⟨w4.heap.size, 0, PG, sp21 (List.replicate PG 255) 0 L, false, WR⟩ : Pd21).b.length = PG from hll] at hrow
        have hgl := r4.gl hX4
        have hsg : Seg w5 (some ⟨w4.heap.size, 0, none⟩) (sp21 (List.replicate PG 255) 0 L) := seg_row21 hh (fun y hy => by
          rw [hsp] at hy
          rcases List.mem_append.1 hy with e | e
          · exact hseg4.mem y e
          · rw [(List.mem_replicate.1 e).2]; decide)
        have r7 := r5.page hX4 hY4 ⟨w4.heap.size, 0, PG, sp21 (List.replicate PG 255) 0 L, false, WR⟩ ⟨L, false, (sh21 S1 (X : Int) (Y : Int)).wr⟩ hk7 ⟨X1, hrow⟩ (hsg.kp hk7 (fun b' o' e' _ => by cases e'; show ¬ w4.heap.size = g4 X; omega)) (.inr rfl) (by show sp21 _ 0 L = L ++ List.replicate (S1.pg - L.length) 255; rw [hsp, hPG]) rfl (by show WR = _; rw [hWR]; exact hwr4) (by show (sp21 _ 0 L).length ≤ PG; omega)
        refine Rn21.cons (G1 := G4) (w1 := w4) f4 k4 ?_
        rw [HS2.out]
        refine ⟨fun k => (G4 k ∨ w4.heap.size ≤ k) ∧ k < w5.heap.size, ⟨g4, c4, _, tn4, ta4, tc4, la4, lc4, _, r7, ⟨.inl q2, r5.bl⟩, fun x hx => ⟨.inl (q3 x hx), r5.gl hx⟩, fun k e => ⟨.inl (q4 k e), (r5.lo e).1⟩, fun k e => ⟨?_, r5.vs k e⟩, fun k e => ?_⟩, fun k e => e.1, ?_⟩
        · rcases e with e | e
          · exact .inl (q5 k e)
          · exact .inr (by rw [e]; exact Nat.le_refl _)
        · exact Nat.lt_of_lt_of_le e.2 hk7.size
        · exact (Kp.of_below hb).trans (hk7.mono (S' := G4) (fun i _ e => by subst e; exact q3 X hX4)) (fun _ _ e => e)
      have HKP : Hid (∀ w5 : World, Below w4.heap.size w4 w5 → (((w5.setCell ⟨g4 X, Y * 3, none⟩ (.slice (some ⟨w4.heap.size, 0, none⟩) PG PG)).setCell ⟨g4 X, Y * 3 + 1, none⟩ (.bool false)).setCell ⟨g4 X, Y * 3 + 2, none⟩ (.int .i64 WR)).cell? ⟨b, 3 + X, none⟩ = some (.slice (some ⟨g4 X, 0, none⟩) NB (c4 X)) ∧ (((w5.setCell ⟨g4 X, Y * 3, none⟩ (.slice (some ⟨w4.heap.size, 0, none⟩) PG PG)).setCell ⟨g4 X, Y * 3 + 1, none⟩ (.bool false)).setCell ⟨g4 X, Y * 3 + 2, none⟩ (.int .i64 WR)).cell? ⟨g4 X, Y * 3 + 2, none⟩ = some (.int .i64 WR)) := fun w5 hb => by
        have q := r4.old hb
        obtain ⟨X1, hX1⟩ := q.ha X hX4
        have hk7 : Kp (fun k => k = g4 X) w5 (((w5.setCell ⟨g4 X, Y * 3, none⟩ (.slice (some ⟨w4.heap.size, 0, none⟩) PG PG)).setCell ⟨g4 X, Y * 3 + 1, none⟩ (.bool false)).setCell ⟨g4 X, Y * 3 + 2, none⟩ (.int .i64 WR)) := ((Kp.set (S := fun k => k = g4 X) rfl _).trans (Kp.set (S := fun k => k = g4 X) rfl _) (fun _ _ e => e)).trans (Kp.set (S := fun k => k = g4 X) rfl _) (fun _ _ e => e)
        have hrow := pgrow21 (w := w5) (d' := ⟨w4.heap.size, 0, PG, List.replicate PG 255, false, WR⟩) hX1 hd4
        rw [show (⟨w4.heap.size, 0, PG, List.replicate PG 255, false, WR⟩ : Pd21).b.length = PG from List.length_replicate] at hrow
        constructor
        · rw [World.cell?_of_block (a := ⟨b, 3 + X, none⟩) (hk7.block b q.bl (q.bg hX4)), hNB]; exact q.car hX4
        · have hg := (pdl21_get ((A4 X).set Y ⟨w4.heap.size, 0, PG, List.replicate PG 255, false, WR⟩) Y ⟨w4.heap.size, 0, PG, List.replicate PG 255, false, WR⟩ (by simp [hY4])).2.2
          have hl := pdl21_len ((A4 X).set Y ⟨w4.heap.size, 0, PG, List.replicate PG 255, false, WR⟩)
          simp only [World.cell?, hrow, List.getElem?_toArray]
          rw [List.getElem?_append_left (by rw [hl]; simp; omega)]
          exact hg
      have HS4 : Hid (Seg w4 a L) := hseg4
      have hnM : n = Nat.min n PG := by show n = min n PG; omega
      have HNM : Hid (n = Nat.min n PG) := hnM
      have HFT : Hid (0 + n ≤ (List.replicate PG (255 : Int)).length) := by show _ ≤ _; simp; omega
      clear r4 q2 q3 q4 q5 q6 f4 k4 hPG hNB hX4 hY4 hd4 hseg4 hWR hwr4 hnM
      go_wp2_with fail
      refine HBK.out.mono ?_
      rintro e5 w5 ⟨rfl, hh5, hb5⟩
      have HH5 : Hid (w5.heap[w4.heap.size]? = some (.cells ((List.replicate PG (255 : Int)).map (Value.int .u8)).toArray 5 (0, 0))) := hh5
      have HB5 : Hid (Below w4.heap.size w4 w5) := hb5
      clear hh5 hb5
      go_upto_region 13 with (first
        | (refine wpList_copy21 rfl (.tmp 46) (.tmp 47) 22 22 rfl 5 Tryd.underlying22 size_y21 rfl rfl w4.heap.size 0 (List.replicate PG 255) 5 HH5.out L n hn.out HNM.out (fun _ => ⟨rfl, HS4.out.old HB5.out⟩) HFT.out ?_; intro w6 h6 k6))
      have hb6 : Below w4.heap.size w4 w6 := HB5.out.trans (k6.below (fun i e => by omega) HB5.out.size)
      obtain ⟨k5, fg5, y0, y1⟩ := HC5.out w6.drew hb6.drew
      have fy0 := fg5 (Y * 3)
      have fy1 := fg5 (Y * 3 + 1)
      have fy2 := fg5 (Y * 3 + 2)
      have HF5 := HFIN.out w6.drew hb6.drew h6.out
      have HF5' : Hid (Rn21 w (((w6.drew.setCell ⟨g4 X, Y * 3, none⟩ (.slice (some ⟨w4.heap.size, 0, none⟩) PG PG)).setCell ⟨g4 X, Y * 3 + 1, none⟩ (.bool false)).setCell ⟨g4 X, Y * 3 + 2, none⟩ (.int .i64 WR)) b G S2) := HF5
      obtain ⟨k5a, k5b⟩ := k5
      obtain ⟨⟨j5a, j5b⟩, jf, j0, j1⟩ := HC5.out w6 hb6
      have jf0 := jf (Y * 3)
      have jf1 := jf (Y * 3 + 1)
      have jf2 := jf (Y * 3 + 2)
      have kkp := HKP.out w6 hb6
      have HKK : Hid ((((w6.setCell ⟨g4 X, Y * 3, none⟩ (.slice (some ⟨w4.heap.size, 0, none⟩) PG PG)).setCell ⟨g4 X, Y * 3 + 1, none⟩ (.bool false)).setCell ⟨g4 X, Y * 3 + 2, none⟩ (.int .i64 WR)).cell? ⟨b, 3 + X, none⟩ = some (.slice (some ⟨g4 X, 0, none⟩) NB (c4 X)) ∧ (((w6.setCell ⟨g4 X, Y * 3, none⟩ (.slice (some ⟨w4.heap.size, 0, none⟩) PG PG)).setCell ⟨g4 X, Y * 3 + 1, none⟩ (.bool false)).setCell ⟨g4 X, Y * 3 + 2, none⟩ (.int .i64 WR)).cell? ⟨g4 X, Y * 3 + 2, none⟩ = some (.int .i64 WR)) := kkp
      clear HF5 hb6 fg5 k6 jf kkp
      go_wp2_with fail
      go_region_held3 (fun V => V.cell? ⟨b, 3 + X, none⟩ = some (.slice (some ⟨g4 X, 0, none⟩) NB (c4 X)) ∧ V.cell? ⟨g4 X, Y * 3 + 2, none⟩ = some (.int .i64 WR)) (first | exact ⟨k5a, k5b⟩ | exact HKK.out | go_keep) (fail)
      go_wp2_with fail
      go_ret
      exact ⟨rfl, HF5'.out⟩
end Go.Proofs.YtjoghmdjnkdokaaDoor

namespace Go.Proofs.YtjoghmdjnkdokaaDoor
open Go.RowKit Go.Shelf
set_option linter.unusedVariables false
set_option linter.unusedSimpArgs false

/-! The landed page: a writer in memory; what it tells. -/
structure Pw22 where
  ar : Int
  bf : List Int
  pn : Nat
  wn : Nat
  cl : Int
structure Wr22 (w : World) (v s g b pg : Nat) (P : Pw22) : Prop where
  hv : w.heap[v]? = some (.cells #[.pointer (some ⟨s, 0, none⟩)] 186 (0, 0))
  hs : w.heap[s]? = some (.cells #[.pointer (some ⟨b, 0, none⟩), .int .i64 P.ar, .slice (some ⟨g, 0, none⟩) pg pg, .int .i64 (P.bf.length : Int), .int .i64 (P.pn : Int), .int .i64 (P.wn : Int), .int .i64 P.cl] 186 (0, 0))
  hg : ∃ Y : List Int, w.heap[g]? = some (.cells ((P.bf ++ Y).map (Value.int .u8)).toArray 5 (0, 0)) ∧ P.bf.length + Y.length = pg ∧ ∀ y ∈ P.bf ++ Y, 0 ≤ y ∧ y ≤ 255
section
variable {w w' : World} {v s g b pg : Nat} {P : Pw22}
theorem Wr22.cv (h : Wr22 w v s g b pg P) : w.cell? ⟨v, 0, none⟩ = some (.pointer (some ⟨s, 0, none⟩)) := by simp [World.cell?, h.hv]
theorem Wr22.c0 (h : Wr22 w v s g b pg P) : w.cell? ⟨s, 0, none⟩ = some (.pointer (some ⟨b, 0, none⟩)) := by simp [World.cell?, h.hs]
theorem Wr22.c1 (h : Wr22 w v s g b pg P) : w.cell? ⟨s, 1, none⟩ = some (.int .i64 P.ar) := by simp [World.cell?, h.hs]
theorem Wr22.c2 (h : Wr22 w v s g b pg P) : w.cell? ⟨s, 2, none⟩ = some (.slice (some ⟨g, 0, none⟩) pg pg) := by simp [World.cell?, h.hs]
theorem Wr22.c3 (h : Wr22 w v s g b pg P) : w.cell? ⟨s, 3, none⟩ = some (.int .i64 (P.bf.length : Int)) := by simp [World.cell?, h.hs]
theorem Wr22.c4 (h : Wr22 w v s g b pg P) : w.cell? ⟨s, 4, none⟩ = some (.int .i64 (P.pn : Int)) := by simp [World.cell?, h.hs]
theorem Wr22.c5 (h : Wr22 w v s g b pg P) : w.cell? ⟨s, 5, none⟩ = some (.int .i64 (P.wn : Int)) := by simp [World.cell?, h.hs]
theorem Wr22.c6 (h : Wr22 w v s g b pg P) : w.cell? ⟨s, 6, none⟩ = some (.int .i64 P.cl) := by simp [World.cell?, h.hs]
theorem Wr22.fr (h : Wr22 w v s g b pg P) (i : Nat) : w.frozen? ⟨s, i, none⟩ = false := by simp [World.frozen?, h.hs]
theorem Wr22.ne_vs (h : Wr22 w v s g b pg P) : v ≠ s := fun e => by have := h.hs; rw [← e, h.hv] at this; simp at this
theorem Wr22.ne_sg (h : Wr22 w v s g b pg P) : s ≠ g := fun e => by
  obtain ⟨Y, h1, _⟩ := h.hg
  have := h.hs; rw [e, h1] at this
  injection this with h2
  injection h2 with _ h3 _
  exact absurd h3 (by decide)
theorem Wr22.ne_vg (h : Wr22 w v s g b pg P) : v ≠ g := fun e => by
  obtain ⟨Y, h1, _⟩ := h.hg
  have := h.hv; rw [e, h1] at this
  injection this with h2
  injection h2 with _ h3 _
  exact absurd h3 (by decide)
theorem Wr22.kp (h : Wr22 w v s g b pg P) (h1 : w'.heap[v]? = w.heap[v]?) (h2 : w'.heap[s]? = w.heap[s]?) (h3 : w'.heap[g]? = w.heap[g]?) : Wr22 w' v s g b pg P := by
  obtain ⟨Y, hY, hl⟩ := h.hg
  exact ⟨h1.trans h.hv, h2.trans h.hs, Y, h3.trans hY, hl⟩
theorem Wr22.lt (h : Wr22 w v s g b pg P) : v < w.heap.size ∧ s < w.heap.size ∧ g < w.heap.size := by
  obtain ⟨Y, hY, hl⟩ := h.hg
  exact ⟨(Array.getElem?_eq_some_iff.1 h.hv).1, (Array.getElem?_eq_some_iff.1 h.hs).1, (Array.getElem?_eq_some_iff.1 hY).1⟩
theorem Wr22.old (h : Wr22 w v s g b pg P) (hb : Below w.heap.size w w') : Wr22 w' v s g b pg P :=
  h.kp (hb.block v h.lt.1) (hb.block s h.lt.2.1) (hb.block g h.lt.2.2)
theorem Wr22.kpk {Q : Nat → Prop} (h : Wr22 w v s g b pg P) (hk : Kp Q w w') (h1 : ¬ Q v) (h2 : ¬ Q s) (h3 : ¬ Q g) : Wr22 w' v s g b pg P :=
  h.kp (hk.block v h.lt.1 h1) (hk.block s h.lt.2.1 h2) (hk.block g h.lt.2.2 h3)
end
/-- A writer over a flash. -/
structure Pe22 (w : World) (v s g b : Nat) (F : Nat → Prop) (S : Fs21) (P : Pw22) : Prop where
  fl : Fl21 w b F S
  wr : Wr22 w v s g b S.pg P
  nv : ¬ F v
  ns : ¬ F s
  ng : ¬ F g
def Pn22 (w w' : World) (v s g b : Nat) (F : Nat → Prop) (S' : Fs21) (P' : Pw22) : Prop := ∃ F', Pe22 w' v s g b F' S' P' ∧ (∀ k, F' k → F k ∨ w.heap.size ≤ k) ∧ Kp (fun k => F k ∨ k = s ∨ k = g) w w'
section
variable {w w' : World} {v s g b : Nat} {F : Nat → Prop} {S S' : Fs21} {P P' : Pw22}
theorem Pe22.old (h : Pe22 w v s g b F S P) (hb : Below w.heap.size w w') : Pe22 w' v s g b F S P := ⟨h.fl.old hb, h.wr.old hb, h.nv, h.ns, h.ng⟩
theorem Pe22.stay (h : Pe22 w v s g b F S P) (hb : Below w.heap.size w w') : Pn22 w w' v s g b F S P := ⟨F, h.old hb, fun _ e => .inl e, Kp.of_below hb⟩
theorem Pn22.from {w1 : World} (h : Pn22 w1 w' v s g b F S' P') (hb : Below w.heap.size w w1) : Pn22 w w' v s g b F S' P' := by
  obtain ⟨F', h1, h2, h3⟩ := h
  exact ⟨F', h1, fun k e => by rcases h2 k e with h | h; (exact .inl h); (exact .inr (Nat.le_trans hb.size h)), (Kp.of_below hb).trans h3 (fun _ _ e => e)⟩
/-- What a call of the flash leaves of a writer over it. -/
theorem Pe22.flash (h : Pe22 w v s g b F S P) (hn : Fn21 w w' b F S') (hp : S'.pg = S.pg) : Pn22 w w' v s g b F S' P := by
  obtain ⟨F', h1, h2, h3⟩ := hn
  have hl := h.wr.lt
  refine ⟨F', ⟨h1, by rw [hp]; exact h.wr.kpk h3 h.nv h.ns h.ng, fun e => ?_, fun e => ?_, fun e => ?_⟩, h2, h3.mono (fun i _ e => .inl e)⟩
  · rcases h2 v e with q | q; (exact h.nv q); omega
  · rcases h2 s e with q | q; (exact h.ns q); omega
  · rcases h2 g e with q | q; (exact h.ng q); omega
theorem Pn22.cons {w1 w2 : World} {F1 : Nat → Prop} {S2 : Fs21} {P2 : Pw22} (f1 : ∀ k, F1 k → F k ∨ w.heap.size ≤ k) (k1 : Kp (fun k => F k ∨ k = s ∨ k = g) w w1) (h : Pn22 w1 w2 v s g b F1 S2 P2) : Pn22 w w2 v s g b F S2 P2 := by
  obtain ⟨F2, h1, h2, h3⟩ := h
  refine ⟨F2, h1, fun x e => ?_, k1.trans h3 (fun i hi e => ?_)⟩
  · rcases h2 x e with q | q
    · exact f1 x q
    · exact .inr (Nat.le_trans k1.size q)
  · rcases e with e | e
    · rcases f1 i e with q | q
      · exact .inl q
      · omega
    · exact .inr e
end
section
variable {w : World} {v s g b pg : Nat} {P : Pw22}
end
section
variable {w : World} {b : Nat} {F : Nat → Prop} {S : Fs21}
set_option maxRecDepth 100000 in
set_option maxHeartbeats 1000000 in
theorem pact22 (hF : Fl21 w b F S) (hO : Ok21 S) : Calls Tryd.prog 22 #[.pointer (some ⟨b, 0, none⟩)] w fun e w' => e = .returned (.int .i64 S.ac) ∧ w' = w := by
  obtain ⟨c0, c1, c2, c3, c4, cf⟩ := hF.cells
  have HM := pmade21 b S.pg w c0 hO.pg.1
  clear hF
  go_enter Tryd.func22, Tryd.ntmps22
  go_wp2_with fail
  refine HM.mono ?_
  rintro e w1 ⟨rfl, hw⟩
  subst w1
  go_wp2_with fail
  go_ret
  exact ⟨rfl, rfl⟩
set_option maxRecDepth 100000 in
set_option maxHeartbeats 1000000 in
theorem pshp22 (hF : Fl21 w b F S) (hO : Ok21 S) : Calls Tryd.prog 66 #[.pointer (some ⟨b, 0, none⟩)] w fun e w' => e = .returned (.agg #[.int .i64 (S.pg : Int), .int .i64 (S.ps : Int)]) ∧ Below w.heap.size w w' := by
  have hb : Below w.heap.size w (w.alloc (.cells #[.int .i64 0, .int .i64 0] 29)) := (Below.refl _ _).alloc (Nat.le_refl _) _
  obtain ⟨c0, c1, c2, c3, c4, cf⟩ := (hF.old hb).cells
  have HM := pmade21 b S.pg _ c0 hO.pg.1
  have hb2 : Below w.heap.size w (w.alloc (.cells #[.int .i64 (S.pg : Int), .int .i64 (S.ps : Int)] 29)) := (Below.refl _ _).alloc (Nat.le_refl _) _
  have hq := heap_alloc_new w (.cells #[.int .i64 (S.pg : Int), .int .i64 (S.ps : Int)] 29)
  have hlt := hF.lt
  clear hF
  go_enter Tryd.func66, Tryd.ntmps66
  go_wp2_with fail
  refine HM.mono ?_
  rintro e w1 ⟨rfl, hw⟩
  subst w1
  go_wp2_with fail
  refine bodyPost_ret (v := .agg #[.int .i64 (S.pg : Int), .int .i64 (S.ps : Int)]) (results_cell_row (fn := Tryd.f66) (p := 2) (ty := 29) rfl _ _ w.heap.size _ _ _ _ rfl hq Tryd.underlying29 rfl (by kernel_rfl)) rfl ?_
  exact ⟨rfl, hb2⟩
end
end Go.Proofs.YtjoghmdjnkdokaaDoor

namespace Go.Proofs.YtjoghmdjnkdokaaDoor
open Go.RowKit Go.Shelf
set_option linter.unusedVariables false
set_option linter.unusedSimpArgs false

/-! The document's page writer (sapperref22): the same state Pw22 as the landed writer's. Failed is cl, unless cl = 221 (Over). -/
structure Rw22 (w : World) (u b : Nat) (ha : Option Addr) (hc : Nat) (P : Pw22) : Prop where
  hu : w.heap[u]? = some (.cells #[.pointer (some ⟨b, 0, none⟩), .int .i64 P.ar, .slice ha P.bf.length hc, .int .i64 (P.wn : Int), .int .i64 (P.pn : Int), .int .i64 (if P.cl = 221 then 0 else P.cl), .bool (decide (P.cl = 221))] 186 (0, 0))
  ow : w.ownsRow 0 5 1 (.slice ha P.bf.length hc) P.bf.length (P.bf.map (Value.int .u8))
  ne : ∀ k, (Value.slice ha P.bf.length hc).ownBlock = some k → k ≠ u
  bd : ∀ y ∈ P.bf, 0 ≤ y ∧ y ≤ 255
theorem Rw22.cel {w : World} {u b : Nat} {ha : Option Addr} {hc : Nat} {P : Pw22} (h : Rw22 w u b ha hc P) {i : Nat} {v : Value} (hi : (#[.pointer (some ⟨b, 0, none⟩), .int .i64 P.ar, .slice ha P.bf.length hc, .int .i64 (P.wn : Int), .int .i64 (P.pn : Int), .int .i64 (if P.cl = 221 then 0 else P.cl), .bool (decide (P.cl = 221))] : Array Value)[i]? = some v) : w.cell? ⟨u, i, none⟩ = some v := by
  simp only [World.cell?, h.hu]; exact hi
end Go.Proofs.YtjoghmdjnkdokaaDoor

namespace Go.Proofs.YtjoghmdjnkdokaaDoor
open Go.RowKit Go.Shelf
set_option linter.unusedVariables false
set_option linter.unusedSimpArgs false

/-! The landed page: New, left. -/
section
variable {w w' : World} {v s g b pg : Nat} {F : Nat → Prop} {S : Fs21} {P P' : Pw22}
theorem seven_set22 {w : World} {b : Nat} {x0 x1 x2 x3 x4 x5 x6 : Value} {t : TypeId} (h : w.heap[b]? = some (.cells #[x0, x1, x2, x3, x4, x5, x6] t (0, 0))) (u : Value) :
    (w.setCell ⟨b, 3, none⟩ u).heap[b]? = some (.cells #[x0, x1, x2, u, x4, x5, x6] t (0, 0)) ∧ (w.setCell ⟨b, 4, none⟩ u).heap[b]? = some (.cells #[x0, x1, x2, x3, u, x5, x6] t (0, 0)) ∧ (w.setCell ⟨b, 5, none⟩ u).heap[b]? = some (.cells #[x0, x1, x2, x3, x4, u, x6] t (0, 0)) ∧ (w.setCell ⟨b, 6, none⟩ u).heap[b]? = some (.cells #[x0, x1, x2, x3, x4, x5, u] t (0, 0)) := by
  simp [World.setCell, Array.getElem?_modify, h]
theorem set_other22 (w : World) {s i k : Nat} (u : Value) (h : k ≠ s) : (w.setCell ⟨s, i, none⟩ u).heap[k]? = w.heap[k]? := by
  have h' : ¬ s = k := fun e => h e.symm
  simp [World.setCell, Array.getElem?_modify, h']
theorem Wr22.setC (h : Wr22 w v s g b pg P) (x : Int) : Wr22 (w.setCell ⟨s, 6, none⟩ (.int .i64 x)) v s g b pg { P with cl := x } := by
  obtain ⟨Y, hY, hl⟩ := h.hg
  exact ⟨(set_other22 w _ h.ne_vs).trans h.hv, (seven_set22 h.hs _).2.2.2, Y, (set_other22 w _ h.ne_sg.symm).trans hY, hl⟩
theorem Wr22.setW (h : Wr22 w v s g b pg P) (n : Nat) : Wr22 (w.setCell ⟨s, 5, none⟩ (.int .i64 (n : Int))) v s g b pg { P with wn := n } := by
  obtain ⟨Y, hY, hl⟩ := h.hg
  exact ⟨(set_other22 w _ h.ne_vs).trans h.hv, (seven_set22 h.hs _).2.2.1, Y, (set_other22 w _ h.ne_sg.symm).trans hY, hl⟩
theorem Wr22.setP (h : Wr22 w v s g b pg P) (n : Nat) : Wr22 (w.setCell ⟨s, 4, none⟩ (.int .i64 (n : Int))) v s g b pg { P with pn := n } := by
  obtain ⟨Y, hY, hl⟩ := h.hg
  exact ⟨(set_other22 w _ h.ne_vs).trans h.hv, (seven_set22 h.hs _).2.1, Y, (set_other22 w _ h.ne_sg.symm).trans hY, hl⟩
theorem Wr22.setH (h : Wr22 w v s g b pg P) : Wr22 (w.setCell ⟨s, 3, none⟩ (.int .i64 0)) v s g b pg { P with bf := [] } := by
  obtain ⟨Y, hY, hl, hb⟩ := h.hg
  exact ⟨(set_other22 w _ h.ne_vs).trans h.hv, (seven_set22 h.hs _).1, P.bf ++ Y, (set_other22 w _ h.ne_sg.symm).trans hY, by simpa using hl, hb⟩
theorem Pe22.put (h : Pe22 w v s g b F S P) (hk : Kp (fun k => k = s ∨ k = g) w w') (hw : Wr22 w' v s g b S.pg P') : Pn22 w w' v s g b F S P' := by
  refine ⟨F, ⟨h.fl.kp (fun k e => ?_) hk.size, hw, h.nv, h.ns, h.ng⟩, fun _ e => .inl e, hk.mono (fun i _ e => .inr e)⟩
  have hlt : k < w.heap.size := by
    obtain ⟨m, c, f, ta, tc, la, lc, V, h1, h2, h3, h4, h5, h6⟩ := h.fl
    exact h6 k e
  refine hk.block k hlt (fun q => ?_)
  rcases q with q | q
  · exact h.ns (q ▸ e)
  · exact h.ng (q ▸ e)
def mx22 (S : Fs21) : Nat := S.pg * S.ps
theorem mx22_bd (hO : Ok21 S) : mx22 S ≤ 16777216 := by
  have h1 := hO.pg
  have h2 := hO.ps
  unfold mx22
  have := Nat.mul_le_mul h1.2 h2.2
  omega
theorem info_u8z22 : (Tryd.prog.info? 5).map (fun i => (i.zero, i.size, i.bytes)) = some (some (.int .u8 0), 1, 1) := by kernel_rfl
theorem made_zeros22 (n : Nat) : madeCells #[.int .u8 0] n = ((List.replicate n (0 : Int)).map (Value.int .u8)).toArray := by
  apply Array.toList_inj.1
  rw [toList_madeCells_one]
  simp
theorem run_make22 (n : Nat) (h : n ≤ 281474976710656) (w : World) :
    (Instr.makeSlice 22 (.int .i64 (n : Int)) (.int .i64 (n : Int))).run Tryd.prog w = .ok (.slice (some ⟨w.heap.size, 0, none⟩) n n) (w.alloc (.cells ((List.replicate n (0 : Int)).map (Value.int .u8)).toArray 5)) := by
  rw [← made_zeros22]
  exact run_make_row' 22 5 (.int .u8 0) 1 Tryd.underlying22 info_u8z22 rfl .i64 .i64 n (by omega) (by omega) w
theorem flds22 (p q : Int) (W : World) : (Instr.field 29 (.agg #[.int .i64 p, .int .i64 q]) 0).run Tryd.prog W = .ok (.int .i64 p) W := by kernel_rfl
/-- What New leaves. -/
def Nw22 (w w' : World) (b : Nat) (F : Nat → Prop) (S : Fs21) (e : Ending) : Prop := ∃ v s g, e = .returned (.tuple #[.pointer (some ⟨v, 0, none⟩), .int .i64 0]) ∧ Pe22 w' v s g b F S ⟨1 - S.ac, [], 0, 0, 0⟩ ∧ Below w.heap.size w w' ∧ w.heap.size ≤ v ∧ w.heap.size ≤ s ∧ w.heap.size ≤ g
end
end Go.Proofs.YtjoghmdjnkdokaaDoor

namespace Go.Proofs.YtjoghmdjnkdokaaDoor
open Go.RowKit Go.Shelf
set_option linter.unusedVariables false
set_option linter.unusedSimpArgs false

/-! The landed page: lay. -/
def lyE22 (S : Fs21) (P : Pw22) : Int := if erE21 S P.ar (P.pn : Int) ≠ 0 then erE21 S P.ar (P.pn : Int) else pgE21 (erS21 S P.ar (P.pn : Int)) P.ar (P.pn : Int) P.bf.length
def lyS22 (S : Fs21) (P : Pw22) : Fs21 := if erE21 S P.ar (P.pn : Int) ≠ 0 then erS21 S P.ar (P.pn : Int) else pgS21 (erS21 S P.ar (P.pn : Int)) P.ar (P.pn : Int) P.bf
def lyP22 (S : Fs21) (P : Pw22) : Pw22 := if lyE22 S P ≠ 0 then { P with cl := lyE22 S P } else { P with pn := P.pn + 1, bf := [] }
theorem rn21_pg (S : Fs21) (kd x y : Int) (nn : Sh21) : (rn21 S kd x y nn).pg = S.pg ∧ (rn21 S kd x y nn).ps = S.ps ∧ (rn21 S kd x y nn).ac = S.ac ∧ (rn21 S kd x y nn).lm = S.lm ∧ (rn21 S kd x y nn).lg.length = S.lg.length + 1 := by
  unfold rn21; split <;> simp [cu21, go21]
theorem erS21_pg (S : Fs21) (x y : Int) : (erS21 S x y).pg = S.pg ∧ (erS21 S x y).ps = S.ps ∧ (erS21 S x y).ac = S.ac ∧ (erS21 S x y).lm = S.lm ∧ (erS21 S x y).lg.length ≤ S.lg.length + 1 := by
  unfold erS21
  split
  · exact ⟨rfl, rfl, rfl, rfl, by omega⟩
  · split
    · exact ⟨rfl, rfl, rfl, rfl, by omega⟩
    · have := rn21_pg S 1 x y ⟨[], true, (sh21 S x y).wr + 1⟩
      exact ⟨this.1, this.2.1, this.2.2.1, this.2.2.2.1, by omega⟩
theorem pgS21_pg (S : Fs21) (x y : Int) (L : List Int) : (pgS21 S x y L).pg = S.pg ∧ (pgS21 S x y L).ps = S.ps ∧ (pgS21 S x y L).ac = S.ac ∧ (pgS21 S x y L).lm = S.lm ∧ (pgS21 S x y L).lg.length ≤ S.lg.length + 1 := by
  unfold pgS21
  split
  · exact ⟨rfl, rfl, rfl, rfl, by omega⟩
  · split
    · exact ⟨rfl, rfl, rfl, rfl, by omega⟩
    · split
      · exact ⟨rfl, rfl, rfl, rfl, by omega⟩
      · have := rn21_pg S 2 x y ⟨L, false, (sh21 S x y).wr⟩
        exact ⟨this.1, this.2.1, this.2.2.1, this.2.2.2.1, by omega⟩
theorem lyS22_pg (S : Fs21) (P : Pw22) : (lyS22 S P).pg = S.pg ∧ (lyS22 S P).ps = S.ps ∧ (lyS22 S P).ac = S.ac ∧ (lyS22 S P).lm = S.lm ∧ (lyS22 S P).lg.length ≤ S.lg.length + 2 := by
  have h1 := erS21_pg S P.ar P.pn
  have h2 := pgS21_pg (erS21 S P.ar P.pn) P.ar P.pn P.bf
  unfold lyS22
  split
  · exact ⟨h1.1, h1.2.1, h1.2.2.1, h1.2.2.2.1, by omega⟩
  · exact ⟨h2.1.trans h1.1, h2.2.1.trans h1.2.1, h2.2.2.1.trans h1.2.2.1, h2.2.2.2.1.trans h1.2.2.2.1, by omega⟩
theorem ok22_ly {S : Fs21} (h : Ok21 S) (P : Pw22) : Ok21 (lyS22 S P) := by
  unfold lyS22
  split
  · exact ok21_er h _ _
  · exact ok21_pg (ok21_er h _ _) _ _ _
section
variable {w w' : World} {v s g b pg : Nat} {F : Nat → Prop} {S : Fs21} {P P' : Pw22}
theorem seg_bf22 (h : Wr22 w v s g b pg P) : Seg w (some ⟨g, 0, none⟩) P.bf := by
  obtain ⟨Y, h1, h2, h3⟩ := h.hg
  have := (seg_row21 h1 h3).take P.bf.length
  simpa using this
end
end Go.Proofs.YtjoghmdjnkdokaaDoor

namespace Go.Proofs.YtjoghmdjnkdokaaDoor
open Go.RowKit Go.Shelf
set_option linter.unusedVariables false
set_option linter.unusedSimpArgs false

/-! The document's page writer: its footprint; what flush leaves of it. -/
theorem rf22_not (on : Bool) (ps : Nat) (x y : Int) : rf21 on ps x y ≠ 221 := by
  unfold rf21 ms21
  repeat' split
  all_goals decide
theorem rc22_not (S : Fs21) : rc21 S ≠ 221 := by
  unfold rc21; split <;> decide
theorem erE22_not (S : Fs21) (x y : Int) : erE21 S x y ≠ 221 := by
  unfold erE21
  split
  · exact rf22_not _ _ _ _
  · split
    · decide
    · exact rc22_not _
theorem pgE22_not (S : Fs21) (x y : Int) (n : Nat) : pgE21 S x y n ≠ 221 := by
  unfold pgE21
  split
  · exact rf22_not _ _ _ _
  · split
    · decide
    · split
      · decide
      · exact rc22_not _
theorem lyE22_not (S : Fs21) (P : Pw22) : lyE22 S P ≠ 221 := by
  unfold lyE22
  split
  · exact erE22_not _ _ _
  · exact pgE22_not _ _ _ _
structure Rh22 (w : World) (u b : Nat) (G H : Nat → Prop) (ha : Option Addr) (hc : Nat) (S : Fs21) (P : Pw22) : Prop where
  fl : Rl21d w b G S
  wr : Rw22 w u b ha hc P
  nu : ¬ G u
  nh : ∀ k, (Value.slice ha P.bf.length hc).ownBlock = some k → ¬ G k
  gH : ∀ k, G k → H k
  uH : H u
  hH : ∀ k, (Value.slice ha P.bf.length hc).ownBlock = some k → H k
  lt : ∀ k, H k → k < w.heap.size
def Re22 (w : World) (u b : Nat) (H : Nat → Prop) (S : Fs21) (P : Pw22) : Prop := ∃ G ha hc, Rh22 w u b G H ha hc S P
def Ren22 (w w' : World) (u b : Nat) (H : Nat → Prop) (S' : Fs21) (P' : Pw22) : Prop := ∃ H', Re22 w' u b H' S' P' ∧ (∀ k, H' k → H k ∨ w.heap.size ≤ k) ∧ Kp H w w'
section
variable {w w' : World} {u b : Nat} {G H : Nat → Prop} {ha : Option Addr} {hc : Nat} {S S' : Fs21} {P P' : Pw22}
theorem Rw22.kp (h : Rw22 w u b ha hc P) (h1 : w'.heap[u]? = w.heap[u]?) (h2 : ∀ k, (Value.slice ha P.bf.length hc).ownBlock = some k → w'.heap[k]? = w.heap[k]?) : Rw22 w' u b ha hc P := by
  refine ⟨h1.trans h.hu, ⟨h.ow.1, ?_⟩, h.ne, h.bd⟩
  rcases h.ow.2 with q | ⟨q, cap, cur, q1, q2, q3, q4⟩
  · exact .inl q
  · exact .inr ⟨q, cap, cur, q1, q2, (h2 q (by rw [q1]; rfl)).trans q3, q4⟩
theorem Rw22.seg (h : Rw22 w u b ha hc P) : Seg w ha P.bf := by
  obtain ⟨-, a, cap, e, hs, -⟩ := own_seg h.ow (M := 255) (by decide) h.bd
  cases e
  exact hs
/-- What a call of the document's flash leaves of a writer over it. -/
theorem Rh22.flash (h : Rh22 w u b G H ha hc S P) (hn : Rn21 w w' b G S') : ∃ G' H', Rh22 w' u b G' H' ha hc S' P ∧ (∀ k, H' k → H k ∨ w.heap.size ≤ k) ∧ Kp H w w' := by
  obtain ⟨G', g1, g2, g3⟩ := hn
  have hul := h.lt u h.uH
  refine ⟨G', fun k => G' k ∨ k = u ∨ (Value.slice ha P.bf.length hc).ownBlock = some k, ⟨g1, h.wr.kp (g3.block u hul h.nu) (fun k e => g3.block k (h.lt k (h.hH k e)) (h.nh k e)), ?_, fun k e q => ?_, fun k e => .inl e, .inr (.inl rfl), fun k e => .inr (.inr e), ?_⟩, ?_, g3.mono (fun i _ e => h.gH i e)⟩
  · intro q
    rcases g2 u q with q | q
    · exact h.nu q
    · omega
  · rcases g2 k q with q | q
    · exact h.nh k e q
    · have := h.lt k (h.hH k e); omega
  · rintro k (e | rfl | e)
    · exact g1.lts k e
    · exact Nat.lt_of_lt_of_le hul g3.size
    · exact Nat.lt_of_lt_of_le (h.lt k (h.hH k e)) g3.size
  · rintro k (e | rfl | e)
    · rcases g2 k e with q | q
      · exact .inl (h.gH k q)
      · exact .inr q
    · exact .inl h.uH
    · exact .inl (h.hH k e)
end
end Go.Proofs.YtjoghmdjnkdokaaDoor

namespace Go.Proofs.YtjoghmdjnkdokaaDoor
open Go.RowKit Go.Shelf
set_option linter.unusedVariables false
set_option linter.unusedSimpArgs false

/-! The document's page writer: flush. -/
section
variable {w w' : World} {u b : Nat} {G H : Nat → Prop} {ha : Option Addr} {hc : Nat} {S S' : Fs21} {P P' : Pw22}
theorem own_tr22 {N n : Nat} {e : TypeId} {k : Nat} {v : Value} {xs : List Value} (h : w.ownsRow N e k v n xs) (hk : ∀ r, v.ownBlock = some r → w'.heap[r]? = w.heap[r]?) : w'.ownsRow N e k v n xs := by
  refine ⟨h.1, ?_⟩
  rcases h.2 with q | ⟨q, cap, cur, q1, q2, q3, q4⟩
  · exact .inl q
  · exact .inr ⟨q, cap, cur, q1, q2, (hk q (by rw [q1]; rfl)).trans q3, q4⟩
theorem Rw22.setF (h : Rw22 w u b ha hc P) (h0 : P.cl = 0) (x : Int) (hx : x ≠ 221) : Rw22 (w.setCell ⟨u, 5, none⟩ (.int .i64 x)) u b ha hc { P with cl := x } := by
  refine ⟨?_, own_tr22 h.ow (fun r hr => set_other22 w _ (h.ne r hr)), h.ne, h.bd⟩
  have q := (seven_set22 h.hu (.int .i64 x)).2.2.1
  have e1 : (if x = 221 then 0 else x) = x := if_neg hx
  have e2 : decide (P.cl = 221) = decide (x = 221) := by rw [h0]; simp [hx]
  rw [e2] at q
  show (w.setCell ⟨u, 5, none⟩ (.int .i64 x)).heap[u]? = some (.cells #[_, _, _, _, _, .int .i64 (if x = 221 then 0 else x), .bool (decide (x = 221))] _ _)
  rw [e1]
  exact q
theorem Rw22.setN (h : Rw22 w u b ha hc P) (n : Nat) : Rw22 ((w.setCell ⟨u, 4, none⟩ (.int .i64 (n : Int))).setCell ⟨u, 2, none⟩ (.slice none 0 0)) u b none 0 { P with pn := n, bf := [] } := by
  refine ⟨?_, World.ownsRow_nil _ _ _ _, fun k e => by simp [Value.ownBlock] at e, by simp⟩
  have q := (seven_set22 h.hu (.int .i64 (n : Int))).2.1
  simp [World.setCell, Array.getElem?_modify, h.hu]
theorem Rh22.fail (h : Rh22 w u b G H ha hc S P) (h0 : P.cl = 0) (x : Int) (hx : x ≠ 221) : Ren22 w (w.setCell ⟨u, 5, none⟩ (.int .i64 x)) u b H S { P with cl := x } := by
  have hk : Kp H w (w.setCell ⟨u, 5, none⟩ (.int .i64 x)) := Kp.set h.uH _
  refine ⟨H, ⟨G, ha, hc, ⟨h.fl.kp (fun k e => set_other22 w _ (fun q => h.nu (q ▸ e))) hk.size, h.wr.setF h0 x hx, h.nu, h.nh, h.gH, h.uH, h.hH, fun k e => Nat.lt_of_lt_of_le (h.lt k e) hk.size⟩⟩, fun _ e => .inl e, hk⟩
theorem Rh22.next (h : Rh22 w u b G H ha hc S P) (n : Nat) : Ren22 w ((w.setCell ⟨u, 4, none⟩ (.int .i64 (n : Int))).setCell ⟨u, 2, none⟩ (.slice none 0 0)) u b H S { P with pn := n, bf := [] } := by
  have hk : Kp H w ((w.setCell ⟨u, 4, none⟩ (.int .i64 (n : Int))).setCell ⟨u, 2, none⟩ (.slice none 0 0)) := (Kp.set h.uH _).trans (Kp.set h.uH _) (fun _ _ e => e)
  refine ⟨H, ⟨G, none, 0, ⟨h.fl.kp (fun k e => ?_) hk.size, h.wr.setN n, h.nu, fun k e => by simp [Value.ownBlock] at e, h.gH, h.uH, fun k e => by simp [Value.ownBlock] at e, fun k e => Nat.lt_of_lt_of_le (h.lt k e) hk.size⟩⟩, fun _ e => .inl e, hk⟩
  have hne : k ≠ u := fun q => h.nu (q ▸ e)
  rw [set_other22 _ _ hne, set_other22 _ _ hne]
theorem Ren22.cons {w1 w2 : World} {H1 : Nat → Prop} (f1 : ∀ k, H1 k → H k ∨ w.heap.size ≤ k) (k1 : Kp H w w1) (h : Ren22 w1 w2 u b H1 S' P') : Ren22 w w2 u b H S' P' := by
  obtain ⟨H2, h1, h2, h3⟩ := h
  refine ⟨H2, h1, fun k e => ?_, k1.trans h3 (fun i hi e => ?_)⟩
  · rcases h2 k e with q | q
    · exact f1 k q
    · exact .inr (Nat.le_trans k1.size q)
  · rcases f1 i e with q | q
    · exact q
    · omega
end
end Go.Proofs.YtjoghmdjnkdokaaDoor

namespace Go.Proofs.YtjoghmdjnkdokaaDoor
open Go.RowKit Go.Shelf
set_option linter.unusedVariables false
set_option linter.unusedSimpArgs false

/-! The document's page writer: flush, walked. -/
section
variable {w w' : World} {u b : Nat} {G H : Nat → Prop} {ha : Option Addr} {hc : Nat} {S S' : Fs21} {P P' : Pw22}
end
end Go.Proofs.YtjoghmdjnkdokaaDoor

namespace Go.Proofs.YtjoghmdjnkdokaaDoor
open Go.RowKit Go.Shelf
set_option linter.unusedVariables false
set_option linter.unusedSimpArgs false

/-! The landed page: take. -/
/-- Bytes one by one. -/
def tk22 : Fs21 → Pw22 → List Int → Fs21 × Pw22 × Int
  | S, P, [] => (S, P, 0)
  | S, P, c :: L =>
    if (P.bf ++ [c]).length = S.pg then
      if lyE22 S { P with bf := P.bf ++ [c] } ≠ 0 then (lyS22 S { P with bf := P.bf ++ [c] }, lyP22 S { P with bf := P.bf ++ [c] }, lyE22 S { P with bf := P.bf ++ [c] })
      else tk22 (lyS22 S { P with bf := P.bf ++ [c] }) (lyP22 S { P with bf := P.bf ++ [c] }) L
    else tk22 S { P with bf := P.bf ++ [c] } L
theorem tk22_some (S : Fs21) : ∀ (cs : List Int) (P : Pw22) (L : List Int), P.bf.length + cs.length < S.pg → tk22 S P (cs ++ L) = tk22 S { P with bf := P.bf ++ cs } L
  | [], P, L, _ => by simp
  | c :: cs, P, L, h => by
    have h1 : ¬ (P.bf ++ [c]).length = S.pg := by simp at h ⊢; omega
    rw [List.cons_append, tk22, if_neg h1, tk22_some S cs { P with bf := P.bf ++ [c] } L (by simp at h ⊢; omega)]
    simp
theorem tk22_full (S : Fs21) : ∀ (cs : List Int) (P : Pw22) (L : List Int), P.bf.length + cs.length = S.pg → 0 < cs.length →
    tk22 S P (cs ++ L) = if lyE22 S { P with bf := P.bf ++ cs } ≠ 0 then (lyS22 S { P with bf := P.bf ++ cs }, lyP22 S { P with bf := P.bf ++ cs }, lyE22 S { P with bf := P.bf ++ cs }) else tk22 (lyS22 S { P with bf := P.bf ++ cs }) (lyP22 S { P with bf := P.bf ++ cs }) L
  | [], P, L, _, h => by simp at h
  | [c], P, L, h, _ => by
    have h1 : (P.bf ++ [c]).length = S.pg := by simp at h ⊢; omega
    rw [List.cons_append, tk22, if_pos h1]
    rfl
  | c :: d :: cs, P, L, h, _ => by
    have h1 : ¬ (P.bf ++ [c]).length = S.pg := by simp at h ⊢; omega
    rw [List.cons_append, tk22, if_neg h1, tk22_full S (d :: cs) { P with bf := P.bf ++ [c] } L (by simp at h ⊢; omega) (by simp)]
    simp
def tkE22 (S : Fs21) (P : Pw22) (L : List Int) : Int := (tk22 S P L).2.2
def tkS22 (S : Fs21) (P : Pw22) (L : List Int) : Fs21 := (tk22 S P L).1
def tkP22 (S : Fs21) (P : Pw22) (L : List Int) : Pw22 := if (tk22 S P L).2.2 = 0 then { (tk22 S P L).2.1 with wn := (tk22 S P L).2.1.wn + L.length } else (tk22 S P L).2.1
section
variable {w w' : World} {v s g b pg : Nat} {F : Nat → Prop} {S : Fs21} {P P' : Pw22}
theorem Wr22.copy (h : Wr22 w v s g b pg P) {Y cs : List Int} (hY : w.heap[g]? = some (.cells ((P.bf ++ Y).map (Value.int .u8)).toArray 5 (0, 0))) (hl : P.bf.length + Y.length = pg) (hb : ∀ y ∈ P.bf ++ Y, 0 ≤ y ∧ y ≤ 255) (hc : ∀ y ∈ cs, 0 ≤ y ∧ y ≤ 255) (hn : P.bf.length + cs.length ≤ pg)
    (k5 : Kp (fun k => k = g) w w') (h5 : w'.heap[g]? = some (.cells ((sp21 (P.bf ++ Y) P.bf.length cs).map (Value.int .u8)).toArray 5 (0, 0))) (m : Nat) (hm : P.bf.length + cs.length = m) :
    Wr22 (w'.setCell ⟨s, 3, none⟩ (.int .i64 (m : Int))) v s g b pg { P with bf := P.bf ++ cs } := by
  have h1 := h.lt
  have e1 : w'.heap[v]? = w.heap[v]? := k5.block v h1.1 h.ne_vg
  have e2 : w'.heap[s]? = w.heap[s]? := k5.block s h1.2.1 h.ne_sg
  refine ⟨(set_other22 w' _ h.ne_vs).trans (e1.trans h.hv), ?_, Y.drop cs.length, ?_, ?_, ?_⟩
  · have := (seven_set22 (e2.trans h.hs) (.int .i64 (m : Int))).1
    rw [this]
    simp [← hm]
  · rw [set_other22 w' _ h.ne_sg.symm, h5, sp21_at P.bf Y cs _ rfl]
  · simp; omega
  · intro y hy
    simp at hy
    rcases hy with hy | hy | hy
    · exact hb y (by simp [hy])
    · exact hc y hy
    · exact hb y (List.mem_append_right _ (List.mem_of_mem_drop hy))
end
/-- What holds of take's loop behind k bytes. -/
structure Ti22 (w wr : World) (v s g b : Nat) (F : Nat → Prop) (S : Fs21) (P : Pw22) (L : List Int) (k : Nat) (F' : Nat → Prop) (S' : Fs21) (P' : Pw22) : Prop where
  pe : Pe22 wr v s g b F' S' P'
  fr : ∀ x, F' x → F x ∨ w.heap.size ≤ x
  kp : Kp (fun x => F x ∨ x = s ∨ x = g) w wr
  ok : Ok21 S'
  pg : S'.pg = S.pg
  tk : tk22 S P L = tk22 S' P' (L.drop k)
  lt : P'.bf.length < S'.pg
  ar : P'.ar = P.ar
  wn : P'.wn = P.wn
  pn : P'.pn ≤ P.pn + k
  lg : S'.lg.length ≤ S.lg.length + 2 * k
section
variable {w wr w2 : World} {v s g b : Nat} {F F' F2 : Nat → Prop} {S S' : Fs21} {P P' : Pw22} {L : List Int} {k : Nat}
theorem Ti22.some (h : Ti22 w wr v s g b F S P L k F' S' P') {nn : Nat} (hk : k + nn = L.length) (hn : P'.bf.length + nn < S'.pg) (hp : Pn22 wr w2 v s g b F' S' { P' with bf := P'.bf ++ (L.drop k).take nn }) :
    ∃ F2, Ti22 w w2 v s g b F S P L (k + nn) F2 S' { P' with bf := P'.bf ++ (L.drop k).take nn } := by
  obtain ⟨F2, h1, h2, h3⟩ := Pn22.cons h.fr h.kp hp
  have hl : ((L.drop k).take nn).length = nn := by simp; omega
  refine ⟨F2, h1, h2, h3, h.ok, h.pg, ?_, ?_, h.ar, h.wn, Nat.le_trans h.pn (by omega), Nat.le_trans h.lg (by omega)⟩
  · rw [h.tk, ← List.drop_drop]
    have := tk22_some S' ((L.drop k).take nn) P' ((L.drop k).drop nn) (by omega)
    rw [List.take_append_drop] at this
    exact this
  · simp only [List.length_append]; omega
theorem Ti22.full (h : Ti22 w wr v s g b F S P L k F' S' P') {nn : Nat} (hk : k + nn ≤ L.length) (h0 : 0 < nn) (hn : P'.bf.length + nn = S'.pg) (hE : lyE22 S' { P' with bf := P'.bf ++ (L.drop k).take nn } = 0)
    (hp : Pn22 wr w2 v s g b F' (lyS22 S' { P' with bf := P'.bf ++ (L.drop k).take nn }) (lyP22 S' { P' with bf := P'.bf ++ (L.drop k).take nn })) :
    ∃ F2, Ti22 w w2 v s g b F S P L (k + nn) F2 (lyS22 S' { P' with bf := P'.bf ++ (L.drop k).take nn }) (lyP22 S' { P' with bf := P'.bf ++ (L.drop k).take nn }) := by
  obtain ⟨F2, h1, h2, h3⟩ := Pn22.cons h.fr h.kp hp
  have hl : ((L.drop k).take nn).length = nn := by simp; omega
  have hy := lyS22_pg S' { P' with bf := P'.bf ++ (L.drop k).take nn }
  have hpg := h.ok.pg
  have hP : lyP22 S' { P' with bf := P'.bf ++ (L.drop k).take nn } = { P' with pn := P'.pn + 1, bf := [] } := by
    unfold lyP22; rw [if_neg (by rw [hE]; simp)]
  refine ⟨F2, h1, h2, h3, ok22_ly h.ok _, hy.1.trans h.pg, ?_, ?_, ?_, ?_, ?_, ?_⟩
  · rw [h.tk, ← List.drop_drop]
    have := tk22_full S' ((L.drop k).take nn) P' ((L.drop k).drop nn) (by omega) (by omega)
    rw [List.take_append_drop, if_neg (by rw [hE]; simp)] at this
    exact this
  · rw [hP, hy.1]; simp; omega
  · rw [hP]; exact h.ar
  · rw [hP]; exact h.wn
  · rw [hP]; have := h.pn; show P'.pn + 1 ≤ _; omega
  · have := h.lg; omega
theorem Ti22.no (h : Ti22 w wr v s g b F S P L k F' S' P') {nn : Nat} (hk : k + nn ≤ L.length) (h0 : 0 < nn) (hn : P'.bf.length + nn = S'.pg) (hE : lyE22 S' { P' with bf := P'.bf ++ (L.drop k).take nn } ≠ 0)
    (hp : Pn22 wr w2 v s g b F' (lyS22 S' { P' with bf := P'.bf ++ (L.drop k).take nn }) (lyP22 S' { P' with bf := P'.bf ++ (L.drop k).take nn })) :
    tkE22 S P L = lyE22 S' { P' with bf := P'.bf ++ (L.drop k).take nn } ∧ Pn22 w w2 v s g b F (tkS22 S P L) (tkP22 S P L) := by
  have hl : ((L.drop k).take nn).length = nn := by simp; omega
  have := tk22_full S' ((L.drop k).take nn) P' ((L.drop k).drop nn) (by omega) (by omega)
  rw [List.take_append_drop, if_pos hE, ← h.tk] at this
  unfold tkE22 tkS22 tkP22
  rw [this]
  refine ⟨rfl, ?_⟩
  rw [if_neg hE]
  exact Pn22.cons h.fr h.kp hp
theorem Ti22.fin (h : Ti22 w wr v s g b F S P L L.length F' S' P') (hp : Pn22 wr w2 v s g b F' S' { P' with wn := P.wn + L.length }) :
    tkE22 S P L = 0 ∧ Pn22 w w2 v s g b F (tkS22 S P L) (tkP22 S P L) := by
  have := h.tk
  rw [List.drop_eq_nil_of_le (Nat.le_refl _)] at this
  unfold tkE22 tkS22 tkP22
  rw [this, tk22]
  refine ⟨rfl, ?_⟩
  rw [if_pos rfl]
  have e := Pn22.cons h.fr h.kp hp
  rw [← h.wn] at e
  exact e
end
end Go.Proofs.YtjoghmdjnkdokaaDoor

namespace Go.Proofs.YtjoghmdjnkdokaaDoor
open Go.RowKit Go.Shelf
set_option linter.unusedVariables false
set_option linter.unusedSimpArgs false

/-! The landed page: take, walked. -/
theorem Pn22.more {w w1 w2 : World} {v s g b : Nat} {F : Nat → Prop} {S : Fs21} {P : Pw22} (h : Pn22 w w1 v s g b F S P) (hb : Below w1.heap.size w1 w2) : Pn22 w w2 v s g b F S P := by
  obtain ⟨F1, q, f, k⟩ := h
  exact Pn22.cons f k (q.stay hb)
end Go.Proofs.YtjoghmdjnkdokaaDoor

namespace Go.Proofs.YtjoghmdjnkdokaaDoor
open Go.RowKit Go.Shelf
set_option linter.unusedVariables false
set_option linter.unusedSimpArgs false

/-! The landed page: Write, End. -/
def enE22 (S : Fs21) (P : Pw22) : Int := if 0 < P.bf.length then lyE22 S P else 0
def enS22 (S : Fs21) (P : Pw22) : Fs21 := if 0 < P.bf.length then lyS22 S P else S
def enP22 (S : Fs21) (P : Pw22) : Pw22 := if 0 < P.bf.length then (if lyE22 S P ≠ 0 then lyP22 S P else { lyP22 S P with cl := 221 }) else { P with cl := 221 }
def edE22 (S : Fs21) (P : Pw22) : Int := if P.cl ≠ 0 then P.cl else enE22 S P
def edS22 (S : Fs21) (P : Pw22) : Fs21 := if P.cl ≠ 0 then S else enS22 S P
def edP22 (S : Fs21) (P : Pw22) : Pw22 := if P.cl ≠ 0 then P else enP22 S P
def fu22 (S : Fs21) (P : Pw22) (n : Nat) : Prop := (mx22 S : Int) - (P.wn : Int) < (n : Int)
instance (S : Fs21) (P : Pw22) (n : Nat) : Decidable (fu22 S P n) := inferInstanceAs (Decidable ((mx22 S : Int) - (P.wn : Int) < (n : Int)))
def wrE22 (S : Fs21) (P : Pw22) (L : List Int) : Int := if P.cl ≠ 0 then P.cl else if fu22 S P L.length then 220 else tkE22 S P L
def wrS22 (S : Fs21) (P : Pw22) (L : List Int) : Fs21 := if P.cl ≠ 0 then S else if fu22 S P L.length then S else tkS22 S P L
def wrP22 (S : Fs21) (P : Pw22) (L : List Int) : Pw22 := if P.cl ≠ 0 then P else if fu22 S P L.length then P else tkP22 S P L
section
variable {w w' : World} {v s g b : Nat} {F : Nat → Prop} {S : Fs21} {P : Pw22}
end
end Go.Proofs.YtjoghmdjnkdokaaDoor
