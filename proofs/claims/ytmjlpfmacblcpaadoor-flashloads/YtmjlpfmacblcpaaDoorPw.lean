import Derived.Test.YtmjlpfmacblcpaaDoorPu
import Derived.Deep.CutRange
import Derived.Deep.CutBlock
namespace Go.Proofs.YtmjlpfmacblcpaaDoor
open Go.RowKit Go.Shelf
set_option linter.unusedVariables false
set_option linter.unusedSimpArgs false
theorem rw_old21 {w w' : World} {g : Nat} {zs : List Int} (h : Rw21 w g zs) (hb : Below w.heap.size w w') : Rw21 w' g zs := by
  obtain ⟨X, hX⟩ := h
  exact ⟨X, (hb.block g (Array.getElem?_eq_some_iff.1 hX).1).trans hX⟩
theorem rw_lt21 {w : World} {g : Nat} {zs : List Int} (h : Rw21 w g zs) : g < w.heap.size := by
  obtain ⟨X, hX⟩ := h
  exact (Array.getElem?_eq_some_iff.1 hX).1
theorem rw_seg21 {w : World} {g : Nat} {zs : List Int} (h : Rw21 w g zs) (hb : ∀ z ∈ zs, 0 ≤ z ∧ z ≤ 255) : Seg w (some ⟨g, 0, none⟩) zs := by
  obtain ⟨X, hX⟩ := h
  have e5 : zs.map (Value.int .u8) ++ X.map (Value.int .u8) = (zs ++ X).map (Value.int .u8) := by simp
  rw [← e5] at hX
  refine ⟨fun i hi => ⟨g, 0, rfl, ?_⟩, by decide, getD_bd (by decide) hb⟩
  simp only [World.cell?, hX, Nat.zero_add]
  rw [List.getElem?_toArray, List.getElem?_append_left (by simpa using hi)]
  simp [List.getD, hi]
theorem rb21_bd21 {S : Fs21} (h : By21 S) (x : Int) (a n : Nat) : ∀ z ∈ rb21 S x a n, 0 ≤ z ∧ z ≤ 255 := by
  intro z hz
  unfold rb21 at hz
  obtain ⟨i, -, rfl⟩ := List.mem_map.1 hz
  have hb := h x (((a + i) / S.pg : Nat) : Int)
  show 0 ≤ ((sh21 S x (((a + i) / S.pg : Nat) : Int)).b.getD ((a + i) % S.pg) 255) ∧ ((sh21 S x (((a + i) / S.pg : Nat) : Int)).b.getD ((a + i) % S.pg) 255) ≤ (255 : Int)
  generalize (sh21 S x (((a + i) / S.pg : Nat) : Int)).b = B at *
  generalize (a + i) % S.pg = r
  by_cases hl : r < B.length
  · have e : B.getD r 255 = B[r] := by simp [List.getD, hl]
    rw [e]; exact hb _ (List.getElem_mem hl)
  · have e : B.getD r 255 = 255 := by simp [List.getD, hl]
    rw [e]; decide
theorem rw_len21 {w : World} {f : Nat} {F : Nat → Prop} {S : Fs21} (h : Fl21 w f F S) (hO : Ok21 S) {x a n : Int} (hr : rdE21 S x a n = 0) {m : Nat} (hm : (m : Int) ≤ n ∨ m = 0) : m ≤ 70368744177664 := by
  rcases hm with hm | hm
  · unfold rdE21 at hr
    split at hr
    · cases hr
    · split at hr
      · cases hr
      · rename_i h2
        have h3 := pn21_bd S.ps x hO.ps.2
        have h4 : sz21 S x ≤ 4096 * 4096 := by
          unfold sz21
          exact Int.mul_le_mul h3.2 (by have := hO.pg.2; omega) (by omega) (by decide)
        omega
  · omega
theorem sav21_bd {S : Fs21} (h : Ok21 S) (hb : By21 S) : ∀ z ∈ sav21 S, 0 ≤ z ∧ z ≤ 255 := by
  intro z hz
  rcases List.mem_append.1 hz with hz | hz
  · exact svb21_bd h hb z hz
  · exact sm21_bd _ z hz
/-- The call's box, the lent bytes, the bytes themselves: as long as no device has them. -/
structure Bx21 (B : World) (gc gl n cap : Nat) (ba : Option Addr) (bc : Nat) (c a p nn : Int) (L : List Int) (V : World) : Prop where
  hb : V.heap[gc]? = some (.cells #[.int .i64 c, .int .i64 a, .int .i64 p, .int .i64 nn, .slice ba n bc] 39 (0, 0))
  sg : Seg V ba L
  ln : L.length = n
  lo : V.ownsRow (gc + 1) 5 1 (.slice (some ⟨gl, 0, none⟩) (n + 5) cap) (n + 5) ((lentL L).map (Value.int .u8))
theorem Bx21.c {B V : World} {gc gl n cap bc : Nat} {ba : Option Addr} {c a p nn : Int} {L : List Int} (h : Bx21 B gc gl n cap ba bc c a p nn L V) : V.cell? ⟨gc, 0, none⟩ = some (.int .i64 c) ∧ V.cell? ⟨gc, 1, none⟩ = some (.int .i64 a) ∧ V.cell? ⟨gc, 2, none⟩ = some (.int .i64 p) ∧ V.cell? ⟨gc, 3, none⟩ = some (.int .i64 nn) ∧ V.cell? ⟨gc, 4, none⟩ = some (.slice ba n bc) := by
  have := h.hb
  simp [World.cell?, this]
/-- The part of the lent bytes that is handed on. -/
theorem Bx21.part {B V : World} {gc gl n cap bc : Nat} {ba : Option Addr} {c a p nn : Int} {L : List Int} (h : Bx21 B gc gl n cap ba bc c a p nn L V) : Seg V (some ⟨gl, 0, none⟩) L := by
  have hm := h.sg.mem
  have hlb : ∀ z ∈ lentL L, 0 ≤ z ∧ z ≤ 255 := by
    intro z hz
    rcases List.mem_append.1 hz with hz | hz
    · exact hm z hz
    · simp at hz; omega
  obtain ⟨-, a', c', hv, sg, -⟩ := own_seg (M := 255) h.lo (by decide) hlb
  injection hv with h1 h2 h3
  subst h1
  have := sg.take L.length
  rwa [show (lentL L).take L.length = L from List.take_left] at this
set_option maxRecDepth 100000 in
set_option maxHeartbeats 64000000 in
theorem pdoes21 {w : World} {f b : Nat} {F G : Nat → Prop} {S : Fs21} (hp : Fl21 w f F S) (hd : Rl21d w b G S) (hdj : ∀ k, F k → ¬ G k) (hO : Ok21 S) (ht : Tab w) (hlg : S.lg.length ≤ 4398046510000) (hft : ¬ F 1 ∧ ¬ G 1)
    (c a p nn : Int) (ba : Option Addr) (L : List Int) (n bc : Nat) (hof : Of21 w ⟨c, a, p, nn, ba, L, bc⟩) (hn : Hid (L.length = n)) (hln : n ≤ 140737488351232) (hab : ∀ k off, ba = some ⟨k, off, none⟩ → 0 < n → ¬ F k ∧ ¬ G k) :
    Calls Tryd.prog 16 #[.pointer (some ⟨f, 0, none⟩), .pointer (some ⟨b, 0, none⟩), .agg #[.int .i64 c, .int .i64 a, .int .i64 p, .int .i64 nn, .slice ba n bc]] w fun e w' => e = .returned (.bool true) ∧ ∃ F' G', Dv21 w w' f b F G F' G' (ds21 S c a p nn L) (ds21 S c a p nn L) := by
  obtain ⟨hsg, hcap, hnil, hci, hai, hpi, hni⟩ := hof
  simp only at hsg hcap hnil hci hai hpi hni
  have HI : Hid (In21 a ∧ In21 p ∧ In21 nn) := ⟨hai, hpi, hni⟩
  have HOK : Hid (Ok21 S ∧ S.lg.length ≤ 4398046510000 ∧ Ok21 (ds21 S c a p nn L) ∧ lgl21 S (ds21 S c a p nn L)) := ⟨hO, hlg, ok21_ds hO c a p nn hni L, lgl21_ds S c a p nn L⟩
  obtain ⟨gc, hgc⟩ : ∃ x, x = w.heap.size := ⟨_, rfl⟩
  obtain ⟨w1, hw1⟩ : ∃ x, x = w.alloc (.cells #[.int .i64 c, .int .i64 a, .int .i64 p, .int .i64 nn, .slice ba n bc] 39) := ⟨_, rfl⟩
  have HW1 : Hid (w.alloc (.cells #[.int .i64 c, .int .i64 a, .int .i64 p, .int .i64 nn, .slice ba n bc] 39) = w1 ∧ w.heap.size = gc) := ⟨hw1.symm, hgc.symm⟩
  have q1 : w1.heap[gc]? = some (.cells #[.int .i64 c, .int .i64 a, .int .i64 p, .int .i64 nn, .slice ba n bc] 39 (0, 0)) := by rw [hw1, hgc]; exact heap_alloc_new _ _
  have b1 : Below w.heap.size w w1 := by rw [hw1]; exact (Below.refl _ _).alloc (Nat.le_refl _) _
  have sz1 : w1.heap.size = gc + 1 := by rw [hw1, hgc]; simp
  have m4 : w1.cell? ⟨gc, 4, none⟩ = some (.slice ba n bc) := by simp [World.cell?, q1]
  have hln' := hn.out
  have HLN := lend_any ba L bc w1 (hsg.old b1) hnil (by omega)
  rw [hn.out] at HLN
  have HSG : Hid (Seg w ba L ∧ (ba = none → bc = 0) ∧ n ≤ bc ∧ n ≤ 140737488351232) := ⟨hsg, hnil, by rw [← hn.out]; exact hcap, hln⟩
  have HDV : Hid (Dv21 w1 w1 f b F G F G S S ∧ (∀ k, F k → k < gc) ∧ (∀ k, G k → k < gc) ∧ Below w.heap.size w w1) := by
    refine ⟨⟨hp.old b1, hd.old b1, hdj, fun k e => .inl e, fun k e => .inl e, Kp.refl _ _⟩, fun k e => ?_, fun k e => by rw [hgc]; exact hd.lts k e, b1⟩
    obtain ⟨m, c, f', ta, tc, la, lc, W, _, _, _, _, _, h6⟩ := hp
    rw [hgc]; exact h6 k e
  have HB1 : Hid (w1.heap[gc]? = some (.cells #[.int .i64 c, .int .i64 a, .int .i64 p, .int .i64 nn, .slice ba n bc] 39 (0, 0)) ∧ w1.heap.size = gc + 1) := ⟨q1, sz1⟩
  have HTB : Hid (Tab w) := ht
  have HFT : Hid (¬ F 1 ∧ ¬ G 1) := hft
  have HAB : Hid (∀ k off, ba = some ⟨k, off, none⟩ → 0 < n → ¬ F k ∧ ¬ G k) := hab
  clear hp hd hdj hO ht hlg hsg hcap hnil hci hai hpi hni hw1 hgc q1 b1 hft hab hln' sz1 hln
  go_enter Tryd.func16, Tryd.ntmps16
  go_upto_region 1 with fail
  rw [HW1.out.1, HW1.out.2]
  go_wp2_with fail
  refine HLN.mono ?_
  rintro e w2 ⟨gl, cap, rfl, o2, b2⟩
  have b12 : Below w1.heap.size w1 w2 := b2
  have q2 := (b2.block gc (by rw [HB1.out.2]; omega)).trans HB1.out.1
  have HBX : Hid (∀ V F' G' S1 S2, Dv21 w2 V f b F G F' G' S1 S2 → Bx21 w2 gc gl n cap ba bc c a p nn L V) := fun V F' G' S1 S2 hV => by
    have hgl := o2.lt gl rfl
    have hnF : ∀ k, gc ≤ k → ¬ F k ∧ ¬ G k := fun k hk => ⟨fun e => by have := HDV.out.2.1 k e; omega, fun e => by have := HDV.out.2.2.1 k e; omega⟩
    refine ⟨(hV.blk (Array.getElem?_eq_some_iff.1 q2).1 (hnF gc (Nat.le_refl _)).1 (hnF gc (Nat.le_refl _)).2).trans q2, ?_, hn.out, ?_⟩
    · have h2 : Seg w2 ba L := (HSG.out.1.old HDV.out.2.2.2).old b2
      refine h2.of_cells fun k off i v hi he hcl => ?_
      have lk := World.block_lt_of_cell? _ _ hcl
      have hx := HAB.out k off he (by have := hn.out; omega)
      rw [World.cell?_of_block (a := ⟨k, off + i, none⟩) (hV.blk lk hx.1 hx.2)]
      exact hcl
    · have := own_base21 o2 (show gc + 1 ≤ w1.heap.size by rw [HB1.out.2]; omega)
      exact own_kp21 this (fun k e => by cases e; exact hV.blk hgl.2 (hnF gl (by have := HB1.out.2; omega)).1 (hnF gl (by have := HB1.out.2; omega)).2)
  have HTV : Hid (∀ V F' G' S1 S2, Dv21 w2 V f b F G F' G' S1 S2 → Tab V) := fun V F' G' S1 S2 hV => by
    have h1 := (HTB.out.old HDV.out.2.2.2).old b2
    refine SegK.kp h1 hV.kk (fun x off e hp => by cases e; exact fun q => q.elim HFT.out.1 HFT.out.2)
  have HL2 : Hid (Dv21 w2 w2 f b F G F G S S ∧ w2.heap.size > gl ∧ gl > gc) := by
    have hgl := o2.lt gl rfl
    have h0 := HDV.out.1.below b2
    exact ⟨⟨h0.p, h0.d, h0.dj, fun k e => .inl e, fun k e => .inl e, Kp.refl _ _⟩, hgl.2, by have := HB1.out.2; omega⟩
  have HBW : Hid (Below w.heap.size w w2) := HDV.out.2.2.2.trans (b2.mono HDV.out.2.2.2.size)
  obtain ⟨m0, m1, m2, m3, m4'⟩ := (HBX.out _ _ _ _ _ HL2.out.1).c
  have HDW : Hid (∀ V F' G' S1 S2, Dv21 w2 V f b F G F' G' S1 S2 → Dv21 w V f b F G F' G' S1 S2) := fun V F' G' S1 S2 hV => by
    refine ⟨hV.p, hV.d, hV.dj, fun k e => (hV.fF k e).imp_right (fun q => Nat.le_trans HBW.out.size q), fun k e => (hV.gG k e).imp_right (fun q => Nat.le_trans HBW.out.size q), (Kp.of_below HBW.out).trans hV.kk (fun _ _ e => e)⟩
  have HCP : Hid (n + 5 ≤ cap) := by
    rcases o2.2 with ⟨h1, _⟩ | ⟨g', c', cu, h1, _, _, h4, _⟩
    · cases h1
    · cases h1; exact h4
  have HW2 : Hid (w.heap.size = gc) := HW1.out.2
  clear m4 HLN o2 b2 b12 q2 HW1
  go_upto_block 0 with fail
  go_cut [9] from 10 to 241 (fun s9 wc => ∃ F' G', s9 = .bool true ∧ Dv21 w2 wc f b F G F' G' (ds21 S c a p nn L) (ds21 S c a p nn L))
  case first =>
    by_cases k0 : c = 0
    · as_aux_lemma =>
      subst k0
      by_cases hr : rdE21 S a p nn = 0
      · as_aux_lemma =>
        go_wp2_with fail
        refine (pread21 HL2.out.1.p HOK.out.1 a p nn HI.out.1 HI.out.2.1 HI.out.2.2).mono ?_
        rintro e v1 ⟨b1, h1⟩
        rcases h1 with ⟨h, -⟩ | ⟨-, g1, rfl, hg1, r1⟩
        · exact absurd hr h
        obtain ⟨m, hm⟩ : ∃ m, m = nn.toNat := ⟨_, rfl⟩
        obtain ⟨R, hR⟩ : ∃ R, R = rb21 S a p.toNat m := ⟨_, rfl⟩
        have hRl : R.length = m := by rw [hR]; exact rb21_len _ _ _ _
        have hRb : ∀ z ∈ R, 0 ≤ z ∧ z ≤ 255 := by rw [hR]; exact rb21_bd21 (HL2.out.1.p.by) _ _ _
        have HM : Hid (m = nn.toNat ∧ R = rb21 S a p.toNat m) := ⟨hm, hR⟩
        rw [← hm, ← hR] at r1
        rw [← hm]
        have hml : m ≤ 9223372036854775807 := by rw [hm]; have := HI.out.2.2; unfold In21 at this; omega
        have HRB : Hid (R.length = m ∧ (∀ z ∈ R, 0 ≤ z ∧ z ≤ 255)) := ⟨hRl, hRb⟩
        have B1 : Hid (Below w2.heap.size w2 v1) := b1
        have HR1 : Hid (Rw21 v1 g1 R ∧ w2.heap.size ≤ g1) := ⟨r1, hg1⟩
        clear m0 m1 m2 m3 m4' b1 hm hR hRl hRb r1 hg1
        obtain ⟨m0, m1, m2, m3, m4'⟩ := (HBX.out _ _ _ _ _ (HL2.out.1.below B1.out)).c
        go_wp2_with fail
        refine (pread21 (HL2.out.1.below B1.out).p HOK.out.1 a p nn HI.out.1 HI.out.2.1 HI.out.2.2).mono ?_
        rintro e v2 ⟨b2, h2⟩
        rcases h2 with ⟨h, -⟩ | ⟨-, g2, rfl, hg2, r2⟩
        · exact absurd hr h
        rw [← HM.out.1, ← HM.out.2] at r2
        rw [← HM.out.1]
        have B12 : Hid (Below v1.heap.size v1 v2) := b2
        have B2 : Hid (Below w2.heap.size w2 v2) := B1.out.trans (b2.mono B1.out.size)
        have HR2 : Hid (Rw21 v2 g2 R ∧ v1.heap.size ≤ g2) := ⟨r2, hg2⟩
        clear m0 m1 m2 m3 m4' b2 r2 hg2
        obtain ⟨m0, m1, m2, m3, m4'⟩ := (HBX.out _ _ _ _ _ (HL2.out.1.below B2.out)).c
        go_wp2_with fail
        refine (rrdg21 (HL2.out.1.below B2.out).d HOK.out.1 a p nn HI.out.1 HI.out.2.1 HI.out.2.2).mono ?_
        rintro e v3 ⟨b3, h3⟩
        rcases h3 with ⟨h, -⟩ | ⟨-, ra, rc, rfl, o3⟩
        · exact absurd hr h
        rw [← HM.out.1, ← HM.out.2] at o3
        rw [← HM.out.1]
        have B23 : Hid (Below v2.heap.size v2 v3) := b3
        have B3 : Hid (Below w2.heap.size w2 v3) := B2.out.trans (b3.mono B2.out.size)
        have q1 : Rw21 v3 g1 R := rw_old21 (rw_old21 HR1.out.1 B12.out) B23.out
        have q2 : Rw21 v3 g2 R := rw_old21 HR2.out.1 B23.out
        have s1 := rw_seg21 q1 HRB.out.2
        have s2 := rw_seg21 q2 HRB.out.2
        obtain ⟨-, a5, c5, hv, s3, -⟩ := own_seg (M := 255) o3 (by decide) HRB.out.2
        injection hv with z1 z2 z3
        subst z1
        have SM1 := bsame_any (some ⟨g1, 0, none⟩) ra R R m rc v3 s1 s3
        have SM2 := bsame_any (some ⟨g2, 0, none⟩) ra R R m rc v3 s2 s3
        rw [HRB.out.1, beq_self_eq_true] at SM1 SM2
        have hmb : m ≤ 70368744177664 := rw_len21 HL2.out.1.p HOK.out.1 hr (by have := HM.out.1; omega)
        have hgg : g1 ≠ g2 := by have h1 := rw_lt21 HR1.out.1; have := HR2.out.2; omega
        have OW := own_twoX w2.heap.size (.slice (some ⟨g1, 0, none⟩) m m) (.slice (some ⟨g2, 0, none⟩) m m) R R v3 (ox_rw21 q1 HRB.out.1 HR1.out.2 (by omega)) (ox_rw21 q2 HRB.out.1 (Nat.le_trans B1.out.size HR2.out.2) (by omega)) (fun k e e' => by cases e; cases e'; exact hgg rfl) (by rw [HRB.out.1]; omega) (by rw [HRB.out.1]; omega) B3.out.size
        clear m0 m1 m2 m3 m4' b3 o3 q1 q2 s1 s2 s3 z2 z3 hmb hgg
        go_wp2_with fail
        refine SM1.mono ?_
        rintro e v ⟨rfl, hw⟩
        subst v
        go_wp2_with fail
        refine SM2.mono ?_
        rintro e v ⟨rfl, hw⟩
        subst v
        clear SM1 SM2
        go_wp2_with fail
        refine OW.mono ?_
        rintro e v4 ⟨rfl, b4⟩
        have D4 : Hid (Dv21 w2 v4 f b F G F G S S) := HL2.out.1.below (B3.out.trans b4)
        clear OW b4
        go_wp2_with fail
        go_meet
        case rel => exact ⟨F, G, by simp, D4.out⟩
      · as_aux_lemma =>
        go_wp2_with fail
        refine (pread21 HL2.out.1.p HOK.out.1 a p nn HI.out.1 HI.out.2.1 HI.out.2.2).mono ?_
        rintro e v1 ⟨b1, h1⟩
        rcases h1 with ⟨-, rfl⟩ | ⟨h, -⟩
        rotate_left
        · exact absurd h hr
        have B1 : Hid (Below w2.heap.size w2 v1) := b1
        clear m0 m1 m2 m3 m4' b1
        obtain ⟨m0, m1, m2, m3, m4'⟩ := (HBX.out _ _ _ _ _ (HL2.out.1.below B1.out)).c
        go_wp2_with fail
        refine (pread21 (HL2.out.1.below B1.out).p HOK.out.1 a p nn HI.out.1 HI.out.2.1 HI.out.2.2).mono ?_
        rintro e v2 ⟨b2, h2⟩
        rcases h2 with ⟨-, rfl⟩ | ⟨h, -⟩
        rotate_left
        · exact absurd h hr
        have B2 : Hid (Below w2.heap.size w2 v2) := B1.out.trans (b2.mono B1.out.size)
        clear m0 m1 m2 m3 m4' b2
        obtain ⟨m0, m1, m2, m3, m4'⟩ := (HBX.out _ _ _ _ _ (HL2.out.1.below B2.out)).c
        go_wp2_with fail
        refine (rrdg21 (HL2.out.1.below B2.out).d HOK.out.1 a p nn HI.out.1 HI.out.2.1 HI.out.2.2).mono ?_
        rintro e v3 ⟨b3, h3⟩
        rcases h3 with ⟨-, rfl⟩ | ⟨h, -⟩
        rotate_left
        · exact absurd h hr
        have B3 : Hid (Below w2.heap.size w2 v3) := B2.out.trans (b3.mono B2.out.size)
        have SM1 := bsame_any none none [] [] 0 0 v3 (SegK.nil (by decide) _ _) (SegK.nil (by decide) _ _)
        rw [beq_self_eq_true] at SM1
        have OW := own_two w2.heap.size (.slice none 0 0) (.slice none 0 0) [] [] v3 (World.ownsRow_nil _ _ _ _) (World.ownsRow_nil _ _ _ _) (fun k e _ => by cases e) (by decide) (by decide) B3.out.size
        obtain ⟨E, hE⟩ : ∃ E, E = rdE21 S a p nn := ⟨_, rfl⟩
        rw [← hE]
        clear m0 m1 m2 m3 m4' b3 hE hr
        go_wp2_with fail
        refine SM1.mono ?_
        rintro e v ⟨rfl, hw⟩
        subst v
        go_wp2_with fail
        refine SM1.mono ?_
        rintro e v ⟨rfl, hw⟩
        subst v
        clear SM1
        go_wp2_with fail
        refine OW.mono ?_
        rintro e v4 ⟨rfl, b4⟩
        have D4 : Hid (Dv21 w2 v4 f b F G F G S S) := HL2.out.1.below (B3.out.trans b4)
        clear OW b4
        go_wp2_with fail
        go_meet
        case rel => exact ⟨F, G, by simp, D4.out⟩
    by_cases k1 : c = 1
    · as_aux_lemma =>
      subst k1
      clear k0
      go_upto_region 11 with fail
      obtain ⟨v0, hv0⟩ : ∃ v, v = w2.drew := ⟨_, rfl⟩
      have HV0 : Hid (w2.drew = v0) := hv0.symm
      have D0 : Hid (Dv21 w2 v0 f b F G F G S S) := by rw [hv0]; exact HL2.out.1.below (Below.refl _ _).drew
      clear hv0 m0 m1 m2 m3 m4'
      refine plain_region16 (fun V => V.cell? ⟨gc, 0, none⟩ = some (.int .i64 1) ∧ V.cell? ⟨gc, 1, none⟩ = some (.int .i64 a) ∧ V.cell? ⟨gc, 2, none⟩ = some (.int .i64 p) ∧ V.cell? ⟨gc, 3, none⟩ = some (.int .i64 nn) ∧ V.cell? ⟨gc, 4, none⟩ = some (.slice ba n bc)) 14 (by kernel_rfl) (by rw [HV0.out]; exact (HBX.out _ _ _ _ _ D0.out).c) (fun hHeld => ?_)
      rw [HV0.out] at hHeld ⊢
      refine wpAnyK_take (i := 0) (v := .pointer (some ⟨f, 0, none⟩)) rfl (by kernel_rfl) (by kernel_rfl) (by kernel_rfl) (by kernel_rfl) (fun _ _ _ h => h) (Or.inl ⟨by rfl, fun w hSw => by go_simp⟩) hHeld ?_
      simp only [List.getElem_toArray, List.getElem_cons_zero, Act.put, List.setIfInBounds_toArray, List.set_cons_zero, List.set_cons_succ]
      refine wpAnyK_take (i := 1) (v := .pointer (some ⟨gc, 1, none⟩)) rfl (by kernel_rfl) (by kernel_rfl) (by kernel_rfl) (by kernel_rfl) (fun _ _ _ h => h) (Or.inl ⟨by rfl, fun w hSw => by go_simp⟩) hHeld ?_
      simp only [List.getElem_toArray, List.getElem_cons_zero, List.getElem_cons_succ, Act.put, List.setIfInBounds_toArray, List.set_cons_zero, List.set_cons_succ]
      refine wpAnyK_take (i := 2) (v := .int .i64 a) rfl (by kernel_rfl) (by kernel_rfl) (by kernel_rfl) (by kernel_rfl) (fun _ _ _ h => h) (Or.inl ⟨by rfl, fun w hSw => by go_simp⟩) hHeld ?_
      simp only [List.getElem_toArray, List.getElem_cons_zero, List.getElem_cons_succ, Act.put, List.setIfInBounds_toArray, List.set_cons_zero, List.set_cons_succ]
      refine wpAnyK_take (i := 3) (v := .pointer (some ⟨gc, 2, none⟩)) rfl (by kernel_rfl) (by kernel_rfl) (by kernel_rfl) (by kernel_rfl) (fun _ _ _ h => h) (Or.inl ⟨by rfl, fun w hSw => by go_simp⟩) hHeld ?_
      simp only [List.getElem_toArray, List.getElem_cons_zero, List.getElem_cons_succ, Act.put, List.setIfInBounds_toArray, List.set_cons_zero, List.set_cons_succ]
      refine wpAnyK_take (i := 4) (v := .int .i64 p) rfl (by kernel_rfl) (by kernel_rfl) (by kernel_rfl) (by kernel_rfl) (fun _ _ _ h => h) (Or.inl ⟨by rfl, fun w hSw => by go_simp⟩) hHeld ?_
      simp only [List.getElem_toArray, List.getElem_cons_zero, List.getElem_cons_succ, Act.put, List.setIfInBounds_toArray, List.set_cons_zero, List.set_cons_succ]
      refine wpAnyK_take (i := 6) (v := .pointer (some ⟨b, 0, none⟩)) rfl (by kernel_rfl) (by kernel_rfl) (by kernel_rfl) (by kernel_rfl) (fun _ _ _ h => h) (Or.inl ⟨by rfl, fun w hSw => by go_simp⟩) hHeld ?_
      simp only [List.getElem_toArray, List.getElem_cons_zero, List.getElem_cons_succ, Act.put, List.setIfInBounds_toArray, List.set_cons_zero, List.set_cons_succ]
      refine wpAnyK_take (i := 7) (v := .pointer (some ⟨gc, 1, none⟩)) rfl (by kernel_rfl) (by kernel_rfl) (by kernel_rfl) (by kernel_rfl) (fun _ _ _ h => h) (Or.inl ⟨by rfl, fun w hSw => by go_simp⟩) hHeld ?_
      simp only [List.getElem_toArray, List.getElem_cons_zero, List.getElem_cons_succ, Act.put, List.setIfInBounds_toArray, List.set_cons_zero, List.set_cons_succ]
      refine wpAnyK_take (i := 8) (v := .int .i64 a) rfl (by kernel_rfl) (by kernel_rfl) (by kernel_rfl) (by kernel_rfl) (fun _ _ _ h => h) (Or.inl ⟨by rfl, fun w hSw => by go_simp⟩) hHeld ?_
      simp only [List.getElem_toArray, List.getElem_cons_zero, List.getElem_cons_succ, Act.put, List.setIfInBounds_toArray, List.set_cons_zero, List.set_cons_succ]
      refine wpAnyK_take (i := 9) (v := .pointer (some ⟨gc, 2, none⟩)) rfl (by kernel_rfl) (by kernel_rfl) (by kernel_rfl) (by kernel_rfl) (fun _ _ _ h => h) (Or.inl ⟨by rfl, fun w hSw => by go_simp⟩) hHeld ?_
      simp only [List.getElem_toArray, List.getElem_cons_zero, List.getElem_cons_succ, Act.put, List.setIfInBounds_toArray, List.set_cons_zero, List.set_cons_succ]
      refine wpAnyK_take (i := 10) (v := .int .i64 p) rfl (by kernel_rfl) (by kernel_rfl) (by kernel_rfl) (by kernel_rfl) (fun _ _ _ h => h) (Or.inl ⟨by rfl, fun w hSw => by go_simp⟩) hHeld ?_
      simp only [List.getElem_toArray, List.getElem_cons_zero, List.getElem_cons_succ, Act.put, List.setIfInBounds_toArray, List.set_cons_zero, List.set_cons_succ]
      refine wpAnyK_one (i := 5) (by kernel_rfl) rfl (fun K hK => ?_)
      (try simp only [List.getElem_toArray, List.getElem_cons_zero, List.getElem_cons_succ, Act.put, List.setIfInBounds_toArray, List.set_cons_zero, List.set_cons_succ])
      go_simp
      refine (perase21 D0.out.p HOK.out.1 a p HI.out.1 HI.out.2.1 (by have := HOK.out.2.1; omega)).mono ?_
      rintro e v1 ⟨rfl, hn1⟩
      obtain ⟨F1, hD1⟩ := D0.out.prog hn1
      have D1 : Hid (Dv21 w2 v1 f b F G F1 G (erS21 S a p) S) := hD1
      clear hn1 hD1
      refine hK.out _ _ (fun _ => (HBX.out _ _ _ _ _ D1.out).c) (fun hHeld0 => ?_)
      have hHeld := hHeld0 (by decide)
      clear hHeld0 hK K
      (try simp only [List.getElem_toArray, List.getElem_cons_zero, List.getElem_cons_succ, Act.put, List.setIfInBounds_toArray, List.set_cons_zero, List.set_cons_succ])
      refine wpAnyK_one (i := 11) (by kernel_rfl) rfl (fun K hK => ?_)
      (try simp only [List.getElem_toArray, List.getElem_cons_zero, List.getElem_cons_succ, Act.put, List.setIfInBounds_toArray, List.set_cons_zero, List.set_cons_succ])
      go_simp
      refine (rers21 D1.out.d HOK.out.1 a p HI.out.1 HI.out.2.1 (by have := HOK.out.2.1; omega)).mono ?_
      rintro e v2 ⟨rfl, hn2⟩
      obtain ⟨G2, hD2⟩ := D1.out.doc hn2
      have D2 : Hid (Dv21 w2 v2 f b F G F1 G2 (erS21 S a p) (erS21 S a p)) := hD2
      clear hn2 hD2
      refine hK.out _ _ (fun _ => (HBX.out _ _ _ _ _ D2.out).c) (fun hHeld0 => ?_)
      have hHeld := hHeld0 (by decide)
      clear hHeld0 hK K
      (try simp only [List.getElem_toArray, List.getElem_cons_zero, List.getElem_cons_succ, Act.put, List.setIfInBounds_toArray, List.set_cons_zero, List.set_cons_succ])
      refine wpAnyK_one (i := 12) (by kernel_rfl) rfl (fun K hK => ?_)
      (try simp only [List.getElem_toArray, List.getElem_cons_zero, List.getElem_cons_succ, Act.put, List.setIfInBounds_toArray, List.set_cons_zero, List.set_cons_succ])
      go_simp
      refine hK.out _ _ (fun _ => hHeld) (fun hHeld0 => ?_)
      have hHeld := hHeld0 (by decide)
      clear hHeld0 hK K
      (try simp only [List.getElem_toArray, List.getElem_cons_zero, List.getElem_cons_succ, Act.put, List.setIfInBounds_toArray, List.set_cons_zero, List.set_cons_succ])
      refine wpAnyK_one (i := 13) (by kernel_rfl) rfl (fun K hK => ?_)
      (try simp only [List.getElem_toArray, List.getElem_cons_zero, List.getElem_cons_succ, Act.put, List.setIfInBounds_toArray, List.set_cons_zero, List.set_cons_succ])
      go_simp
      refine hK.out _ _ (fun _ => hHeld) (fun _ => ?_)
      clear hK K hHeld
      refine wpAnyK_done (by kernel_rfl) ?_ _
      go_wp2_with fail
      go_meet
      case rel => exact ⟨F1, G2, by simp, D2.out⟩
    by_cases k2 : c = 2
    · as_aux_lemma =>
      subst k2
      clear k0
      clear k1
      go_upto_region 13 with fail
      obtain ⟨v0, hv0⟩ : ∃ v, v = w2.drew := ⟨_, rfl⟩
      have HV0 : Hid (w2.drew = v0) := hv0.symm
      have D0 : Hid (Dv21 w2 v0 f b F G F G S S) := by rw [hv0]; exact HL2.out.1.below (Below.refl _ _).drew
      clear hv0 m0 m1 m2 m3 m4'
      refine plain_region16 (fun V => V.cell? ⟨gc, 0, none⟩ = some (.int .i64 2) ∧ V.cell? ⟨gc, 1, none⟩ = some (.int .i64 a) ∧ V.cell? ⟨gc, 2, none⟩ = some (.int .i64 p) ∧ V.cell? ⟨gc, 3, none⟩ = some (.int .i64 nn) ∧ V.cell? ⟨gc, 4, none⟩ = some (.slice ba n bc)) 17 (by kernel_rfl) (by rw [HV0.out]; exact (HBX.out _ _ _ _ _ D0.out).c) (fun hHeld => ?_)
      rw [HV0.out] at hHeld ⊢
      refine wpAnyK_take (i := 0) (v := .pointer (some ⟨f, 0, none⟩)) rfl (by kernel_rfl) (by kernel_rfl) (by kernel_rfl) (by kernel_rfl) (fun _ _ _ h => h) (Or.inl ⟨by rfl, fun w hSw => by go_simp⟩) hHeld ?_
      simp only [List.getElem_toArray, List.getElem_cons_zero, Act.put, List.setIfInBounds_toArray, List.set_cons_zero, List.set_cons_succ]
      refine wpAnyK_take (i := 1) (v := .pointer (some ⟨gc, 1, none⟩)) rfl (by kernel_rfl) (by kernel_rfl) (by kernel_rfl) (by kernel_rfl) (fun _ _ _ h => h) (Or.inl ⟨by rfl, fun w hSw => by go_simp⟩) hHeld ?_
      simp only [List.getElem_toArray, List.getElem_cons_zero, List.getElem_cons_succ, Act.put, List.setIfInBounds_toArray, List.set_cons_zero, List.set_cons_succ]
      refine wpAnyK_take (i := 2) (v := .int .i64 a) rfl (by kernel_rfl) (by kernel_rfl) (by kernel_rfl) (by kernel_rfl) (fun _ _ _ h => h) (Or.inl ⟨by rfl, fun w hSw => by go_simp⟩) hHeld ?_
      simp only [List.getElem_toArray, List.getElem_cons_zero, List.getElem_cons_succ, Act.put, List.setIfInBounds_toArray, List.set_cons_zero, List.set_cons_succ]
      refine wpAnyK_take (i := 3) (v := .pointer (some ⟨gc, 2, none⟩)) rfl (by kernel_rfl) (by kernel_rfl) (by kernel_rfl) (by kernel_rfl) (fun _ _ _ h => h) (Or.inl ⟨by rfl, fun w hSw => by go_simp⟩) hHeld ?_
      simp only [List.getElem_toArray, List.getElem_cons_zero, List.getElem_cons_succ, Act.put, List.setIfInBounds_toArray, List.set_cons_zero, List.set_cons_succ]
      refine wpAnyK_take (i := 4) (v := .int .i64 p) rfl (by kernel_rfl) (by kernel_rfl) (by kernel_rfl) (by kernel_rfl) (fun _ _ _ h => h) (Or.inl ⟨by rfl, fun w hSw => by go_simp⟩) hHeld ?_
      simp only [List.getElem_toArray, List.getElem_cons_zero, List.getElem_cons_succ, Act.put, List.setIfInBounds_toArray, List.set_cons_zero, List.set_cons_succ]
      refine wpAnyK_take (i := 5) (v := .slice (some ⟨gl, 0, none⟩) n cap) rfl (by kernel_rfl) (by kernel_rfl) (by kernel_rfl) (by kernel_rfl) (fun _ _ _ h => h) (Or.inl ⟨by rfl, fun w hSw => by go_simp⟩) hHeld ?_
      simp only [List.getElem_toArray, List.getElem_cons_zero, List.getElem_cons_succ, Act.put, List.setIfInBounds_toArray, List.set_cons_zero, List.set_cons_succ]
      refine wpAnyK_take (i := 7) (v := .pointer (some ⟨b, 0, none⟩)) rfl (by kernel_rfl) (by kernel_rfl) (by kernel_rfl) (by kernel_rfl) (fun _ _ _ h => h) (Or.inl ⟨by rfl, fun w hSw => by go_simp⟩) hHeld ?_
      simp only [List.getElem_toArray, List.getElem_cons_zero, List.getElem_cons_succ, Act.put, List.setIfInBounds_toArray, List.set_cons_zero, List.set_cons_succ]
      refine wpAnyK_take (i := 8) (v := .pointer (some ⟨gc, 1, none⟩)) rfl (by kernel_rfl) (by kernel_rfl) (by kernel_rfl) (by kernel_rfl) (fun _ _ _ h => h) (Or.inl ⟨by rfl, fun w hSw => by go_simp⟩) hHeld ?_
      simp only [List.getElem_toArray, List.getElem_cons_zero, List.getElem_cons_succ, Act.put, List.setIfInBounds_toArray, List.set_cons_zero, List.set_cons_succ]
      refine wpAnyK_take (i := 9) (v := .int .i64 a) rfl (by kernel_rfl) (by kernel_rfl) (by kernel_rfl) (by kernel_rfl) (fun _ _ _ h => h) (Or.inl ⟨by rfl, fun w hSw => by go_simp⟩) hHeld ?_
      simp only [List.getElem_toArray, List.getElem_cons_zero, List.getElem_cons_succ, Act.put, List.setIfInBounds_toArray, List.set_cons_zero, List.set_cons_succ]
      refine wpAnyK_take (i := 10) (v := .pointer (some ⟨gc, 2, none⟩)) rfl (by kernel_rfl) (by kernel_rfl) (by kernel_rfl) (by kernel_rfl) (fun _ _ _ h => h) (Or.inl ⟨by rfl, fun w hSw => by go_simp⟩) hHeld ?_
      simp only [List.getElem_toArray, List.getElem_cons_zero, List.getElem_cons_succ, Act.put, List.setIfInBounds_toArray, List.set_cons_zero, List.set_cons_succ]
      refine wpAnyK_take (i := 11) (v := .int .i64 p) rfl (by kernel_rfl) (by kernel_rfl) (by kernel_rfl) (by kernel_rfl) (fun _ _ _ h => h) (Or.inl ⟨by rfl, fun w hSw => by go_simp⟩) hHeld ?_
      simp only [List.getElem_toArray, List.getElem_cons_zero, List.getElem_cons_succ, Act.put, List.setIfInBounds_toArray, List.set_cons_zero, List.set_cons_succ]
      refine wpAnyK_take (i := 12) (v := .pointer (some ⟨gc, 4, none⟩)) rfl (by kernel_rfl) (by kernel_rfl) (by kernel_rfl) (by kernel_rfl) (fun _ _ _ h => h) (Or.inl ⟨by rfl, fun w hSw => by go_simp⟩) hHeld ?_
      simp only [List.getElem_toArray, List.getElem_cons_zero, List.getElem_cons_succ, Act.put, List.setIfInBounds_toArray, List.set_cons_zero, List.set_cons_succ]
      refine wpAnyK_take (i := 13) (v := .slice ba n bc) rfl (by kernel_rfl) (by kernel_rfl) (by kernel_rfl) (by kernel_rfl) (fun _ _ _ h => h) (Or.inl ⟨by rfl, fun w hSw => by go_simp⟩) hHeld ?_
      simp only [List.getElem_toArray, List.getElem_cons_zero, List.getElem_cons_succ, Act.put, List.setIfInBounds_toArray, List.set_cons_zero, List.set_cons_succ]
      refine wpAnyK_one (i := 6) (by kernel_rfl) rfl (fun K hK => ?_)
      (try simp only [List.getElem_toArray, List.getElem_cons_zero, List.getElem_cons_succ, Act.put, List.setIfInBounds_toArray, List.set_cons_zero, List.set_cons_succ])
      go_simp
      refine (pprog21 D0.out.p HOK.out.1 a p HI.out.1 HI.out.2.1 (by have := HOK.out.2.1; omega) (some ⟨gl, 0, none⟩) L n cap ((HBX.out _ _ _ _ _ D0.out).part) (HBX.out _ _ _ _ _ D0.out).ln (fun e => by cases e)).mono ?_
      rintro e v1 ⟨rfl, hn1⟩
      obtain ⟨F1, hD1⟩ := D0.out.prog hn1
      have D1 : Hid (Dv21 w2 v1 f b F G F1 G (pgS21 S a p L) S) := hD1
      clear hn1 hD1
      refine hK.out _ _ (fun _ => (HBX.out _ _ _ _ _ D1.out).c) (fun hHeld0 => ?_)
      have hHeld := hHeld0 (by decide)
      clear hHeld0 hK K
      (try simp only [List.getElem_toArray, List.getElem_cons_zero, List.getElem_cons_succ, Act.put, List.setIfInBounds_toArray, List.set_cons_zero, List.set_cons_succ])
      refine wpAnyK_one (i := 14) (by kernel_rfl) rfl (fun K hK => ?_)
      (try simp only [List.getElem_toArray, List.getElem_cons_zero, List.getElem_cons_succ, Act.put, List.setIfInBounds_toArray, List.set_cons_zero, List.set_cons_succ])
      go_simp
      refine (rprg21 D1.out.d HOK.out.1 a p HI.out.1 HI.out.2.1 (by have := HOK.out.2.1; omega) ba L n bc (HBX.out _ _ _ _ _ D1.out).sg (HBX.out _ _ _ _ _ D1.out).ln (fun x off e h0 => (HAB.out x off e h0).2)).mono ?_
      rintro e v2 ⟨rfl, hn2⟩
      obtain ⟨G2, hD2⟩ := D1.out.doc hn2
      have D2 : Hid (Dv21 w2 v2 f b F G F1 G2 (pgS21 S a p L) (pgS21 S a p L)) := hD2
      clear hn2 hD2
      refine hK.out _ _ (fun _ => (HBX.out _ _ _ _ _ D2.out).c) (fun hHeld0 => ?_)
      have hHeld := hHeld0 (by decide)
      clear hHeld0 hK K
      (try simp only [List.getElem_toArray, List.getElem_cons_zero, List.getElem_cons_succ, Act.put, List.setIfInBounds_toArray, List.set_cons_zero, List.set_cons_succ])
      refine wpAnyK_one (i := 15) (by kernel_rfl) rfl (fun K hK => ?_)
      (try simp only [List.getElem_toArray, List.getElem_cons_zero, List.getElem_cons_succ, Act.put, List.setIfInBounds_toArray, List.set_cons_zero, List.set_cons_succ])
      go_simp
      refine hK.out _ _ (fun _ => hHeld) (fun hHeld0 => ?_)
      have hHeld := hHeld0 (by decide)
      clear hHeld0 hK K
      (try simp only [List.getElem_toArray, List.getElem_cons_zero, List.getElem_cons_succ, Act.put, List.setIfInBounds_toArray, List.set_cons_zero, List.set_cons_succ])
      refine wpAnyK_one (i := 16) (by kernel_rfl) rfl (fun K hK => ?_)
      (try simp only [List.getElem_toArray, List.getElem_cons_zero, List.getElem_cons_succ, Act.put, List.setIfInBounds_toArray, List.set_cons_zero, List.set_cons_succ])
      go_simp
      refine hK.out _ _ (fun _ => hHeld) (fun _ => ?_)
      clear hK K hHeld
      refine wpAnyK_done (by kernel_rfl) ?_ _
      go_wp2_with fail
      go_meet
      case rel => exact ⟨F1, G2, by simp, D2.out⟩
    by_cases k3 : c = 3
    · as_aux_lemma =>
      subst k3
      clear k0
      clear k1
      clear k2
      go_wp2_with fail
      refine (perd21 HL2.out.1.p HOK.out.1 a p HI.out.1 HI.out.2.1).mono ?_
      rintro e v1 ⟨rfl, b1⟩
      have D1 : Hid (Dv21 w2 v1 f b F G F G S S) := HL2.out.1.below b1
      clear m0 m1 m2 m3 m4' b1
      obtain ⟨m0, m1, m2, m3, m4'⟩ := (HBX.out _ _ _ _ _ D1.out).c
      go_wp2_with fail
      refine (rerd21 D1.out.d HOK.out.1 a p HI.out.1 HI.out.2.1).mono ?_
      rintro e v2 ⟨rfl, hw⟩
      subst v2
      go_wp2_with fail
      go_meet
      case rel => exact ⟨F, G, by simp, D1.out⟩
    by_cases k4 : c = 4
    · as_aux_lemma =>
      subst k4
      clear k0
      clear k1
      clear k2
      clear k3
      go_upto_region 19 with fail
      obtain ⟨v0, hv0⟩ : ∃ v, v = w2.drew := ⟨_, rfl⟩
      have HV0 : Hid (w2.drew = v0) := hv0.symm
      have D0 : Hid (Dv21 w2 v0 f b F G F G S S) := by rw [hv0]; exact HL2.out.1.below (Below.refl _ _).drew
      clear hv0 m0 m1 m2 m3 m4'
      refine plain_region16 (fun V => V.cell? ⟨gc, 0, none⟩ = some (.int .i64 4) ∧ V.cell? ⟨gc, 1, none⟩ = some (.int .i64 a) ∧ V.cell? ⟨gc, 2, none⟩ = some (.int .i64 p) ∧ V.cell? ⟨gc, 3, none⟩ = some (.int .i64 nn) ∧ V.cell? ⟨gc, 4, none⟩ = some (.slice ba n bc)) 13 (by kernel_rfl) (by rw [HV0.out]; exact (HBX.out _ _ _ _ _ D0.out).c) (fun hHeld => ?_)
      rw [HV0.out] at hHeld ⊢
      refine wpAnyK_take (i := 0) (v := .pointer (some ⟨f, 0, none⟩)) rfl (by kernel_rfl) (by kernel_rfl) (by kernel_rfl) (by kernel_rfl) (fun _ _ _ h => h) (Or.inl ⟨by rfl, fun w hSw => by go_simp⟩) hHeld ?_
      simp only [List.getElem_toArray, List.getElem_cons_zero, Act.put, List.setIfInBounds_toArray, List.set_cons_zero, List.set_cons_succ]
      refine wpAnyK_take (i := 1) (v := .pointer (some ⟨gc, 3, none⟩)) rfl (by kernel_rfl) (by kernel_rfl) (by kernel_rfl) (by kernel_rfl) (fun _ _ _ h => h) (Or.inl ⟨by rfl, fun w hSw => by go_simp⟩) hHeld ?_
      simp only [List.getElem_toArray, List.getElem_cons_zero, List.getElem_cons_succ, Act.put, List.setIfInBounds_toArray, List.set_cons_zero, List.set_cons_succ]
      refine wpAnyK_take (i := 2) (v := .int .i64 nn) rfl (by kernel_rfl) (by kernel_rfl) (by kernel_rfl) (by kernel_rfl) (fun _ _ _ h => h) (Or.inl ⟨by rfl, fun w hSw => by go_simp⟩) hHeld ?_
      simp only [List.getElem_toArray, List.getElem_cons_zero, List.getElem_cons_succ, Act.put, List.setIfInBounds_toArray, List.set_cons_zero, List.set_cons_succ]
      refine wpAnyK_take (i := 3) (v := .slice (some ⟨gl, 0, none⟩) n cap) rfl (by kernel_rfl) (by kernel_rfl) (by kernel_rfl) (by kernel_rfl) (fun _ _ _ h => h) (Or.inl ⟨by rfl, fun w hSw => by go_simp⟩) hHeld ?_
      simp only [List.getElem_toArray, List.getElem_cons_zero, List.getElem_cons_succ, Act.put, List.setIfInBounds_toArray, List.set_cons_zero, List.set_cons_succ]
      refine wpAnyK_take (i := 5) (v := .pointer (some ⟨b, 0, none⟩)) rfl (by kernel_rfl) (by kernel_rfl) (by kernel_rfl) (by kernel_rfl) (fun _ _ _ h => h) (Or.inl ⟨by rfl, fun w hSw => by go_simp⟩) hHeld ?_
      simp only [List.getElem_toArray, List.getElem_cons_zero, List.getElem_cons_succ, Act.put, List.setIfInBounds_toArray, List.set_cons_zero, List.set_cons_succ]
      refine wpAnyK_take (i := 6) (v := .pointer (some ⟨gc, 3, none⟩)) rfl (by kernel_rfl) (by kernel_rfl) (by kernel_rfl) (by kernel_rfl) (fun _ _ _ h => h) (Or.inl ⟨by rfl, fun w hSw => by go_simp⟩) hHeld ?_
      simp only [List.getElem_toArray, List.getElem_cons_zero, List.getElem_cons_succ, Act.put, List.setIfInBounds_toArray, List.set_cons_zero, List.set_cons_succ]
      refine wpAnyK_take (i := 7) (v := .int .i64 nn) rfl (by kernel_rfl) (by kernel_rfl) (by kernel_rfl) (by kernel_rfl) (fun _ _ _ h => h) (Or.inl ⟨by rfl, fun w hSw => by go_simp⟩) hHeld ?_
      simp only [List.getElem_toArray, List.getElem_cons_zero, List.getElem_cons_succ, Act.put, List.setIfInBounds_toArray, List.set_cons_zero, List.set_cons_succ]
      refine wpAnyK_take (i := 8) (v := .pointer (some ⟨gc, 4, none⟩)) rfl (by kernel_rfl) (by kernel_rfl) (by kernel_rfl) (by kernel_rfl) (fun _ _ _ h => h) (Or.inl ⟨by rfl, fun w hSw => by go_simp⟩) hHeld ?_
      simp only [List.getElem_toArray, List.getElem_cons_zero, List.getElem_cons_succ, Act.put, List.setIfInBounds_toArray, List.set_cons_zero, List.set_cons_succ]
      refine wpAnyK_take (i := 9) (v := .slice ba n bc) rfl (by kernel_rfl) (by kernel_rfl) (by kernel_rfl) (by kernel_rfl) (fun _ _ _ h => h) (Or.inl ⟨by rfl, fun w hSw => by go_simp⟩) hHeld ?_
      simp only [List.getElem_toArray, List.getElem_cons_zero, List.getElem_cons_succ, Act.put, List.setIfInBounds_toArray, List.set_cons_zero, List.set_cons_succ]
      refine wpAnyK_one (i := 4) (by kernel_rfl) rfl (fun K hK => ?_)
      (try simp only [List.getElem_toArray, List.getElem_cons_zero, List.getElem_cons_succ, Act.put, List.setIfInBounds_toArray, List.set_cons_zero, List.set_cons_succ])
      go_simp
      refine (pcut21 D0.out.p HOK.out.1 nn (some ⟨gl, 0, none⟩) L n cap ((HBX.out _ _ _ _ _ D0.out).part) (HBX.out _ _ _ _ _ D0.out).ln (fun e => by cases e)).mono ?_
      rintro e v1 ⟨rfl, hn1⟩
      obtain ⟨F1, hD1⟩ := D0.out.prog hn1
      have D1 : Hid (Dv21 w2 v1 f b F G F1 G (cuS21 S nn L) S) := hD1
      clear hn1 hD1
      refine hK.out _ _ (fun _ => (HBX.out _ _ _ _ _ D1.out).c) (fun hHeld0 => ?_)
      have hHeld := hHeld0 (by decide)
      clear hHeld0 hK K
      (try simp only [List.getElem_toArray, List.getElem_cons_zero, List.getElem_cons_succ, Act.put, List.setIfInBounds_toArray, List.set_cons_zero, List.set_cons_succ])
      refine wpAnyK_one (i := 10) (by kernel_rfl) rfl (fun K hK => ?_)
      (try simp only [List.getElem_toArray, List.getElem_cons_zero, List.getElem_cons_succ, Act.put, List.setIfInBounds_toArray, List.set_cons_zero, List.set_cons_succ])
      go_simp
      refine (rpln21 D1.out.d HOK.out.1 nn ba L n bc (HBX.out _ _ _ _ _ D1.out).sg (HBX.out _ _ _ _ _ D1.out).ln HSG.out.2.1 (by have := HSG.out.2.2.2; omega)).mono ?_
      rintro e v2 ⟨rfl, hn2⟩
      obtain ⟨G2, hD2⟩ := D1.out.doc hn2
      have D2 : Hid (Dv21 w2 v2 f b F G F1 G2 (cuS21 S nn L) (cuS21 S nn L)) := hD2
      clear hn2 hD2
      refine hK.out _ _ (fun _ => (HBX.out _ _ _ _ _ D2.out).c) (fun hHeld0 => ?_)
      have hHeld := hHeld0 (by decide)
      clear hHeld0 hK K
      (try simp only [List.getElem_toArray, List.getElem_cons_zero, List.getElem_cons_succ, Act.put, List.setIfInBounds_toArray, List.set_cons_zero, List.set_cons_succ])
      refine wpAnyK_one (i := 11) (by kernel_rfl) rfl (fun K hK => ?_)
      (try simp only [List.getElem_toArray, List.getElem_cons_zero, List.getElem_cons_succ, Act.put, List.setIfInBounds_toArray, List.set_cons_zero, List.set_cons_succ])
      go_simp
      refine hK.out _ _ (fun _ => hHeld) (fun hHeld0 => ?_)
      have hHeld := hHeld0 (by decide)
      clear hHeld0 hK K
      (try simp only [List.getElem_toArray, List.getElem_cons_zero, List.getElem_cons_succ, Act.put, List.setIfInBounds_toArray, List.set_cons_zero, List.set_cons_succ])
      refine wpAnyK_one (i := 12) (by kernel_rfl) rfl (fun K hK => ?_)
      (try simp only [List.getElem_toArray, List.getElem_cons_zero, List.getElem_cons_succ, Act.put, List.setIfInBounds_toArray, List.set_cons_zero, List.set_cons_succ])
      go_simp
      refine hK.out _ _ (fun _ => hHeld) (fun _ => ?_)
      clear hK K hHeld
      refine wpAnyK_done (by kernel_rfl) ?_ _
      go_wp2_with fail
      go_meet
      case rel => exact ⟨F1, G2, by simp, D2.out⟩
    by_cases k5 : c = 5
    · as_aux_lemma =>
      subst k5
      clear k0
      clear k1
      clear k2
      clear k3
      clear k4
      go_wp2_with fail
      refine (ppow21 HL2.out.1.p HOK.out.1).mono ?_
      rintro e v1 ⟨rfl, hn1⟩
      obtain ⟨F1, hD1⟩ := HL2.out.1.prog hn1
      have D1 : Hid (Dv21 w2 v1 f b F G F1 G { S with on := true } S) := hD1
      have hcl : v1.cell? ⟨b, 7, none⟩ = some (.bool (!S.on)) ∧ v1.frozen? ⟨b, 7, none⟩ = false := by
        obtain ⟨g, c, A, tn, ta, tc, la, lc, V, h1, -⟩ := hD1.d
        exact ⟨h1.cel (i := 7) rfl, h1.fr 7⟩
      obtain ⟨y7, f7⟩ := hcl
      obtain ⟨G2, hD2⟩ := hD1.doc hD1.d.power
      have D2 : Hid (Dv21 w2 (v1.setCell ⟨b, 7, none⟩ (.bool false)) f b F G F1 G2 { S with on := true } { S with on := true }) := hD2
      clear m0 m1 m2 m3 m4' hn1 hD1 hD2
      go_wp2_with fail
      go_meet
      case rel => exact ⟨F1, G2, rfl, D2.out⟩
    by_cases k6 : c = 6
    · as_aux_lemma =>
      subst k6
      clear k0
      clear k1
      clear k2
      clear k3
      clear k4
      clear k5
      go_wp2_with fail
      refine (ptrn21 HL2.out.1.p HOK.out.1).mono ?_
      rintro e v1 ⟨rfl, hn1⟩
      obtain ⟨F1, hD1⟩ := HL2.out.1.prog hn1
      have D1 : Hid (Dv21 w2 v1 f b F G F1 G (tuS21 S) S) := hD1
      clear m0 m1 m2 m3 m4' hn1 hD1
      go_wp2_with fail
      refine (rtrn21 D1.out.d HOK.out.1).mono ?_
      rintro e v2 ⟨rfl, hn2⟩
      obtain ⟨G2, hD2⟩ := D1.out.doc hn2
      have D2 : Hid (Dv21 w2 v2 f b F G F1 G2 (tuS21 S) (tuS21 S)) := hD2
      clear hn2 hD2
      go_wp2_with fail
      go_meet
      case rel => exact ⟨F1, G2, by simp, D2.out⟩
    by_cases k7 : c = 7
    · as_aux_lemma =>
      subst k7
      clear k0
      clear k1
      clear k2
      clear k3
      clear k4
      clear k5
      clear k6
      go_upto_region 26 with fail
      obtain ⟨v0, hv0⟩ : ∃ v, v = w2.drew := ⟨_, rfl⟩
      have HV0 : Hid (w2.drew = v0) := hv0.symm
      have D0 : Hid (Dv21 w2 v0 f b F G F G S S) := by rw [hv0]; exact HL2.out.1.below (Below.refl _ _).drew
      clear hv0 m0 m1 m2 m3 m4'
      refine plain_region16 (fun V => V.cell? ⟨gc, 0, none⟩ = some (.int .i64 7) ∧ V.cell? ⟨gc, 1, none⟩ = some (.int .i64 a) ∧ V.cell? ⟨gc, 2, none⟩ = some (.int .i64 p) ∧ V.cell? ⟨gc, 3, none⟩ = some (.int .i64 nn) ∧ V.cell? ⟨gc, 4, none⟩ = some (.slice ba n bc)) 10 (by kernel_rfl) (by rw [HV0.out]; exact (HBX.out _ _ _ _ _ D0.out).c) (fun hHeld => ?_)
      rw [HV0.out] at hHeld ⊢
      refine wpAnyK_take (i := 0) (v := .pointer (some ⟨f, 0, none⟩)) rfl (by kernel_rfl) (by kernel_rfl) (by kernel_rfl) (by kernel_rfl) (fun _ _ _ h => h) (Or.inl ⟨by rfl, fun w hSw => by go_simp⟩) hHeld ?_
      simp only [List.getElem_toArray, List.getElem_cons_zero, Act.put, List.setIfInBounds_toArray, List.set_cons_zero, List.set_cons_succ]
      refine wpAnyK_take (i := 1) (v := .pointer (some ⟨gc, 3, none⟩)) rfl (by kernel_rfl) (by kernel_rfl) (by kernel_rfl) (by kernel_rfl) (fun _ _ _ h => h) (Or.inl ⟨by rfl, fun w hSw => by go_simp⟩) hHeld ?_
      simp only [List.getElem_toArray, List.getElem_cons_zero, List.getElem_cons_succ, Act.put, List.setIfInBounds_toArray, List.set_cons_zero, List.set_cons_succ]
      refine wpAnyK_take (i := 2) (v := .int .i64 nn) rfl (by kernel_rfl) (by kernel_rfl) (by kernel_rfl) (by kernel_rfl) (fun _ _ _ h => h) (Or.inl ⟨by rfl, fun w hSw => by go_simp⟩) hHeld ?_
      simp only [List.getElem_toArray, List.getElem_cons_zero, List.getElem_cons_succ, Act.put, List.setIfInBounds_toArray, List.set_cons_zero, List.set_cons_succ]
      refine wpAnyK_take (i := 4) (v := .pointer (some ⟨b, 0, none⟩)) rfl (by kernel_rfl) (by kernel_rfl) (by kernel_rfl) (by kernel_rfl) (fun _ _ _ h => h) (Or.inl ⟨by rfl, fun w hSw => by go_simp⟩) hHeld ?_
      simp only [List.getElem_toArray, List.getElem_cons_zero, List.getElem_cons_succ, Act.put, List.setIfInBounds_toArray, List.set_cons_zero, List.set_cons_succ]
      refine wpAnyK_take (i := 5) (v := .pointer (some ⟨gc, 3, none⟩)) rfl (by kernel_rfl) (by kernel_rfl) (by kernel_rfl) (by kernel_rfl) (fun _ _ _ h => h) (Or.inl ⟨by rfl, fun w hSw => by go_simp⟩) hHeld ?_
      simp only [List.getElem_toArray, List.getElem_cons_zero, List.getElem_cons_succ, Act.put, List.setIfInBounds_toArray, List.set_cons_zero, List.set_cons_succ]
      refine wpAnyK_take (i := 6) (v := .int .i64 nn) rfl (by kernel_rfl) (by kernel_rfl) (by kernel_rfl) (by kernel_rfl) (fun _ _ _ h => h) (Or.inl ⟨by rfl, fun w hSw => by go_simp⟩) hHeld ?_
      simp only [List.getElem_toArray, List.getElem_cons_zero, List.getElem_cons_succ, Act.put, List.setIfInBounds_toArray, List.set_cons_zero, List.set_cons_succ]
      refine wpAnyK_one (i := 3) (by kernel_rfl) rfl (fun K hK => ?_)
      (try simp only [List.getElem_toArray, List.getElem_cons_zero, List.getElem_cons_succ, Act.put, List.setIfInBounds_toArray, List.set_cons_zero, List.set_cons_succ])
      go_simp
      refine (plim21 D0.out.p HOK.out.1 nn).mono ?_
      rintro e v1 ⟨rfl, hn1⟩
      obtain ⟨F1, hD1⟩ := D0.out.prog hn1
      have D1 : Hid (Dv21 w2 v1 f b F G F1 G (liS21 S nn) S) := hD1
      clear hn1 hD1
      refine hK.out _ _ (fun _ => (HBX.out _ _ _ _ _ D1.out).c) (fun hHeld0 => ?_)
      have hHeld := hHeld0 (by decide)
      clear hHeld0 hK K
      (try simp only [List.getElem_toArray, List.getElem_cons_zero, List.getElem_cons_succ, Act.put, List.setIfInBounds_toArray, List.set_cons_zero, List.set_cons_succ])
      refine wpAnyK_one (i := 7) (by kernel_rfl) rfl (fun K hK => ?_)
      (try simp only [List.getElem_toArray, List.getElem_cons_zero, List.getElem_cons_succ, Act.put, List.setIfInBounds_toArray, List.set_cons_zero, List.set_cons_succ])
      go_simp
      refine (rlim21 D1.out.d nn).mono ?_
      rintro e v2 ⟨rfl, hn2⟩
      obtain ⟨G2, hD2⟩ := D1.out.doc hn2
      have D2 : Hid (Dv21 w2 v2 f b F G F1 G2 (liS21 S nn) (liS21 S nn)) := hD2
      clear hn2 hD2
      refine hK.out _ _ (fun _ => (HBX.out _ _ _ _ _ D2.out).c) (fun hHeld0 => ?_)
      have hHeld := hHeld0 (by decide)
      clear hHeld0 hK K
      (try simp only [List.getElem_toArray, List.getElem_cons_zero, List.getElem_cons_succ, Act.put, List.setIfInBounds_toArray, List.set_cons_zero, List.set_cons_succ])
      refine wpAnyK_one (i := 8) (by kernel_rfl) rfl (fun K hK => ?_)
      (try simp only [List.getElem_toArray, List.getElem_cons_zero, List.getElem_cons_succ, Act.put, List.setIfInBounds_toArray, List.set_cons_zero, List.set_cons_succ])
      go_simp
      refine hK.out _ _ (fun _ => hHeld) (fun hHeld0 => ?_)
      have hHeld := hHeld0 (by decide)
      clear hHeld0 hK K
      (try simp only [List.getElem_toArray, List.getElem_cons_zero, List.getElem_cons_succ, Act.put, List.setIfInBounds_toArray, List.set_cons_zero, List.set_cons_succ])
      refine wpAnyK_one (i := 9) (by kernel_rfl) rfl (fun K hK => ?_)
      (try simp only [List.getElem_toArray, List.getElem_cons_zero, List.getElem_cons_succ, Act.put, List.setIfInBounds_toArray, List.set_cons_zero, List.set_cons_succ])
      go_simp
      refine hK.out _ _ (fun _ => hHeld) (fun _ => ?_)
      clear hK K hHeld
      refine wpAnyK_done (by kernel_rfl) ?_ _
      go_wp2_with fail
      go_meet
      case rel => exact ⟨F1, G2, by simp, D2.out⟩
    by_cases k8 : c = 8
    · as_aux_lemma =>
      subst k8
      clear k0
      clear k1
      clear k2
      clear k3
      clear k4
      clear k5
      clear k6
      clear k7
      go_wp2_with fail
      refine (pwear21 HL2.out.1.p HOK.out.1 a p HI.out.1 HI.out.2.1).mono ?_
      rintro e v1 ⟨rfl, b1⟩
      have D1 : Hid (Dv21 w2 v1 f b F G F G S S) := HL2.out.1.below b1
      clear m0 m1 m2 m3 m4' b1
      obtain ⟨m0, m1, m2, m3, m4'⟩ := (HBX.out _ _ _ _ _ D1.out).c
      go_wp2_with fail
      refine (rwea21 D1.out.d HOK.out.1 a p HI.out.1 HI.out.2.1).mono ?_
      rintro e v2 ⟨rfl, hw⟩
      subst v2
      go_wp2_with fail
      go_meet
      case rel => exact ⟨F, G, by simp, D1.out⟩
    by_cases k9 : c = 9
    · as_aux_lemma =>
      subst k9
      clear k0
      clear k1
      clear k2
      clear k3
      clear k4
      clear k5
      clear k6
      clear k7
      clear k8
      go_wp2_with fail
      refine (psave21 HL2.out.1.p HOK.out.1 (HTV.out _ _ _ _ _ HL2.out.1)).mono ?_
      rintro e v1 ⟨h1, b1⟩
      have B1 : Hid (Below w2.heap.size w2 v1) := b1
      rcases h1 with ⟨hon, rfl⟩ | ⟨hon, p1, c1, rfl, o1⟩
      · as_aux_lemma =>
        clear m0 m1 m2 m3 m4' b1
        go_wp2_with fail
        refine (rsave21 (HL2.out.1.below B1.out).d HOK.out.1 (HL2.out.1.p.by)).mono ?_
        rintro e v2 ⟨h2, b2⟩
        rcases h2 with ⟨-, rfl⟩ | ⟨hon2, -⟩
        rotate_left
        · rw [hon] at hon2; cases hon2
        have B2 : Hid (Below w2.heap.size w2 v2) := B1.out.trans (b2.mono B1.out.size)
        have SM1 := bsame_any none none [] [] 0 0 v2 (SegK.nil (by decide) _ _) (SegK.nil (by decide) _ _)
        rw [beq_self_eq_true] at SM1
        clear b2
        go_wp2_with fail
        refine SM1.mono ?_
        rintro e v ⟨rfl, hw⟩
        subst v
        go_wp2_with fail
        go_meet
        case rel => exact ⟨F, G, by simp, HL2.out.1.below B2.out⟩
      · as_aux_lemma =>
        obtain ⟨T, hT⟩ : ∃ T, T = sav21 S := ⟨_, rfl⟩
        have hTb : ∀ z ∈ T, 0 ≤ z ∧ z ≤ 255 := by rw [hT]; exact sav21_bd HOK.out.1 (HL2.out.1.p.by)
        have HT : Hid (T = sav21 S ∧ ∀ z ∈ T, 0 ≤ z ∧ z ≤ 255) := ⟨hT, hTb⟩
        rw [← hT] at o1
        rw [← hT]
        have HO1 : Hid (v1.ownsRow w2.heap.size 5 1 (.slice p1 T.length c1) T.length (T.map (Value.int .u8))) := o1
        clear m0 m1 m2 m3 m4' b1 hT hTb o1
        go_wp2_with fail
        refine (rsave21 (HL2.out.1.below B1.out).d HOK.out.1 (HL2.out.1.p.by)).mono ?_
        rintro e v2 ⟨h2, b2⟩
        rcases h2 with ⟨hon2, -⟩ | ⟨-, p2, c2, rfl, o2⟩
        · rw [hon] at hon2; cases hon2
        rw [← HT.out.1] at o2
        rw [← HT.out.1]
        have B2 : Hid (Below w2.heap.size w2 v2) := B1.out.trans (b2.mono B1.out.size)
        obtain ⟨-, a5, c5, hv, s2, -⟩ := own_seg (M := 255) o2 (by decide) HT.out.2
        injection hv with z1 z2 z3
        subst z1
        obtain ⟨-, a6, c6, hv, s1, -⟩ := own_seg (M := 255) (own_below21 HO1.out b2) (by decide) HT.out.2
        injection hv with y1 y2 y3
        subst y1
        have SM1 := bsame_any p1 p2 T T c1 c2 v2 s1 s2
        rw [beq_self_eq_true] at SM1
        obtain ⟨tl, htl⟩ : ∃ l, l = T.length := ⟨_, rfl⟩
        rw [← htl] at SM1 ⊢
        clear b2 o2 s1 s2 z2 z3 y2 y3 htl
        go_wp2_with fail
        refine SM1.mono ?_
        rintro e v ⟨rfl, hw⟩
        subst v
        go_wp2_with fail
        go_meet
        case rel => exact ⟨F, G, by simp, HL2.out.1.below B2.out⟩
    have hds : ds21 S c a p nn L = S := by unfold ds21; rw [if_neg k1, if_neg k2, if_neg k4, if_neg k5, if_neg k6, if_neg k7]
    have HDS : Hid (ds21 S c a p nn L = S) := hds
    clear hds
    go_wp2_with fail
    refine (plooks21 HL2.out.1.p HOK.out.1 HL2.out.1.d (by have := HOK.out.2.1; omega)).mono ?_
    rintro e v1 ⟨rfl, b1⟩
    have D1 : Hid (Dv21 w2 v1 f b F G F G S S) := HL2.out.1.below b1
    clear m0 m1 m2 m3 m4' b1
    go_wp2_with fail
    go_ret
    exact ⟨rfl, F, G, by rw [HDS.out]; exact HDW.out _ _ _ _ _ D1.out⟩
  case rest =>
    obtain ⟨F1, G1, rfl, hD1⟩ := hcut
    obtain ⟨S', hS'⟩ : ∃ X, X = ds21 S c a p nn L := ⟨_, rfl⟩
    rw [← hS'] at hD1 HOK
    have HS' : Hid (ds21 S c a p nn L = S') := hS'.symm
    have D1 : Hid (Dv21 w2 wc f b F G F1 G1 S' S') := hD1
    clear hD1 hS' m0 m1 m2 m3 m4'
    have hx := HBX.out _ _ _ _ _ D1.out
    obtain ⟨m0, m1, m2, m3, m4'⟩ := hx.c
    have hm := hx.sg.mem
    have hlb : ∀ z ∈ lentL L, 0 ≤ z ∧ z ≤ 255 := by
      intro z hz
      rcases List.mem_append.1 hz with hz | hz
      · exact hm z hz
      · simp at hz; omega
    obtain ⟨-, a', c', hv, sg, -⟩ := own_seg (M := 255) hx.lo (by decide) hlb
    injection hv with h1 h2 h3
    subst h1
    have HKP := kept_any ba (some ⟨gl, 0, none⟩) (lentL L) L cap bc wc sg hx.sg HSG.out.2.1 (by rw [hx.ln]; have := HSG.out.2.2.2; omega)
    have hll : (lentL L).length = n + 5 := by unfold lentL; rw [List.length_append, hx.ln]; rfl
    rw [hll, hx.ln, beq_self_eq_true] at HKP
    have HLO : Hid (wc.ownsRow (gc + 1) 5 1 (.slice (some ⟨gl, 0, none⟩) (n + 5) cap) (n + 5) ((lentL L).map (Value.int .u8)) ∧ (lentL L).length = n + 5 ∧ n ≤ 140737488351232) := ⟨hx.lo, hll, HSG.out.2.2.2⟩
    clear hx hm hlb sg h2 h3 hll m0 m1 m2 m3
    go_wp2_with fail
    refine HKP.mono ?_
    rintro e w3 ⟨rfl, b3⟩
    have B3 : Hid (Below wc.heap.size wc w3) := b3
    clear b3 HKP m4'
    go_wp2_with fail
    go_loopw [249] (fun ti wr => ∃ (i : Nat) (X : List Int), i ≤ n + 5 ∧ ti = .int .i64 (i : Int) ∧ Hid (X.length = n + 5) ∧ wr.ownsRow (gc + 1) 5 1 (.slice (some ⟨gl, 0, none⟩) (n + 5) cap) (n + 5) (X.map (Value.int .u8)) ∧ Kp (fun k => k = gl) w3 wr) (fun ti _ => n + 5 - (intOf ti).toNat)
    case atStart => exact ⟨0, lentL L, by omega, rfl, HLO.out.2.1, own_below21 HLO.out.1 B3.out, Kp.refl _ _⟩
    case round =>
      obtain ⟨i, X, hi, rfl, hX, hown, hk⟩ := hrel
      have HIN : Hid (wr.ownsRow (gc + 1) 5 1 (.slice (some ⟨gl, 0, none⟩) (n + 5) cap) (n + 5) (X.map (Value.int .u8)) ∧ Kp (fun k => k = gl) w3 wr) := ⟨hown, hk⟩
      by_cases hlt : i < n + 5
      · have hii : (i : Int) < ((n + 5 : Nat) : Int) := by omega
        have hiw : IntKind.i64.wrap ((i : Int) + 1) = ((i + 1 : Nat) : Int) := by have := HLO.out.2.2; rw [IntWalk.i64_in _ (by omega)]; omega
        have hcl : (∃ u, wr.cell? ⟨gl, i, none⟩ = some u) ∧ wr.frozen? ⟨gl, i, none⟩ = false := by
          rcases hown.2 with ⟨e, _⟩ | ⟨g', cp, cu, e1, e2, e3, e4, e5, e6, e7⟩
          · cases e
          · simp only [Value.slice.injEq, Option.some.injEq, Addr.mk.injEq, and_true, true_and] at e1
            obtain ⟨rfl, rfl⟩ := e1
            refine ⟨⟨cu[i]'(by omega), ?_⟩, by simp [World.frozen?, e3]⟩
            simp only [World.cell?, e3]
            exact Array.getElem?_eq_getElem (by omega)
        obtain ⟨⟨u, hu⟩, hfz⟩ := hcl
        have HNX : Hid ((wr.setCell ⟨gl, i, none⟩ (.int .u8 90)).ownsRow (gc + 1) 5 1 (.slice (some ⟨gl, 0, none⟩) (n + 5) cap) (n + 5) ((X.set i 90).map (Value.int .u8)) ∧ Kp (fun k => k = gl) w3 (wr.setCell ⟨gl, i, none⟩ (.int .u8 90)) ∧ (X.set i 90).length = n + 5) := by
          refine ⟨?_, HIN.out.2.trans (Kp.set (S := fun k => k = gl) rfl _) (fun _ _ e => e), by rw [List.length_set]; exact hX.out⟩
          rw [List.map_set]
          exact own_set21 HIN.out.1 (by rw [List.length_map, hX.out]; exact hlt) _
        clear hown hk HIN
        go_wp2_with fail
        go_roundw
        case rel => exact ⟨i + 1, X.set i 90, by omega, by go_num, HNX.out.2.2, HNX.out.1, HNX.out.2.1⟩
        case measure => simp [intOf]; omega
      · obtain rfl : i = n + 5 := by omega
        have hii : ¬ ((n + 5 : Nat) : Int) < ((n + 5 : Nat) : Int) := by omega
        obtain ⟨v, hv⟩ : ∃ v, v = wr.drew := ⟨_, rfl⟩
        have HV : Hid (wr.drew = v) := hv.symm
        have DW : Hid (Dv21 w v f b F G F1 G1 S' S') := by
          rw [hv]
          have h1 := HDW.out _ _ _ _ _ (D1.out.below B3.out)
          have hgl : gl < w2.heap.size := HL2.out.2.1
          have hnF : ∀ k, gc ≤ k → ¬ F k ∧ ¬ G k := fun k hk => ⟨fun e => by have := HDV.out.2.1 k e; omega, fun e => by have := HDV.out.2.2.1 k e; omega⟩
          have hg := hnF gl (by have := HL2.out.2.2; omega)
          have h2 := h1.set HIN.out.2 (fun e => by rcases D1.out.fF gl e with q | q; exact hg.1 q; omega) (fun e => by rcases D1.out.gG gl e with q | q; exact hg.2 q; omega) (.inl (by have h3 := HL2.out.2.2; have h4 := HDV.out.2.2.2.size; have h5 := HB1.out.2; have h6 := HW2.out; omega))
          exact h2.below (Below.refl _ _).drew
        have HON := pon21 DW.out.p HOK.out.2.2.1
        have HOP := pops21 DW.out.p HOK.out.2.2.1
        have HAC := pact22 DW.out.p HOK.out.2.2.1
        obtain ⟨y7, y6, y2⟩ : v.cell? ⟨b, 5 + 2, none⟩ = some (.bool (!S'.on)) ∧ (∃ la lc, v.cell? ⟨b, 6, none⟩ = some (.slice la S'.lg.length lc)) ∧ v.cell? ⟨b, 2, none⟩ = some (.int .i64 S'.ac) := by
          obtain ⟨g, c, A, tn, ta, tc, la, lc, V, h1, -⟩ := DW.out.d
          exact ⟨h1.cel (i := 7) rfl, ⟨la, lc, h1.cel (i := 6) rfl⟩, h1.cel (i := 2) rfl⟩
        obtain ⟨la, lc, y6⟩ := y6
        have HFIN : Hid (∃ F' G', Dv21 w v f b F G F' G' (ds21 S c a p nn L) (ds21 S c a p nn L)) := by rw [HS'.out]; exact ⟨F1, G1, DW.out⟩
        obtain ⟨on, hon⟩ : ∃ x, x = S'.on := ⟨_, rfl⟩
        obtain ⟨ll, hll⟩ : ∃ x, x = S'.lg.length := ⟨_, rfl⟩
        obtain ⟨ac, hac⟩ : ∃ x, x = S'.ac := ⟨_, rfl⟩
        rw [← hon] at HON y7
        rw [← hll] at HOP y6
        rw [← hac] at HAC y2
        clear hv hown hk HIN hon hll hac
        go_wp2_with fail
        refine still_all22c (by kernel_rfl) (by kernel_rfl) ?_
        rw [HV.out]
        cases on
        all_goals
          repeat still_step
          still_call HON
          repeat still_step
          still_call HOP
          repeat still_step
          still_call HAC
          repeat still_step
          refine wpStill_nil ?_
          go_wp2_with fail
          go_ret
          exact ⟨by simp, HFIN.out⟩
end Go.Proofs.YtmjlpfmacblcpaaDoor
