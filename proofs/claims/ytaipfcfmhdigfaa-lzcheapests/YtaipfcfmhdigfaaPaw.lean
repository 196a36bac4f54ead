import Derived.Test.YtaipfcfmhdigfaaPat
import Derived.Test.YtaipfcfmhdigfaaPav
namespace Go.Proofs.Ytaipfcfmhdigfaa
open Go.RowKit
set_option linter.unusedVariables false

/-! The landed lz: the matches of all places. -/
def rcs7 (D : List Int) (W : Nat) : Nat → List (Nat × Nat)
  | 0 => []
  | k + 1 => rcs7 D W k ++ rec7 D k W
theorem rcs7_len (D : List Int) (W : Nat) : ∀ k, (rcs7 D W k).length ≤ 256 * k
  | 0 => by simp [rcs7]
  | k + 1 => by
    have h1 := rcs7_len D W k
    have h2 := rec7_len D k W
    rw [rcs7, List.length_append]
    omega
structure Two7 (w : World) (b : Nat) (x y : Value) : Prop where
  hp : w.heap[b]? = some (.cells #[x, y] 101 (0, 0))
theorem Two7.c0 {w : World} {b : Nat} {x y : Value} (h : Two7 w b x y) : w.cell? ⟨b, 0, none⟩ = some x := by have := h.hp; simp [World.cell?, this]
theorem Two7.c1 {w : World} {b : Nat} {x y : Value} (h : Two7 w b x y) : w.cell? ⟨b, 1, none⟩ = some y := by have := h.hp; simp [World.cell?, this]
theorem Two7.fr {w : World} {b : Nat} {x y : Value} (h : Two7 w b x y) (k : Nat) : w.frozen? ⟨b, k, none⟩ = false := by have := h.hp; simp [World.frozen?, this]
theorem Two7.lt {w : World} {b : Nat} {x y : Value} (h : Two7 w b x y) : b < w.heap.size := (Array.getElem?_eq_some_iff.1 h.hp).1
theorem Two7.of_block {w w' : World} {b : Nat} {x y : Value} (h : Two7 w b x y) (hb : w'.heap[b]? = w.heap[b]?) : Two7 w' b x y := ⟨hb.trans h.hp⟩
theorem Two7.set0 {w : World} {b : Nat} {x y : Value} (h : Two7 w b x y) (u : Value) : Two7 (w.setCell ⟨b, 0, none⟩ u) b u y := by
  have := h.hp
  exact ⟨by simp [World.setCell, Array.getElem?_modify, this]⟩
theorem Two7.set1 {w : World} {b : Nat} {x y : Value} (h : Two7 w b x y) (u : Value) : Two7 (w.setCell ⟨b, 1, none⟩ u) b x u := by
  have := h.hp
  exact ⟨by simp [World.setCell, Array.getElem?_modify, this]⟩
/-- The blocks of matches, all apart. -/
structure Ap7 (B fb m g fx rx eg : Nat) : Prop where
  a1 : fx ≠ m ∧ fx ≠ g ∧ fx ≠ eg ∧ fx ≠ rx ∧ fx ≠ fb
  a2 : rx ≠ m ∧ rx ≠ g ∧ rx ≠ eg ∧ rx ≠ fb
  a3 : eg ≠ m ∧ eg ≠ g ∧ eg ≠ fb
  a4 : B ≤ fx ∧ B ≤ rx ∧ B ≤ eg
def ends7 (D : List Int) (W i : Nat) : Nat → Int := fun q => if q < i then ((rcs7 D W (q + 1)).length : Int) else 0
structure MS7 (B fb m g fx rx eg : Nat) (D : List Int) (a : Option Addr) (n cap W i : Nat) (A : Nat → Int) (w wr : World) (la : Option Addr) (ln lc : Nat) : Prop where
  pfx : Two7 wr fx (.slice la ln lc) (.slice (some ⟨eg, 0, none⟩) n n)
  prx : Two7 wr rx (.slice none 0 0) (.slice none 0 0)
  ends : RowI wr eg n (ends7 D W i)
  egl : eg < wr.heap.size
  own : wr.ownsRow B 88 2 (.slice la ln lc) ln (flatR (rcs7 D W i))
  len : (rcs7 D W i).length = ln
  f : Fst wr B fb m g D a n cap W (min i (n - 2)) A
  fo : Fo7 D W (min i (n - 2)) A
  sep : ∀ k, (Value.slice la ln lc).ownBlock = some k → k ≠ fb ∧ k ≠ m ∧ k ≠ g ∧ k ≠ fx ∧ k ≠ rx ∧ k ≠ eg
  bel : Below B w wr
theorem MS7.next {B fb m g fx rx eg : Nat} {D : List Int} {a : Option Addr} {n cap W i : Nat} {A A' : Nat → Int} {w wr w2 : World} {la la' : Option Addr} {ln lc ln' lc' : Nat} (h : MS7 B fb m g fx rx eg D a n cap W i A w wr la ln lc) (hap : Ap7 B fb m g fx rx eg) (hi : i < n)
    (hK : Kp (FS m g (.slice la ln lc)) wr w2) (hF : Fresh wr (.slice la ln lc) (.slice la' ln' lc')) (ho : w2.ownsRow B 88 2 (.slice la' ln' lc') ln' (flatR (rcs7 D W (i + 1)))) (hl : (rcs7 D W (i + 1)).length = ln')
    (hf : Fst w2 B fb m g D a n cap W (min (i + 1) (n - 2)) A') (hfo : Fo7 D W (min (i + 1) (n - 2)) A') (hs : ∀ k, (Value.slice la' ln' lc').ownBlock = some k → k ≠ fb ∧ k ≠ m ∧ k ≠ g) :
    MS7 B fb m g fx rx eg D a n cap W (i + 1) A' w ((w2.setCell ⟨fx, 0, none⟩ (.slice la' ln' lc')).setCell ⟨eg, i, none⟩ (.int .i64 (ln' : Int))) la' ln' lc' := by
  obtain ⟨⟨a1, a2, a3, a4, a5⟩, ⟨b1, b2, b3, b4⟩, ⟨d1, d2, d3⟩, e1, e2, e3⟩ := hap
  have hfxl := h.pfx.lt
  have hrxl := h.prx.lt
  have hegl := h.egl
  have hnf : ¬ FS m g (.slice la ln lc) fx := by
    rintro (e | e | e)
    · exact a1 e
    · exact a2 e
    · exact (h.sep fx e).2.2.2.1 rfl
  have hnr : ¬ FS m g (.slice la ln lc) rx := by
    rintro (e | e | e)
    · exact b1 e
    · exact b2 e
    · exact (h.sep rx e).2.2.2.2.1 rfl
  have hne : ¬ FS m g (.slice la ln lc) eg := by
    rintro (e | e | e)
    · exact d1 e
    · exact d2 e
    · exact (h.sep eg e).2.2.2.2.2 rfl
  have hsep2 : ∀ k, (Value.slice la' ln' lc').ownBlock = some k → k ≠ fb ∧ k ≠ m ∧ k ≠ g ∧ k ≠ fx ∧ k ≠ rx ∧ k ≠ eg := fun k e => by
    obtain ⟨s1, s2, s3⟩ := hs k e
    rcases hF k e with e4 | e4
    · exact ⟨s1, s2, s3, (h.sep k e4).2.2.2⟩
    · exact ⟨s1, s2, s3, by omega, by omega, by omega⟩
  have f2 : Two7 w2 fx (.slice la ln lc) (.slice (some ⟨eg, 0, none⟩) n n) := h.pfx.of_block (hK.block fx hfxl hnf)
  have r2 : Two7 w2 rx (.slice none 0 0) (.slice none 0 0) := h.prx.of_block (hK.block rx hrxl hnr)
  have en2 : RowI w2 eg n (ends7 D W i) := h.ends.of_block (hK.block eg hegl hne)
  have k1 : Kp (fun k => k = fx ∨ k = eg) w2 ((w2.setCell ⟨fx, 0, none⟩ (.slice la' ln' lc')).setCell ⟨eg, i, none⟩ (.int .i64 (ln' : Int))) := (Kp.set (S := fun k => k = fx ∨ k = eg) (.inl rfl) _).trans (Kp.set (S := fun k => k = fx ∨ k = eg) (.inr rfl) _) (fun _ _ e => e)
  have hen3 : RowI (w2.setCell ⟨fx, 0, none⟩ (.slice la' ln' lc')) eg n (ends7 D W i) := en2.of_block (Below.heap_setCell _ _ _ _ (Ne.symm a3))
  have hen4 := hen3.set hi (ln' : Int)
  have hupd : updI (ends7 D W i) i (ln' : Int) = ends7 D W (i + 1) := by
    funext q
    unfold updI ends7
    by_cases e : q = i
    · subst e; rw [if_pos rfl, if_pos (by omega), hl]
    · rw [if_neg e]
      by_cases e2 : q < i
      · rw [if_pos e2, if_pos (by omega)]
      · rw [if_neg e2, if_neg (by omega)]
  rw [hupd] at hen4
  refine ⟨(f2.set0 _).of_block (Below.heap_setCell _ _ _ _ a3), r2.of_block ((Below.heap_setCell _ _ _ _ b3).trans (Below.heap_setCell _ _ _ _ (Ne.symm a4))), hen4, Nat.lt_of_lt_of_le hegl (Nat.le_trans hK.size k1.size), own_kp3 ho k1 (fun k e e2 => ?_), hl, hf.kps k1 ?_ ?_ ?_ ?_, hfo, hsep2, ?_⟩
  · obtain ⟨_, _, _, s4, _, s6⟩ := hsep2 k e
    rcases e2 with e2 | e2
    · exact s4 e2
    · exact s6 e2
  · rintro (e | e)
    · exact a5 e.symm
    · exact d3 e.symm
  · rintro (e | e)
    · exact a1 e.symm
    · exact d1 e.symm
  · rintro (e | e)
    · exact a2 e.symm
    · exact d2 e.symm
  · rintro k (e | e)
    · rw [e]; exact e1
    · rw [e]; exact e3
  · have hB2 : B ≤ wr.heap.size := Nat.le_trans e1 (Nat.le_of_lt hfxl)
    have hb2 : Below B wr w2 := hK.below (fun k e => by
      rcases e with e | e | e
      · rw [e]; exact hf.bm
      · rw [e]; exact hf.bg
      · exact (h.own.lt k e).1) hB2
    exact ((h.bel.trans hb2).setCell (p := ⟨fx, 0, none⟩) e1 _).setCell (p := ⟨eg, i, none⟩) e3 _
/-- What matches answers. -/
structure MQ7 (D : List Int) (W n : Nat) (w w' : World) (la : Option Addr) (ln lc eg : Nat) : Prop where
  own : w'.ownsRow w.heap.size 88 2 (.slice la ln lc) ln (flatR (rcs7 D W n))
  len : (rcs7 D W n).length = ln
  ends : RowI w' eg n (ends7 D W n)
  egl : eg < w'.heap.size
  ego : w.heap.size ≤ eg
  bel : Below w.heap.size w w'
set_option maxRecDepth 100000 in
set_option maxHeartbeats 8000000 in
theorem pmat7 (D : List Int) (a : Option Addr) (n cap W : Nat) (hn : Hid (D.length = n)) (w : World) (hs : Seg w a D) (hl : n ≤ 1048576) (hW : W ≤ 32768) :
    Calls Try.prog 48 #[.slice a n cap, .int .i64 (W : Int)] w fun e w' => ∃ la ln lc eg, e = .returned (.agg #[.slice la ln lc, .slice (some ⟨eg, 0, none⟩) n n]) ∧ MQ7 D W n w w' la ln lc eg := by
  obtain ⟨wA, hwA⟩ : ∃ wA, wA = w.alloc (.cells #[.slice none 0 0, .slice none 0 0] 101) := ⟨_, rfl⟩
  have bA : Below w.heap.size w wA := by rw [hwA]; exact below_box _ _
  obtain ⟨rx, hrx⟩ : ∃ rx, rx = w.heap.size := ⟨_, rfl⟩
  have hR : Two7 wA rx (.slice none 0 0) (.slice none 0 0) := by rw [hwA, hrx]; exact ⟨heap_alloc_new w _⟩
  have HWA : Hid (wA = w.alloc (.cells #[.slice none 0 0, .slice none 0 0] 101)) := hwA
  have HRX : Hid (rx = w.heap.size) := hrx
  have CN := pnewf7 D a n cap W wA (hs.old bA) wA.heap.size (Nat.le_refl _) (fun x off e h => Nat.lt_of_lt_of_le (hs.lt x off e h) bA.size) hl
  have hmk := make_ints7t n (by omega)
  have HRA : Hid (Two7 wA rx (.slice none 0 0) (.slice none 0 0)) := hR
  clear hwA hrx hR
  go_enter Try.func48, Try.ntmps48
  go_wp2_with fail
  rw [← HWA.out, ← HRX.out]
  refine CN.mono ?_
  rintro e w1 ⟨fb, m, g, rfl, hF0, b1⟩
  have hq1 := hF0.bf
  have hq2 := hF0.bm
  have hq3 := hF0.bg
  have hF1 : Fst w1 w.heap.size fb m g D a n cap W 0 (fun _ => 0) := ⟨hF0.hp, hF0.row, hF0.mp, hF0.seg, hF0.fg, hF0.mg, hF0.gl, Nat.le_trans bA.size hq1, Nat.le_trans bA.size hq2, Nat.le_trans bA.size hq3, hs.lt⟩
  clear hF0
  have hE2 := rowI_made w1 n 3
  have b2 : Below w1.heap.size w1 (w1.alloc (.cells (madeCells #[.int .i64 0] n) 3)) := (Below.refl _ _).alloc (Nat.le_refl _) _
  have hz2 : (w1.alloc (.cells (madeCells #[.int .i64 0] n) 3)).heap.size = w1.heap.size + 1 := by simp
  obtain ⟨w2, hw2⟩ : ∃ w2, w2 = w1.alloc (.cells (madeCells #[.int .i64 0] n) 3) := ⟨_, rfl⟩
  obtain ⟨eg, heg⟩ : ∃ eg, eg = w1.heap.size := ⟨_, rfl⟩
  rw [← hw2] at hE2 b2 hz2
  have HW2 : Hid (w2 = w1.alloc (.cells (madeCells #[.int .i64 0] n) 3)) := hw2
  have HEG : Hid (eg = w1.heap.size) := heg
  rw [← heg] at hE2 hz2
  obtain ⟨w3, hw3⟩ : ∃ w3, w3 = w2.alloc (.cells #[.slice none 0 0, .slice (some ⟨eg, 0, none⟩) n n] 101) := ⟨_, rfl⟩
  have b3 : Below w2.heap.size w2 w3 := by rw [hw3]; exact below_box _ _
  obtain ⟨fx, hfx⟩ : ∃ fx, fx = w2.heap.size := ⟨_, rfl⟩
  have hX3 : Two7 w3 fx (.slice none 0 0) (.slice (some ⟨eg, 0, none⟩) n n) := by rw [hw3, hfx]; exact ⟨heap_alloc_new w2 _⟩
  have HW3 : Hid (w3 = w2.alloc (.cells #[.slice none 0 0, .slice (some ⟨eg, 0, none⟩) n n] 101)) := hw3
  have HFX : Hid (eg + 1 = fx) := by show _ = _; rw [hfx, hz2]
  have hfbl := hF1.lt
  have hml := hF1.mp.lt
  have hgl := hF1.gl
  have hrl : rx < w1.heap.size := Nat.lt_of_lt_of_le HRA.out.lt b1.size
  have hrxA := HRA.out.lt
  have hnew := hF1
  have hAP : Ap7 w.heap.size fb m g fx rx eg ∧ rx ≠ fb ∧ rx ≠ m ∧ rx ≠ g → Ap7 w.heap.size fb m g fx rx eg := fun h => h.1
  have B13 : Below w1.heap.size w1 w3 := b2.trans (b3.mono b2.size)
  have BA3 : Below w.heap.size w w3 := (bA.trans (b1.mono bA.size)).trans (B13.mono (Nat.le_trans bA.size b1.size))
  have HS0 : Hid (rx ≠ fb → rx ≠ m → rx ≠ g → MS7 w.heap.size fb m g fx rx eg D a n cap W 0 (fun _ => 0) w w3 none 0 0) := fun e1 e2 e3 => by
    have he0 : ends7 D W 0 = fun _ => 0 := by funext q; unfold ends7; rw [if_neg (by omega)]
    refine ⟨hX3, (HRA.out.of_block (b1.block rx hrxA)).of_block (B13.block rx hrl), ?_, by have := b3.size; omega, World.ownsRow_nil _ _ _ _, rfl, ?_, ?_, fun k e => by simp [Value.ownBlock] at e, BA3⟩
    · rw [he0]; exact hE2.of_block (b3.block eg (by omega))
    · rw [Nat.zero_min]; exact hF1.kp B13
    · rw [Nat.zero_min]; exact fo7_start D W _
  have hne : rx ≠ fb ∧ rx ≠ m ∧ rx ≠ g := by omega
  have hap : Ap7 w.heap.size fb m g fx rx eg := ⟨by omega, by omega, by omega, by have := HRX.out; have := bA.size; have := b1.size; omega⟩
  have HS := HS0.out hne.1 hne.2.1 hne.2.2
  have HSS : Hid (MS7 w.heap.size fb m g fx rx eg D a n cap W 0 (fun _ => 0) w w3 none 0 0) := HS
  clear hw2 heg hw3 hfx hE2 hX3 HS0 hAP HS hF1 hnew CN
  go_wp2_with fail
  rw [← HW2.out, ← HEG.out, HFX.out, ← HW3.out]
  go_loopw [17] (fun ti wr => ∃ (i ln lc : Nat) (A : Nat → Int) (la : Option Addr), i ≤ n ∧ ti = .int .i64 (i : Int) ∧ MS7 w.heap.size fb m g fx rx eg D a n cap W i A w wr la ln lc) (fun ti _ => n - (intOf ti).toNat)
  case atStart => exact ⟨0, 0, 0, fun _ => 0, none, by omega, rfl, HSS.out⟩
  case round =>
    clear HSS
    obtain ⟨i, ln, lc, A, la, hin, rfl, hM⟩ := hrel
    by_cases hi : i < n
    · have hii : (i : Int) < (n : Int) := by omega
      have HM : Hid (MS7 w.heap.size fb m g fx rx eg D a n cap W i A w wr la ln lc) := hM
      have x0 := hM.pfx.c0
      have x1 := hM.pfx.c1
      have xf := hM.pfx.fr
      have hlnb : ln ≤ 268435456 := by have := rcs7_len D W i; rw [hM.len] at this; omega
      by_cases hlong : i + 2 < n
      · have hmin : min i (n - 2) = i := by omega
        have hmin2 : min (i + 1) (n - 2) = i + 1 := by omega
        have hf := hM.f
        have hfo := hM.fo
        rw [hmin] at hf hfo
        have CS := psef7_ok w.heap.size fb m g D a n cap W i A la ln lc (rcs7 D W i) hn wr ⟨hM.own, hM.len, hf, fun k e => ⟨(hM.sep k e).1, (hM.sep k e).2.1, (hM.sep k e).2.2.1⟩, Fresh.refl7 _ _, Kp.refl _ _⟩ hfo hlong hl hW hlnb
        clear hM hf hfo
        go_wp2_with fail
        refine CS.mono ?_
        rintro e w5 ⟨la', ln', lc', A', rfl, hFL, hFo⟩
        have HN : Hid (MS7 w.heap.size fb m g fx rx eg D a n cap W (i + 1) A' w ((w5.setCell ⟨fx, 0, none⟩ (.slice la' ln' lc')).setCell ⟨eg, i, none⟩ (.int .i64 (ln' : Int))) la' ln' lc') :=
          HM.out.next hap hi hFL.kp hFL.fr hFL.own hFL.len (by rw [hmin2]; exact hFL.f) (by rw [hmin2]; exact hFo) hFL.sep
        have hkx : w5.heap[fx]? = wr.heap[fx]? := hFL.kp.block fx HM.out.pfx.lt (by
          rintro (e | e | e)
          · exact hap.a1.1 e
          · exact hap.a1.2.1 e
          · exact (HM.out.sep fx e).2.2.2.1 rfl)
        have hke : w5.heap[eg]? = wr.heap[eg]? := hFL.kp.block eg HM.out.egl (by
          rintro (e | e | e)
          · exact hap.a3.1 e
          · exact hap.a3.2.1 e
          · exact (HM.out.sep eg e).2.2.2.2.2 rfl)
        have hX5 := HM.out.pfx.of_block hkx
        have hE5 := HM.out.ends.of_block hke
        have y0 := hX5.c0
        have y1 := hX5.c1
        have yf := hX5.fr
        have z0 := hE5.at_ i hi
        have zf := hE5.fr
        have hne9 : eg ≠ fx := Ne.symm hap.a1.2.2.1
        clear hFL hFo hX5 hE5
        go_wp2_with fail
        go_roundw
        case rel => exact ⟨i + 1, ln', lc', A', la', by omega, by go_num, HN.out⟩
        case measure => simp [intOf]; omega
      · have hmin2 : min (i + 1) (n - 2) = min i (n - 2) := by omega
        have CS := psef7_short w.heap.size fb m g D a n cap W i _ A la ln lc hn wr hM.f hi (by omega) hl
        have hrec : rec7 D i W = [] := rec7_short (by rw [hn.out]; omega) (by rw [hn.out]; omega)
        have hrcs : rcs7 D W (i + 1) = rcs7 D W i := by rw [rcs7, hrec, List.append_nil]
        have HN : Hid (MS7 w.heap.size fb m g fx rx eg D a n cap W (i + 1) A w ((wr.setCell ⟨fx, 0, none⟩ (.slice la ln lc)).setCell ⟨eg, i, none⟩ (.int .i64 (ln : Int))) la ln lc) :=
          hM.next hap hi (Kp.refl _ _) (Fresh.refl7 _ _) (by rw [hrcs]; exact hM.own) (by rw [hrcs]; exact hM.len) (by rw [hmin2]; exact hM.f) (by rw [hmin2]; exact hM.fo) (fun k e => ⟨(hM.sep k e).1, (hM.sep k e).2.1, (hM.sep k e).2.2.1⟩)
        have z0 := hM.ends.at_ i hi
        have zf := hM.ends.fr
        have hne9 : eg ≠ fx := Ne.symm hap.a1.2.2.1
        clear hM hrec hrcs
        go_wp2_with fail
        refine CS.mono ?_
        rintro e w5 ⟨rfl, hw5⟩
        subst hw5
        go_wp2_with fail
        go_roundw
        case rel => exact ⟨i + 1, ln, lc, A, la, by omega, by go_num, HN.out⟩
        case measure => simp [intOf]; omega
    · obtain rfl : i = n := by omega
      have x0 := hM.pfx.c0
      have x1 := hM.pfx.c1
      have r0 := hM.prx.c0
      have r1 := hM.prx.c1
      have rf := hM.prx.fr
      have HFIN : Hid (Two7 ((wr.setCell ⟨rx, 0, none⟩ (.slice la ln lc)).setCell ⟨rx, 1, none⟩ (.slice (some ⟨eg, 0, none⟩) i i)) rx (.slice la ln lc) (.slice (some ⟨eg, 0, none⟩) i i) ∧ MQ7 D W i w ((wr.setCell ⟨rx, 0, none⟩ (.slice la ln lc)).setCell ⟨rx, 1, none⟩ (.slice (some ⟨eg, 0, none⟩) i i)) la ln lc eg) := by
        have k1 : Kp (fun k => k = rx) wr ((wr.setCell ⟨rx, 0, none⟩ (.slice la ln lc)).setCell ⟨rx, 1, none⟩ (.slice (some ⟨eg, 0, none⟩) i i)) := (Kp.set (S := fun k => k = rx) rfl _).trans (Kp.set (S := fun k => k = rx) rfl _) (fun _ _ e => e)
        exact ⟨(hM.prx.set0 _).set1 _, own_kp3 hM.own k1 (fun k e => (hM.sep k e).2.2.2.2.1), hM.len, hM.ends.of_block (k1.block eg hM.egl (Ne.symm hap.a2.2.2.1)), Nat.lt_of_lt_of_le hM.egl k1.size, hap.a4.2.2, (hM.bel.setCell (p := ⟨rx, 0, none⟩) hap.a4.2.1 _).setCell (p := ⟨rx, 1, none⟩) hap.a4.2.1 _⟩
      clear hM
      go_wp2_with fail
      refine bodyPost_ret (v := .agg #[.slice la ln lc, .slice (some ⟨eg, 0, none⟩) i i]) (results_cell_row (fn := Try.f48) (p := 4) (ty := 101) rfl _ _ rx _ _ _ _ rfl HFIN.out.1.hp Try.underlying101 rfl (by kernel_rfl)) rfl ?_
      exact ⟨la, ln, lc, eg, rfl, HFIN.out.2⟩
end Go.Proofs.Ytaipfcfmhdigfaa

namespace Go.Proofs.Ytaipfcfmhdigfaa
open Go.RowKit
set_option linter.unusedVariables false

/-! The landed lz: the matches of one place; the plan. -/
theorem flatR_get : ∀ (l : List (Nat × Nat)) (k : Nat) (x : Nat × Nat), l[k]? = some x → (flatR l)[k * 2]? = some (.int .u16 (x.1 : Int)) ∧ (flatR l)[k * 2 + 1]? = some (.int .u16 (x.2 : Int))
  | [], k, x, h => by simp at h
  | t :: r, 0, x, h => by
    simp at h
    subst h
    simp [flatR]
  | t :: r, k + 1, x, h => by
    have := flatR_get r k x (by simpa using h)
    have e : flatR (t :: r) = .int .u16 (t.1 : Int) :: .int .u16 (t.2 : Int) :: flatR r := rfl
    rw [e, show (k + 1) * 2 = k * 2 + 1 + 1 by omega]
    simpa [List.getElem?_cons_succ, show k * 2 + 1 + 1 + 1 = (k * 2 + 1) + 1 + 1 by omega] using this
theorem own_facts2 {w : World} {base n cap : Nat} {e : TypeId} {b : Option Addr} {xs : List Value} (h : w.ownsRow base e 2 (.slice b n cap) n xs) : n ≤ cap ∧ (b = none → n = 0 ∧ cap = 0) ∧ ∀ x, b = some x → ∃ g, x = ⟨g, 0, none⟩ ∧ base ≤ g ∧ g < w.heap.size := by
  rcases h.2 with ⟨h1, h2⟩ | ⟨g, cp, cur, h1, h2, h3, h4, _⟩
  · simp only [Value.slice.injEq] at h1
    obtain ⟨rfl, _, rfl⟩ := h1
    exact ⟨by omega, (fun _ => ⟨h2, rfl⟩), (fun x h => by cases h)⟩
  · simp only [Value.slice.injEq] at h1
    obtain ⟨rfl, _, rfl⟩ := h1
    exact ⟨h4, (fun h => by cases h), (fun x h => by cases h; exact ⟨g, rfl, h2, (Array.getElem?_eq_some_iff.1 h3).1⟩)⟩
theorem own_segR {w : World} {base n cap : Nat} {e : TypeId} {b : Option Addr} {l : List (Nat × Nat)} (h : w.ownsRow base e 2 (.slice b n cap) n (flatR l)) (hl : l.length = n) : SegR w b l := by
  refine ⟨fun k hk => ?_⟩
  rcases h.2 with ⟨_, h0⟩ | ⟨g, cp, cur, hv, _⟩
  · omega
  simp only [Value.slice.injEq] at hv
  obtain ⟨rfl, _, rfl⟩ := hv
  have hc : ∀ j u, (flatR l)[j]? = some u → w.cell? ⟨g, j, none⟩ = some u := by
    intro j u hu
    have := h.cells (g := g) rfl j u hu
    have hadd : (⟨g, 0, none⟩ : Addr).add j = ⟨g, j, none⟩ := by unfold Addr.add; split <;> simp_all
    rwa [hadd] at this
  have hg : l[k]? = some (l.getD k (0, 0)) := by simp [List.getD, show k < l.length by omega]
  obtain ⟨q0, q1⟩ := flatR_get l k _ hg
  exact ⟨g, 0, rfl, by rw [Nat.zero_add]; exact hc _ _ q0, by rw [Nat.zero_add]; exact hc _ _ q1⟩
theorem rcs7_split (D : List Int) (W : Nat) : ∀ (n p : Nat), p < n → ∃ r, rcs7 D W n = rcs7 D W p ++ (rec7 D p W ++ r)
  | 0, p, h => by omega
  | n + 1, p, h => by
    by_cases e : p = n
    · subst e; exact ⟨[], by rw [rcs7, List.append_nil]⟩
    · obtain ⟨r, hr⟩ := rcs7_split D W n p (by omega)
      exact ⟨r ++ rec7 D n W, by rw [rcs7, hr, List.append_assoc, List.append_assoc]⟩
theorem SegR.sub {w : World} {b : Nat} {L1 L2 L3 : List (Nat × Nat)} (h : SegR w (some ⟨b, 0, none⟩) (L1 ++ (L2 ++ L3))) : SegR w (some ⟨b, L1.length * 2, none⟩) L2 := by
  refine ⟨fun i hi => ?_⟩
  obtain ⟨b', o', e, c0, c1⟩ := h.at_ (L1.length + i) (by simp; omega)
  cases e
  have hg : (L1 ++ (L2 ++ L3)).getD (L1.length + i) (0, 0) = L2.getD i (0, 0) := by
    simp [List.getD, List.getElem?_append, hi, show ¬ L1.length + i < L1.length by omega]
  rw [hg] at c0 c1
  refine ⟨b, L1.length * 2, rfl, ?_, ?_⟩
  · rw [show L1.length * 2 + i * 2 = 0 + (L1.length + i) * 2 by omega]; exact c0
  · rw [show L1.length * 2 + i * 2 + 1 = 0 + (L1.length + i) * 2 + 1 by omega]; exact c1
set_option maxRecDepth 100000 in
set_option maxHeartbeats 2000000 in
theorem pat7 (D : List Int) (W n p : Nat) (la : Option Addr) (ln lc eg : Nat) (w : World) (hown : SegR w la (rcs7 D W n)) (hlen : (rcs7 D W n).length = ln) (hcap : ln ≤ lc) (hnil : la = none → ln = 0 ∧ lc = 0) (hoff : ∀ x, la = some x → ∃ g, x = ⟨g, 0, none⟩) (hen : RowI w eg n (ends7 D W n)) (hp : p < n) (hl : n ≤ 1048576) :
    Calls Try.prog 50 #[.agg #[.slice la ln lc, .slice (some ⟨eg, 0, none⟩) n n], .int .i64 (p : Int)] w fun e w' => ∃ ma mc, e = .returned (.slice ma (rec7 D p W).length mc) ∧ SegR w' ma (rec7 D p W) ∧ Below w.heap.size w w' := by
  obtain ⟨r, hr⟩ := rcs7_split D W n p hp
  have e1 := hen.at_ p hp
  have hE1 : ends7 D W n p = ((rcs7 D W p).length : Int) + ((rec7 D p W).length : Int) := by unfold ends7; rw [if_pos hp, rcs7, List.length_append]; omega
  have hlb := rcs7_len D W n
  have hsum : (rcs7 D W p).length + (rec7 D p W).length ≤ ln := by rw [← hlen, hr, List.length_append, List.length_append]; omega
  rw [hE1] at e1
  have e0 : 0 < p → w.cell? ⟨eg, p - 1, none⟩ = some (.int .i64 ((rcs7 D W p).length : Int)) := fun h0 => by
    have := hen.at_ (p - 1) (by omega)
    unfold ends7 at this
    rw [if_pos (by omega), show p - 1 + 1 = p by omega] at this
    exact this
  have hz : p = 0 → (rcs7 D W p).length = 0 := fun h => by rw [h]; rfl
  have hegl := World.block_lt_of_cell? w _ e1
  have HSUB : Hid (∀ b, la = some ⟨b, 0, none⟩ → SegR w (some ⟨b, (rcs7 D W p).length * 2, none⟩) (rec7 D p W)) := fun b hb => by
    rw [hb, hr] at hown
    exact hown.sub
  generalize (rcs7 D W p).length = f at *
  obtain ⟨q, hq⟩ : ∃ q, q = (rec7 D p W).length := ⟨_, rfl⟩
  rw [← hq] at e1 hsum ⊢
  have HQ : Hid (q = (rec7 D p W).length) := hq
  obtain ⟨h, hh⟩ : ∃ h, h = f + q := ⟨_, rfl⟩
  have hhi : (f : Int) + (q : Int) = (h : Int) := by omega
  rw [hhi] at e1
  have hfh : (f : Int) ≤ (h : Int) := by omega
  have hhc : (h : Int) ≤ (lc : Int) := by omega
  have hpn : (p : Int) < (n : Int) := by omega
  have hsubl : h - f = q := by omega
  have hf0 : (0 : Int) ≤ (f : Int) := by omega
  have hh0 : (0 : Int) ≤ (h : Int) := by omega
  have HNIL : Hid (q = 0 → SegR w la (rec7 D p W)) := fun h => ⟨fun i hi => by rw [← hq, h] at hi; omega⟩
  have HBX : Hid (∀ k, Below w.heap.size w ((w.alloc (.cells #[.slice la ln lc, .slice (some ⟨eg, 0, none⟩) n n] 101)).drewN k)) := fun k => by
    have b1 : Below w.heap.size w (w.alloc (.cells #[.slice la ln lc, .slice (some ⟨eg, 0, none⟩) n n] 101)) := below_box _ _
    exact ⟨b1.os, b1.tape, b1.output, b1.size, b1.block⟩
  cases la with
  | none =>
    obtain ⟨rfl, rfl⟩ := hnil rfl
    have hf : f = 0 := by omega
    have hq0 : q = 0 := by omega
    subst hf
    subst hq0
    obtain rfl : h = 0 := by omega
    have HR : Hid (SegR w none (rec7 D p W)) := HNIL.out rfl
    by_cases hp0 : 0 < p
    · have hp0i : (0 : Int) < (p : Int) := by omega
      have e2 := e0 hp0
      have hwp : IntKind.i64.wrap ((p : Int) - 1) = ((p - 1 : Nat) : Int) := by rw [IntWalk.i64_in _ (by omega)]; omega
      obtain ⟨p1, hp1⟩ : ∃ p1, p1 = p - 1 := ⟨_, rfl⟩
      rw [← hp1] at hwp e2
      have hp1n : (p1 : Int) < (n : Int) := by omega
      have hp1i : (p : Int) - 1 = (p1 : Int) := by omega
      clear e0 hp1 hq hh hown hlen hr hoff hen hz hlb
      go_enter Try.func50, Try.ntmps50
      go_wp2_with fail
      go_quiet (fail)
      go_wp2
      go_ret
      exact ⟨none, 0, rfl, HR.out.old (HBX.out _), HBX.out _⟩
    · have hp0i : ¬ (0 : Int) < (p : Int) := by omega
      clear e0 hq hh hown hlen hr hoff hen hz hlb
      go_enter Try.func50, Try.ntmps50
      go_wp2_with fail
      go_quiet (fail)
      go_wp2
      go_ret
      exact ⟨none, 0, rfl, HR.out.old (HBX.out _), HBX.out _⟩
  | some x =>
    obtain ⟨lg, rfl⟩ := hoff _ rfl
    have HS2 : Hid (SegR w (some ⟨lg, f * 2, none⟩) (rec7 D p W)) := HSUB.out lg rfl
    by_cases hcf : lc = f
    · subst hcf
      obtain rfl : h = lc := by omega
      obtain rfl : q = 0 := by omega
      have HR : Hid (SegR w (some ⟨lg, 0, none⟩) (rec7 D p W)) := HNIL.out rfl
      by_cases hp0 : 0 < p
      · skip
        have hp0i : (0 : Int) < (p : Int) := by omega
        have e2 := e0 hp0
        have hwp : IntKind.i64.wrap ((p : Int) - 1) = ((p - 1 : Nat) : Int) := by rw [IntWalk.i64_in _ (by omega)]; omega
        obtain ⟨p1, hp1⟩ : ∃ p1, p1 = p - 1 := ⟨_, rfl⟩
        rw [← hp1] at hwp e2
        have hp1n : (p1 : Int) < (n : Int) := by omega
        have hp1i : (p : Int) - 1 = (p1 : Int) := by omega
        clear e0 hp1 hq hh hown hlen hr hoff hen hz hlb
        go_enter Try.func50, Try.ntmps50
        go_wp2_with fail
        go_quiet (fail)
        go_wp2
        go_ret
        exact ⟨some ⟨lg, 0, none⟩, 0, by simp, HR.out.old (HBX.out _), HBX.out _⟩
      · have hlc0 : h = 0 := hz (by omega)
        subst hlc0
        have hp0i : ¬ (0 : Int) < (p : Int) := by omega
        clear e0 hq hh hown hlen hr hoff hen hz hlb
        go_enter Try.func50, Try.ntmps50
        go_wp2_with fail
        go_quiet (fail)
        go_wp2
        go_ret
        exact ⟨some ⟨lg, 0, none⟩, 0, by simp, HR.out.old (HBX.out _), HBX.out _⟩
    · by_cases hp0 : 0 < p
      · skip
        have hp0i : (0 : Int) < (p : Int) := by omega
        have e2 := e0 hp0
        have hwp : IntKind.i64.wrap ((p : Int) - 1) = ((p - 1 : Nat) : Int) := by rw [IntWalk.i64_in _ (by omega)]; omega
        obtain ⟨p1, hp1⟩ : ∃ p1, p1 = p - 1 := ⟨_, rfl⟩
        rw [← hp1] at hwp e2
        have hp1n : (p1 : Int) < (n : Int) := by omega
        have hp1i : (p : Int) - 1 = (p1 : Int) := by omega
        clear e0 hp1 hq hh hown hlen hr hoff hen hz hlb
        go_enter Try.func50, Try.ntmps50
        go_wp2_with fail
        go_quiet (fail)
        go_wp2
        go_ret
        exact ⟨some ⟨lg, f * 2, none⟩, lc - f, by simp, HS2.out.old (HBX.out _), HBX.out _⟩
      · obtain rfl : f = 0 := hz (by omega)
        obtain rfl : h = q := by omega
        have HS3 : Hid (SegR w (some ⟨lg, 0, none⟩) (rec7 D p W)) := by
          have := HS2.out
          show SegR w (some ⟨lg, 0, none⟩) (rec7 D p W)
          simpa using this
        have hp0i : ¬ (0 : Int) < (p : Int) := by omega
        clear e0 hq hh hown hlen hr hoff hen hz hlb
        go_enter Try.func50, Try.ntmps50
        go_wp2_with fail
        go_quiet (fail)
        go_wp2
        go_ret
        exact ⟨some ⟨lg, 0, none⟩, lc, by simp, HS3.out.old (HBX.out _), HBX.out _⟩
end Go.Proofs.Ytaipfcfmhdigfaa
