import Derived.Test.YtppjcgkgemhilaaRdPair
import Derived.Test.YtppjcgkgemhilaaWrWhole
namespace Go.Proofs.Ytppjcgkgemhilaa
open Go.RowKit
set_option linter.unusedVariables false

def feedL (H : List Bool) (p : List Int) : List Bool := H ++ bB (p.take (feedN H p.length))
theorem feedL_len (H : List Bool) (p : List Int) : (feedL H p).length = H.length + 8 * feedN H p.length := by
  unfold feedL
  rw [List.length_append, bB_len, List.length_take]
  unfold feedN
  omega

set_option maxRecDepth 100000 in
set_option maxHeartbeats 8000000 in
theorem reads_feed (b bx B N : Nat) (u : Value) (H : List Bool) (t : Nat) (x : Int) (n : Int) (w : World) (h : RPair w b bx B u H t) (hb : b ≠ bx) (hb1 : b < B) (ba : Option Addr) (p : List Int) (bc : Nat) (hs : Seg w ba p) (hnil : ba = none → bc = 0) (hcap : p.length ≤ bc) (hN : ∀ g off, ba = some ⟨g, off, none⟩ → 0 < p.length → g < N) (hNb : N ≤ b) (hNx : N ≤ bx) (hNB : N ≤ B) (hl : p.length ≤ 140737488351232) :
    Calls Try.prog 11 #[.pointer (some ⟨b, 0, none⟩), .pointer (some ⟨bx, 0, none⟩), .agg #[.int .i64 0, .int .u64 x, .int .i64 n, .slice ba p.length bc]] w fun e w' => e = .returned (.bool true) ∧ DoneR w w' b bx B u (feedL H p) t := by
  obtain ⟨wA, hwA⟩ : ∃ wA, wA = w.alloc (.cells #[.int .i64 0, .int .u64 x, .int .i64 n, .slice ba p.length bc] 34) := ⟨_, rfl⟩
  have bA : Below w.heap.size w wA := by rw [hwA]; exact (Below.refl _ _).alloc (Nat.le_refl _) _
  have hA : wA.heap[w.heap.size]? = some (.cells #[.int .i64 0, .int .u64 x, .int .i64 n, .slice ba p.length bc] 34 (0, 0)) := by rw [hwA]; exact heap_new w _
  obtain ⟨hc0, _, _, hc3⟩ := four_cell hA
  obtain ⟨ob, hob⟩ : ∃ ob, ob = w.heap.size := ⟨_, rfl⟩
  have HW : Hid (wA = w.alloc (.cells #[.int .i64 0, .int .u64 x, .int .i64 n, .slice ba p.length bc] 34)) := hwA
  have HO : Hid (ob = w.heap.size) := hob
  have hbw := h.r.b_lt
  have hxw := h.x.b_lt
  have pA := h.old bA
  have hul := h.x.own_lt
  have hle := h.r.le
  have hal := h.al
  rw [← hob] at hc0 hc3
  have hbo : ob ≠ b := by omega
  have hobu : ¬ WS bx u ob := by
    rintro (e | e)
    · omega
    · have := (hul ob e).2.1; omega
  have newu : ∀ k, wA.heap.size ≤ k → ¬ WS bx u k := by
    intro k hk
    have := bA.size
    rintro (e | e)
    · omega
    · have := (hul k e).2.1; omega
  have inu : ∀ g off, ba = some ⟨g, off, none⟩ → 0 < p.length → ¬ WS bx u g := by
    intro g off e hp
    have hg := hN g off e hp
    rintro (e2 | e2)
    · omega
    · have := (hul g e2).1; omega
  have inb : ∀ g off, ba = some ⟨g, off, none⟩ → 0 < p.length → ¬ (g = b) := by
    intro g off e hp
    have hg := hN g off e hp
    omega
  have hobA : ob < wA.heap.size := World.block_lt_of_cell? wA _ hc0
  have sA : Seg wA ba p := hs.old bA
  have hszA := bA.size
  have hFl := feedL_len H p
  have hFN : feedN H p.length ≤ (64 - H.length) / 8 := by unfold feedN; omega
  have HAL : Hid ((t + (feedL H p).length) % 8 = 0) := by show _ = _; rw [hFl]; omega
  have HR0 : Hid (∀ W, RrL W bx B u H t → Seg W ba p → Calls Try.prog 34 #[.pointer (some ⟨bx, 0, none⟩), .slice ba p.length bc] W fun e w' => e = .returned (.int .i64 (feedN H p.length : Int)) ∧ ∃ v', RrL w' bx B v' (feedL H p) t ∧ Kp (WS bx u) W w' ∧ Fresh W u v') := fun W hW hS => rfeed_any bx B u H t ba p bc W hW hle hS hcap (fun g off e hp => by have := hN g off e hp; omega) (by omega)
  have HP0 : Hid (∀ W lg lc, Rd W b H t → Seg W (some ⟨lg, 0, none⟩) p → p.length ≤ lc → lg ≠ b → Calls Try.prog 20 #[.pointer (some ⟨b, 0, none⟩), .slice (some ⟨lg, 0, none⟩) p.length lc] W fun e w' => e = .returned (.int .i64 (feedN H p.length : Int)) ∧ Rd w' b (feedL H p) t ∧ Kp (fun k => k = b) W w') := fun W lg lc hW hS hc hne => feed_any b H t (some ⟨lg, 0, none⟩) p lc W hW hS hc (by intro g off e _; cases e; exact hne) (by omega)
  clear hwA hob hA hul hFl hFN hal
  generalize feedL H p = H' at *
  generalize feedN H p.length = fn at *
  go_enter Try.func11, Try.ntmps11
  go_wp2_with fail
  rw [← HW.out, ← HO.out]
  refine (lend_any ba p bc wA sA hnil hl).mono ?_
  rintro e wL ⟨lg, lc, rfl, lown, bL⟩
  obtain ⟨hln, la', lc', hlv, lseg, hlx, hlc, _⟩ := own_seg lown (M := 255) (by decide) (lent_bd hs.mem)
  simp only [Value.slice.injEq] at hlv
  obtain ⟨rfl, _, rfl⟩ := hlv
  have lgN : wA.heap.size ≤ lg := (hlx _ rfl).2.2.1
  have lgL : lg < wL.heap.size := (hlx _ rfl).2.2.2
  have pL := pA.old bL
  have pD : RPair wL.drew b bx B u H t := pL.old ((Below.refl _ _).drew)
  have sBD : Seg wL.drew ba p := (sA.old bL).drew
  have lsD : Seg wL.drew (some ⟨lg, 0, none⟩) (lentL p) := lseg.drew
  have sPD : Seg wL.drew (some ⟨lg, 0, none⟩) p := by have := lsD.take p.length; rwa [lent_take] at this
  have loD : Row 5 wL.drew wA.heap.size (.slice (some ⟨lg, 0, none⟩) (p.length + 5) lc) (lentL p) := by
    have h1 := lown.drew
    show World.ownsRow _ _ _ _ _ _ _
    rw [lent_len]
    exact h1
  have hlgb : lg ≠ b := by omega
  have hlgx : lg ≠ bx := by omega
  have hplc : p.length ≤ lc := by omega
  have c3D : wL.drew.cell? ⟨ob, 3, none⟩ = some (.slice ba p.length bc) := (bL.cell (p := ⟨ob, 3, none⟩) hobA).trans hc3
  have hoD : ob < wL.drew.heap.size := Nat.lt_of_lt_of_le hobA bL.size
  have HR := HR0
  have HP : Hid (∀ W, Rd W b H t → Seg W (some ⟨lg, 0, none⟩) p → Calls Try.prog 20 #[.pointer (some ⟨b, 0, none⟩), .slice (some ⟨lg, 0, none⟩) p.length lc] W fun e w' => e = .returned (.int .i64 (fn : Int)) ∧ Rd w' b H' t ∧ Kp (fun k => k = b) W w') := fun W h1 h2 => HP0.out W lg lc h1 h2 hplc hlgb
  clear hlx hln lown hlc HP0 HR0 hc0 hc3
  go_wp2_with fail
  go_region_held3 (fun w' => w'.cell? ⟨ob, 3, none⟩ = some (.slice ba p.length bc))
    (first
      | go_keep
      | (first | (rw [World.cell?_of_block (a := ⟨ob, 3, none⟩) (kP.block ob (Nat.lt_of_lt_of_le hoD kR.size) hbo)]; assumption) | (rw [World.cell?_of_block (a := ⟨ob, 3, none⟩) (kP.block ob hoD hbo)]; assumption) | (rw [World.cell?_of_block (a := ⟨ob, 3, none⟩) (kR.block ob (Nat.lt_of_lt_of_le hoD kP.size) hobu)]; assumption) | (rw [World.cell?_of_block (a := ⟨ob, 3, none⟩) (kR.block ob hoD hobu)]; assumption)))
    (first
      | (go_at_call 20; refine (HP.out _ (by first | exact pD.r | exact rX) (by first | exact sPD | exact sPX)).mono ?_; rintro e wP ⟨rfl, gP, kP⟩; first | (have xX := rr_kept pD.x kP hb hb1; have sBX : Seg wP ba p := sBD.kp kP inb) | skip)
      | (go_at_call 34; refine (HR.out _ (by first | exact pD.x | exact xX) (by first | exact sBD | exact sBX)).mono ?_; rintro e wR ⟨rfl, u1, gR, kR, fR⟩; first | (have rX := rd_kept pD.r pD.x kR hb hb1; have sPX : Seg wR (some ⟨lg, 0, none⟩) p := sPD.kp kR (by intro g off e _; cases e; exact newu _ lgN)) | skip))
  have c3R : wR.cell? ⟨ob, 3, none⟩ = some (.slice ba p.length bc) := (World.cell?_of_block (a := ⟨ob, 3, none⟩) (kR.block ob (Nat.lt_of_lt_of_le hoD kP.size) hobu)).trans ((World.cell?_of_block (a := ⟨ob, 3, none⟩) (kP.block ob hoD hbo)).trans c3D)
  have sBR : Seg wR ba p := (sBD.kp kP inb).kp kR inu
  have lsR : Seg wR (some ⟨lg, 0, none⟩) (lentL p) := (lsD.kp kP (by intro g off e _; cases e; exact hlgb)).kp kR (by intro g off e _; cases e; exact newu _ lgN)
  have loR : Row 5 wR wA.heap.size (.slice (some ⟨lg, 0, none⟩) (p.length + 5) lc) (lentL p) := own_kp (own_kp loD kP (by intro k e; cases e; exact hlgb)) kR (by intro k e; cases e; exact newu _ lgN)
  have CK := kept_any ba (some ⟨lg, 0, none⟩) (lentL p) p lc bc wR lsR sBR hnil hl
  rw [lent_len, beq_self_list] at CK
  have HD := rpair_pr pD hb hb1 gP kP gR kR fR HAL.out
  have lgR : lg < wR.heap.size := Nat.lt_of_lt_of_le lgL (Nat.le_trans kP.size kR.size)
  have lgD : lg < wL.drew.heap.size := lgL
  have bD : Below w.heap.size w wL.drew := (bA.trans (bL.mono hszA)).drew
  have HLL : Hid ((lentL p).length = p.length + 5) := lent_len p
  clear HP HR pL pA gP kP gR kR fR lsD lsR loD sPD sBD c3D sBX xX lseg sA
  go_wp2_with fail
  refine CK.mono ?_
  rintro e wK ⟨rfl, bK⟩
  have loK : Row 5 wK wA.heap.size (.slice (some ⟨lg, 0, none⟩) (p.length + 5) lc) (lentL p) := row_below loR bK
  have HDK := HD.then_old bK
  clear CK loR HD c3R
  go_wp2
  go_loopw [53] (fun ti wr => ∃ (i : Nat) (ys : List Int), i ≤ p.length + 5 ∧ ti = .int .i64 (i : Int) ∧ Hid (ys.length = p.length + 5) ∧ Row 5 wr wA.heap.size (.slice (some ⟨lg, 0, none⟩) (p.length + 5) lc) ys ∧ Kp (fun k => k = lg) wK wr) (fun ti _ => p.length + 5 - (intOf ti).toNat)
  case atStart => exact ⟨0, lentL p, Nat.zero_le _, rfl, HLL, loK, Kp.refl _ _⟩
  case round =>
    obtain ⟨i, ys, hi, rfl, hyl, hro, hkk⟩ := hrel
    clear loK
    by_cases hlt : i < p.length + 5
    · have hltI : (i : Int) < (p.length : Int) + 5 := by omega
      obtain ⟨g', hg', hcl, hfz⟩ := row_at hro i (by rw [hyl.out]; exact hlt)
      cases hg'
      have hro' : wr.ownsRow wA.heap.size 5 1 (.slice (some ⟨lg, 0, none⟩) (p.length + 5) lc) (p.length + 5) (ys.map (Value.int .u8)) := by
        have h9 : wr.ownsRow wA.heap.size 5 1 (.slice (some ⟨lg, 0, none⟩) (p.length + 5) lc) ys.length (ys.map (Value.int .u8)) := hro
        rw [hyl.out] at h9
        exact h9
      have hst := hro'.stored i (.int .u8 9)
      rw [← List.map_set] at hst
      have hro2 : Row 5 (wr.setCell ⟨lg, i, none⟩ (.int .u8 9)) wA.heap.size (.slice (some ⟨lg, 0, none⟩) (p.length + 5) lc) (ys.set i 9) := by
        show World.ownsRow _ _ _ _ _ _ _
        rw [List.length_set, hyl.out]
        exact hst.1
      have hkk2 : Kp (fun k => k = lg) wK (wr.setCell ⟨lg, i, none⟩ (.int .u8 9)) := hkk.trans (Kp.set (S := fun k => k = lg) rfl _) (fun _ _ e => e)
      clear hst hro hro'
      go_wp2
      go_roundw
      case rel => exact ⟨i + 1, ys.set i 9, by omega, by go_num, (by show _ = _; rw [List.length_set]; exact hyl.out), hro2, hkk2⟩
      case measure => simp [intOf]; omega
    · have hge : (p.length : Int) + 5 ≤ (i : Int) := by omega
      clear hlt hi
      go_wp2
      go_ret
      obtain ⟨u', h1, h2, h3⟩ := HDK
      refine ⟨rfl, u', h1.kp hkk (fun e => hlgb e.symm) (fun e => hlgx e.symm) (fun k e e2 => ?_), ((Kp.of_below bD).trans h2 (fun _ _ e => e)).trans hkk (fun i hi e => by omega), h3.wide bD.size⟩
      subst e2
      rcases h3 k e with e | e
      · have := (h.x.own_lt k e).2.1
        omega
      · omega
end Go.Proofs.Ytppjcgkgemhilaa
