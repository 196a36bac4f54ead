import Derived.Test.YtbjjddoeilhomaaPw
import Derived.Test.YtbjjddoeilhomaaPq
import Derived.Lib.SlBytesConst
import Derived.Laws.StructEq
import Derived.Test.YtbjjddoeilhomaaPr
namespace Go.Proofs.Ytbjjddoeilhomaa
open Go.RowKit
set_option linter.unusedVariables false

/-! The landed scan: Steps, of nothing and of itself. -/
def StsQ15 (w : World) (X : List (Int × Int × Int)) (e : Ending) (w' : World) : Prop := ∃ ra l rc, e = .returned (.tuple #[.slice ra l rc, .int .i64 0]) ∧ w'.ownsRow w.heap.size 39 3 (.slice ra l rc) l (flat15 X) ∧ X.length = l ∧ Below w.heap.size w w'
theorem own_base15 {w : World} {base base' n sz : Nat} {e : TypeId} {v : Value} {xs : List Value} (h : w.ownsRow base e sz v n xs) (hb : base' ≤ base) : w.ownsRow base' e sz v n xs := by
  refine ⟨h.1, ?_⟩
  rcases h.2 with h | ⟨g, cap, cur, h1, h2, h3⟩
  · exact .inl h
  · exact .inr ⟨g, cap, cur, h1, Nat.le_trans hb h2, h3⟩
theorem IX14.dat15 {w : World} {b n : Nat} {z : List Int} {A : List Nat} (h : IX14 w b n z A) :
    Calls Try.prog 16 #[.pointer (some ⟨b, 0, none⟩)] w fun e w' => ∃ ra rc, e = .returned (.slice ra n rc) ∧ Seg w' ra z ∧ Below w.heap.size w w' := by
  obtain ⟨da, dc, aa, ac, gb, gr, h⟩ := h
  have hv := seg_bd13 h.dat
  exact (pdat13 b da dc aa ac gb gr n z A w h).mono fun e w' ⟨ra, rc, he, _, hown, hB⟩ => ⟨ra, rc, he, own_seg13 hown hv, hB⟩
theorem IX14.at0 {w : World} {b n : Nat} {z : List Int} {A : List Nat} (h : IX14 w b n z A) :
    Calls Try.prog 24 #[.pointer (some ⟨b, 0, none⟩), .int .i64 0] w fun e w' => (∃ v er : Int, e = .returned (.tuple #[.int .i64 v, .int .i64 er]) ∧ (er == 2) = false) ∧ Below w.heap.size w w' := by
  by_cases hn : 0 < n
  · exact (h.at_ hn).mono fun e w' ⟨he, hB⟩ => ⟨⟨_, _, he, by decide⟩, hB⟩
  · exact (h.atn (r := 0) (by omega) (by omega)).mono fun e w' ⟨he, hB⟩ => ⟨⟨_, _, he, by decide⟩, hB⟩
/-- What is left to do, in a quiet run. -/
def Lv15 (w0 : World) (g m : Nat) (z q : List Int) (w : World) (kn : Value) (en ag at_ n : Nat) (T : List (Int × Int × Int)) : Prop := (at_ = m ∧ T = all15 z q) ∨ (at_ < m ∧ T = [] ∧ at_ + n ≤ m ∧ Kw15 False w g z q m w0.heap.size kn en ag (at_ + n) (at_ + n) ∧ ∃ f, m < f + (at_ + n) ∧ all15 z q = run15 z q f 0 0 0 (at_ + n) ∧ Qr15 z q f 0 0 0 (at_ + n))
set_option maxRecDepth 100000 in
set_option maxHeartbeats 16000000 in
theorem pstsq15 (x nz : Nat) (z : List Int) (A : List Nat) (qa : Option Addr) (q : List Int) (m qc : Nat) (w : World) (hI : IX14 w x nz z A) (hq : Seg w qa q) (hm : Hid (q.length = m)) (hmb : m ≤ 16777216) (hqc : m ≤ qc) (hQ : Qr15 z q (m + 1) 0 0 0 0) :
    Calls Try.prog 12 #[.pointer (some ⟨x, 0, none⟩), .slice qa m qc] w (StsQ15 w (all15 z q)) := by
  have HA0 := hI.at0
  have HDA : Hid (∀ W, Below w.heap.size w W → Calls Try.prog 16 #[.pointer (some ⟨x, 0, none⟩)] W fun e w' => ∃ ra rc, e = .returned (.slice ra nz rc) ∧ Seg w' ra z ∧ Below w.heap.size w w') := fun W hb => (hI.old hb).dat15.mono fun e w' ⟨ra, rc, he, hs, hB⟩ => ⟨ra, rc, he, hs, hb.trans (hB.mono hb.size)⟩
  have HIX : Hid (∀ W, Below w.heap.size w W → IX14 W x nz z A) := fun W hb => hI.old hb
  have HSQ : Hid (∀ W, Below w.heap.size w W → Seg W qa q) := fun W hb => hq.old hb
  have hnb := hI.n24
  have HZN : Hid (z.length = nz) := hI.len
  have hm24 : ¬ (16777216 : Int) < (m : Int) := by omega
  have HQQ : Hid (Qr15 z q (m + 1) 0 0 0 0) := hQ
  clear hI hq hQ
  go_enter Try.func12, Try.ntmps12
  go_wp2_with (first
    | (go_at_call 24; refine HA0.mono ?_; rintro e1 w1 ⟨⟨v1, er1, rfl, her⟩, B1⟩; clear HA0)
    | (go_at_call 16; refine (HDA.out w1 B1).mono ?_; rintro e2 w2 ⟨za, zc, rfl, hz2, B2⟩; clear HDA))
  obtain ⟨g, hg⟩ : ∃ g, g = w2.heap.size := ⟨_, rfl⟩
  have SA0 : Sn15 w2 (w2.alloc (.cells #[.slice za nz zc, .slice qa m qc, .pointer (some ⟨x, 0, none⟩), .slice qa m qc, .int .i64 0, .int .i64 0, .slice none 0 0, .slice none 0 0, .slice none 0 0, .int .i64 0, .int .i64 0, .int .i64 0, .int .i64 0, .int .i64 0, .int .i64 0, .int .i64 0, .slice none 0 0] 57)) g x za nz zc qa m qc (0) (0) (.slice none 0 0) (.slice none 0 0) (.slice none 0 0) (0) (0) (0) (0) (0) (0) (0) (.slice none 0 0) := ⟨(Below.refl _ _).alloc (Nat.le_refl _) _, by omega, by rw [hg]; exact heap_alloc_new _ _⟩
  rw [← hg]
  have HG : Hid (g = w2.heap.size) := hg
  have HB2 : Hid (Below w.heap.size w w2) := B2
  have HI2 := HIX.out w2 B2
  have HQ2 := HSQ.out w2 B2
  have HEN : Hid (∀ (en ag at_ n mk l rc : Nat) (kn : Value) (sc : Int) (ra : Option Addr) (W : World), at_ ≤ m → Sn15 w2 W g x za nz zc qa m qc en ag kn (.slice none 0 0) (.slice none 0 0) (0) (0) (0) at_ n sc mk (.slice ra l rc) → Calls Try.prog 25 #[.pointer (some ⟨g, 0, none⟩)] W fun e w' => e = .returned (.bool (decide (at_ = m))) ∧ ∃ k, w' = W.drewN k) := fun en ag at_ n mk l rc kn sc ra W hb hs => pended15 hs hb hmb
  have HLK : Hid (∀ (en ag at_ n mk l rc : Nat) (kn : Value) (sc : Int) (ra : Option Addr) (W : World), at_ + n ≤ m → Sn15 w2 W g x za nz zc qa m qc en ag kn (.slice none 0 0) (.slice none 0 0) (0) (0) (0) at_ n sc mk (.slice ra l rc) → Kw15 False W g z q m w2.heap.size kn en ag (at_ + n) (at_ + n) → Qu15 z q 0 (m - (at_ + n)) (at_ + n) (at_ + n) → Calls Try.prog 26 #[.pointer (some ⟨g, 0, none⟩)] W (LkQ15 False w2 g x za nz zc qa m qc en ag kn (.slice none 0 0) (.slice none 0 0) 0 0 0 at_ n sc mk (.slice ra l rc) z q (look15 z q 0 (m - (at_ + n)) (at_ + n) (at_ + n)) W)) := fun en ag at_ n mk l rc kn sc ra W hb hs hk hu => plook15 hs HI2 hz2 HQ2 HZN hm hnb hmb hqc hb (by omega) hk (fun h => h.elim) (Or.inr hu)
  have HSE : Hid (∀ (en ag n mk l rc : Nat) (kn : Value) (sc : Int) (ra : Option Addr) (T : List (Int × Int × Int)) (W : World), Sn15 w2 W g x za nz zc qa m qc en ag kn (.slice none 0 0) (.slice none 0 0) (0) (0) (0) (m) n sc mk (.slice ra l rc) → Rw15 W w2.heap.size g ra l rc T → l ≤ 16777217 → Calls Try.prog 27 #[.pointer (some ⟨g, 0, none⟩)] W (StpQ15 w2 g x za nz zc qa m qc en ag kn (.slice none 0 0) (.slice none 0 0) 0 0 0 m n sc mk (.slice ra l rc) (T ++ [lst15 z q 0 0]) W)) := fun en ag n mk l rc kn sc ra T W hs hr hl => pstpe15 hs hz2 HQ2 HZN hm hnb hmb (by omega) (by omega) hr hl
  have HR0 : Hid (Rw15 (w2.alloc (.cells #[.slice za nz zc, .slice qa m qc, .pointer (some ⟨x, 0, none⟩), .slice qa m qc, .int .i64 0, .int .i64 0, .slice none 0 0, .slice none 0 0, .slice none 0 0, .int .i64 0, .int .i64 0, .int .i64 0, .int .i64 0, .int .i64 0, .int .i64 0, .int .i64 0, .slice none 0 0] 57)) w2.heap.size g none 0 0 []) := ⟨World.ownsRow_nil _ _ _ _, (by intro e; cases e), rfl⟩
  have HLV : Hid (∀ W, Lv15 w2 g m z q W (.slice none 0 0) 0 0 0 0 []) := fun W => by
    by_cases c : m = 0
    · left
      refine ⟨c.symm, ?_⟩
      unfold all15
      rw [hm.out, if_pos c]
    · right
      refine ⟨by omega, rfl, by omega, Or.inr ⟨rfl, rfl, by omega, by omega⟩, m + 1, by omega, ?_, HQQ.out⟩
      unfold all15
      rw [hm.out, if_neg c]
  have HSA : Hid (Sn15 w2 (w2.alloc (.cells #[.slice za nz zc, .slice qa m qc, .pointer (some ⟨x, 0, none⟩), .slice qa m qc, .int .i64 0, .int .i64 0, .slice none 0 0, .slice none 0 0, .slice none 0 0, .int .i64 0, .int .i64 0, .int .i64 0, .int .i64 0, .int .i64 0, .int .i64 0, .int .i64 0, .slice none 0 0] 57)) g x za nz zc qa m qc (0) (0) (.slice none 0 0) (.slice none 0 0) (.slice none 0 0) (0) (0) (0) (0) (0) (0) (0) (.slice none 0 0)) := SA0
  clear HI2 HQ2 hz2 SA0 HIX HSQ hg B2
  generalize w2.alloc (.cells #[.slice za nz zc, .slice qa m qc, .pointer (some ⟨x, 0, none⟩), .slice qa m qc, .int .i64 0, .int .i64 0, .slice none 0 0, .slice none 0 0, .slice none 0 0, .int .i64 0, .int .i64 0, .int .i64 0, .int .i64 0, .int .i64 0, .int .i64 0, .int .i64 0, .slice none 0 0] 57) = w3 at *
  have HLK1 : Hid (∀ (a : Nat), a ≤ m → Lk15 z q 0 a (look15 z q 0 (m - a) a a)) := fun a ha => by
    have := look15_lk z q 0 (m - a) a a (by rw [hm.out]; omega) (by rw [hm.out]; omega)
    exact this
  go_loopw [] (fun wr => ∃ (en ag at_ n mk l rc : Nat) (kn : Value) (sc : Int) (ra : Option Addr) (T : List (Int × Int × Int)), (Sn15 w2 wr g x za nz zc qa m qc en ag kn (.slice none 0 0) (.slice none 0 0) (0) (0) (0) at_ n sc mk (.slice ra l rc)) ∧ Hid (Rw15 wr w2.heap.size g ra l rc T) ∧ Hid (Lv15 w2 g m z q wr kn en ag at_ n T) ∧ at_ ≤ m) (fun wr => (m - (cell15 wr g 12 + cell15 wr g 13)) + (if cell15 wr g 12 < m then 1 else 0))
  case atStart => exact ⟨0, 0, 0, 0, 0, 0, 0, .slice none 0 0, 0, none, [], HSA.out, HR0.out, HLV.out _, by omega⟩
  case round =>
    obtain ⟨en, ag, at_, n, mk, l, rc, kn, sc, ra, T, SR, HRW, HLV1, hatm⟩ := hrel
    clear HSA HR0 HLV
    have CE := HEN.out en ag at_ n mk l rc kn sc ra wr hatm SR
    have HSR : Hid (Sn15 w2 wr g x za nz zc qa m qc en ag kn (.slice none 0 0) (.slice none 0 0) (0) (0) (0) at_ n sc mk (.slice ra l rc)) := SR
    have HMS : Hid ((m - (cell15 wr g 12 + cell15 wr g 13)) + (if cell15 wr g 12 < m then 1 else 0) = (m - (at_ + n)) + (if at_ < m then 1 else 0)) := by
      show _ = _
      rw [cell15_of (SR.cell 12 _ rfl), cell15_of (SR.cell 13 _ rfl)]
      simp
    clear SR
    rcases HLV1.out with ⟨hat0, hT⟩ | ⟨hat, hT, hsum, hK, f, hf, hrun, hqr⟩
    · rw [decide_eq_true hat0] at CE
      have HT : Hid (T = all15 z q) := hT
      clear hT
      go_wp2_with (first
        | (go_at_call 25; refine CE.mono ?_; rintro e3 w4 ⟨rfl, kk, hw4⟩; have S4 := HSR.out.drewN kk; have R4 := HRW.out.old (drewN_below15 wr kk); rw [← hw4] at S4 R4; clear hw4 CE; have c16 := S4.cell 16 _ rfl; have HS4 : Hid (Sn15 w2 w4 g x za nz zc qa m qc en ag kn (.slice none 0 0) (.slice none 0 0) (0) (0) (0) at_ n sc mk (.slice ra l rc)) := S4; have HR4 : Hid (Rw15 w4 w2.heap.size g ra l rc T) := R4; clear S4 R4))
      refine bodyPost_ret (results_tmp2 rfl _ _ _) rfl ?_
      exact ⟨ra, l, rc, rfl, by rw [← HT.out]; exact own_base15 HR4.out.own HB2.out.size, by rw [← HT.out]; exact HR4.out.len, HB2.out.trans (HS4.out.bl.mono HB2.out.size)⟩
    · rw [decide_eq_false (by omega : ¬ at_ = m)] at CE
      subst hT
      obtain ⟨a, ha⟩ : ∃ a, a = at_ + n := ⟨_, rfl⟩
      obtain ⟨f, rfl⟩ : ∃ f', f = f' + 1 := ⟨f - 1, by omega⟩
      obtain ⟨hqu, hqc2⟩ := hqr
      rw [hm.out] at hqu hqc2
      have hrun2 := hrun
      unfold run15 at hrun2
      rw [hm.out, ← ha] at hrun2
      rw [← ha] at hqu hqc2
      have HKK : Hid (∀ kk, (Sn15 w2 (wr.drewN kk) g x za nz zc qa m qc en ag kn (.slice none 0 0) (.slice none 0 0) (0) (0) (0) at_ n sc mk (.slice ra l rc)) ∧ Kw15 False (wr.drewN kk) g z q m w2.heap.size kn en ag (at_ + n) (at_ + n) ∧ Rw15 (wr.drewN kk) w2.heap.size g ra l rc []) := fun kk => ⟨HSR.out.drewN kk, hK.kpg ((Kp.refl _ wr).drewN kk), HRW.out.old (drewN_below15 wr kk)⟩
      have HLL : Hid (∀ W, (Sn15 w2 W g x za nz zc qa m qc en ag kn (.slice none 0 0) (.slice none 0 0) (0) (0) (0) at_ n sc mk (.slice ra l rc)) → Kw15 False W g z q m w2.heap.size kn en ag (at_ + n) (at_ + n) → Calls Try.prog 26 #[.pointer (some ⟨g, 0, none⟩)] W (LkQ15 False w2 g x za nz zc qa m qc en ag kn (.slice none 0 0) (.slice none 0 0) 0 0 0 at_ n sc mk (.slice ra l rc) z q (look15 z q 0 (m - a) a a) W)) := fun W hs hk => by
        have := HLK.out en ag at_ n mk l rc kn sc ra W hsum hs hk (by rw [← ha]; exact hqu)
        rwa [← ha] at this
      have hlk := HLK1.out a (by omega)
      have hl0 : l = 0 := by rw [← HRW.out.len]; rfl
      have haa : a ≤ m := by omega
      have HAA : Hid (a = at_ + n) := ha
      obtain ⟨R, hR⟩ : ∃ R, R = look15 z q 0 (m - a) a a := ⟨_, rfl⟩
      rw [← hR] at HLL hlk hrun2 hqc2
      clear hR hK hqu hrun HLV1 HLK HLK1 HQQ ha
      obtain ⟨k1, k2, k3, k4⟩ := hlk
      obtain ⟨R1, R2, R3⟩ := R
      dsimp only at *
      rw [hm.out] at k2 k3 k4
      by_cases hend : R1 = m
      · have hend2 : m = R1 := hend.symm
        subst hend2
        rw [if_pos rfl] at hrun2
        have HRUN : Hid (all15 z q = [lst15 z q 0 0]) := hrun2
        clear hrun2 hqc2 k4
        go_wp2_with (first
          | (go_at_call 25; refine CE.mono ?_; rintro e3 w4 ⟨rfl, kk, hw4⟩; obtain ⟨S4, K4, R4⟩ := HKK.out kk; rw [← hw4] at S4 K4 R4; clear hw4 CE; have CL := HLL.out w4 S4 K4; clear S4 K4)
          | (go_at_call 26; fail))
        refine CL.mono ?_
        rintro e5 w5 ⟨rfl, en2, ag2, n2, kn2, S5, hn2, KW5, K5⟩
        have R5 := R4.kpg K5
        clear CL R4
        dsimp only at S5 hn2 KW5
        have HKW5 : Hid (Kw15 False w5 g z q m w2.heap.size kn2 en2 ag2 m (m + n2)) := KW5
        have HR5 : Hid (Rw15 w5 w2.heap.size g ra l rc []) := R5
        obtain ⟨C, hC⟩ : ∃ C, C = sco15 z q 0 R3 m := ⟨_, rfl⟩
        rw [← hC] at S5
        have y13 := S5.cell 13 _ rfl
        have y14 := S5.cell 14 _ rfl
        have HS5 : Hid (Sn15 w2 w5 g x za nz zc qa m qc (en2) (ag2) (kn2) (.slice none 0 0) (.slice none 0 0) (0) (0) (0) (m) (n2) (C) (R3) (.slice ra l rc)) := S5
        have HC : Hid (C = sco15 z q 0 R3 m) := hC
        clear R5 S5 K5 KW5 hC
        have CE5 := HEN.out en2 ag2 m n2 R3 l rc kn2 C ra w5 k2 HS5.out
        rw [decide_eq_true rfl] at CE5
        by_cases hns : (n2 : Int) = C
        · subst hns
          go_wp2_with (first
            | (go_at_call 25; refine CE5.mono ?_; rintro e6 w6 ⟨rfl, kk6, hw6⟩; have S6 := HS5.out.drewN kk6; have R6 := HR5.out.old (drewN_below15 w5 kk6); rw [← hw6] at S6 R6; clear hw6 CE5; have CS := HSE.out en2 ag2 n2 R3 l rc kn2 _ ra [] w6 S6 R6 (by omega); clear S6 R6)
            | (go_at_call 27; refine CS.mono ?_; rintro e7 w7 ⟨rfl, ra2, l2, rc2, S7, R7⟩; have HS7 : Hid (Sn15 w2 w7 g x za nz zc qa m qc (en2) (ag2) (kn2) (.slice none 0 0) (.slice none 0 0) (0) (0) (0) (m) (n2) ((n2 : Int)) (R3) (.slice ra2 l2 rc2)) := S7; have HR7 : Hid (Rw15 w7 w2.heap.size g ra2 l2 rc2 ([] ++ [lst15 z q 0 0])) := R7; clear S7 R7 CS))
          go_roundw
          case rel => exact ⟨en2, ag2, m, n2, R3, l2, rc2, kn2, _, ra2, _, HS7.out, HR7, Or.inl ⟨rfl, HRUN.out.symm⟩, k2⟩
          case measure => rw [HMS.out, cell15_of (HS7.out.cell 12 _ rfl), cell15_of (HS7.out.cell 13 _ rfl), if_pos hat]; simp only [Int.toNat_natCast]; rw [if_neg (Nat.lt_irrefl m)]; omega
        · have hnb2 : ((n2 : Int) != C) = true := by simpa using hns
          have CS := HSE.out en2 ag2 n2 R3 l rc kn2 _ ra [] w5 HS5.out HR5.out (by omega)
          go_wp2_with (first
            | (go_at_call 27; refine CS.mono ?_; rintro e7 w7 ⟨rfl, ra2, l2, rc2, S7, R7⟩; have HS7 : Hid (Sn15 w2 w7 g x za nz zc qa m qc (en2) (ag2) (kn2) (.slice none 0 0) (.slice none 0 0) (0) (0) (0) (m) (n2) (C) (R3) (.slice ra2 l2 rc2)) := S7; have HR7 : Hid (Rw15 w7 w2.heap.size g ra2 l2 rc2 ([] ++ [lst15 z q 0 0])) := R7; clear S7 R7 CS))
          go_roundw
          case rel => exact ⟨en2, ag2, m, n2, R3, l2, rc2, kn2, _, ra2, _, HS7.out, HR7, Or.inl ⟨rfl, HRUN.out.symm⟩, k2⟩
          case measure => rw [HMS.out, cell15_of (HS7.out.cell 12 _ rfl), cell15_of (HS7.out.cell 13 _ rfl), if_pos hat]; simp only [Int.toNat_natCast]; rw [if_neg (Nat.lt_irrefl m)]; omega
      · have hlt : R1 < m := by omega
        rw [if_neg hend] at hrun2
        obtain ⟨hns, hqr2⟩ := hqc2.resolve_left hend
        rw [if_pos hns] at hrun2
        obtain ⟨-, j2, j3, -⟩ := k4 hlt
        have HRUN : Hid (all15 z q = run15 z q f 0 0 0 (R1 + R2)) := hrun2
        have HQR : Hid (Qr15 z q f 0 0 0 (R1 + R2)) := hqr2
        have HNS : Hid ((R2 : Int) = sco15 z q 0 R3 R1) := hns
        clear hrun2 hqr2 hns hqc2 k4
        go_wp2_with (first
          | (go_at_call 25; refine CE.mono ?_; rintro e3 w4 ⟨rfl, kk, hw4⟩; obtain ⟨S4, K4, R4⟩ := HKK.out kk; rw [← hw4] at S4 K4 R4; clear hw4 CE; have CL := HLL.out w4 S4 K4; clear S4 K4)
          | (go_at_call 26; fail))
        refine CL.mono ?_
        rintro e5 w5 ⟨rfl, en2, ag2, n2, kn2, S5, hn2, KW5, K5⟩
        have R5 := R4.kpg K5
        clear CL R4
        dsimp only at S5 hn2 KW5
        have HKW5 : Hid (Kw15 False w5 g z q m w2.heap.size kn2 en2 ag2 R1 (R1 + n2)) := KW5
        have HR5 : Hid (Rw15 w5 w2.heap.size g ra l rc []) := R5
        obtain ⟨C, hC⟩ : ∃ C, C = sco15 z q 0 R3 R1 := ⟨_, rfl⟩
        rw [← hC] at S5
        have y13 := S5.cell 13 _ rfl
        have y14 := S5.cell 14 _ rfl
        have HS5 : Hid (Sn15 w2 w5 g x za nz zc qa m qc (en2) (ag2) (kn2) (.slice none 0 0) (.slice none 0 0) (0) (0) (0) (R1) (n2) (C) (R3) (.slice ra l rc)) := S5
        have HC : Hid (C = sco15 z q 0 R3 R1) := hC
        clear R5 S5 K5 KW5 hC
        have CE5 := HEN.out en2 ag2 R1 n2 R3 l rc kn2 C ra w5 k2 HS5.out
        rw [decide_eq_false hend] at CE5
        obtain rfl := hn2 hlt
        have hns : (n2 : Int) = C := by rw [HC.out]; exact HNS.out
        subst hns
        go_wp2_with (first
          | (go_at_call 25; refine CE5.mono ?_; rintro e6 w6 ⟨rfl, kk6, hw6⟩; have S6 := HS5.out.drewN kk6; have R6 := HR5.out.old (drewN_below15 w5 kk6); have KW6 := HKW5.out.kpg ((Kp.refl (fun k => k = g) w5).drewN kk6); rw [← hw6] at S6 R6 KW6; clear hw6 CE5; have HS6 : Hid (Sn15 w2 w6 g x za nz zc qa m qc (en2) (ag2) (kn2) (.slice none 0 0) (.slice none 0 0) (0) (0) (0) (R1) (n2) ((n2 : Int)) (R3) (.slice ra l rc)) := S6; have HR6 : Hid (Rw15 w6 w2.heap.size g ra l rc []) := R6; have HKW6 : Hid (Kw15 False w6 g z q m w2.heap.size kn2 en2 ag2 R1 (R1 + n2)) := KW6; clear S6 R6 KW6))
        go_roundw
        case rel => exact ⟨en2, ag2, R1, n2, R3, l, rc, kn2, _, ra, [], HS6.out, HR6, Or.inr ⟨hlt, rfl, j3, HKW6.out.mono (by omega) (Or.inr (by omega)), f, (by have := HAA.out; omega), HRUN.out, HQR.out⟩, k2⟩
        case measure => rw [HMS.out, cell15_of (HS6.out.cell 12 _ rfl), cell15_of (HS6.out.cell 13 _ rfl)]; have := HAA.out; simp [hlt, hat]; omega
end Go.Proofs.Ytbjjddoeilhomaa

namespace Go.Proofs.Ytbjjddoeilhomaa
open Go.RowKit
set_option linter.unusedVariables false

/-! The law's helpers of layer 15: index, lives. -/
set_option maxRecDepth 100000 in
set_option maxHeartbeats 1000000 in
theorem pidx15 (a : Option Addr) (z : List Int) (n cap : Nat) (w : World) (hs : Seg w a z) (hnil : a = none → cap = 0) (hn : Hid (z.length = n)) (hb : n ≤ 16777216) :
    Calls Try.prog 10 #[.slice a n cap] w fun e w' => ∃ b A, e = .returned (.pointer (some ⟨b, 0, none⟩)) ∧ IX14 w' b n z A ∧ Below w.heap.size w w' := by
  have HN := pnew13 a z n cap w hs hnil hn hb
  clear hs
  go_enter Try.func10, Try.ntmps10
  go_wp2_with (first
    | (go_at_call 23; refine HN.mono ?_; rintro e1 w1 ⟨b, da, dc, aa, ac, gb, gr, A, rfl, hI, B1, -⟩; clear HN))
  go_ret
  exact ⟨b, A, rfl, ⟨da, dc, aa, ac, gb, gr, hI⟩, B1⟩
set_option maxRecDepth 100000 in
set_option maxHeartbeats 1000000 in
theorem pidxn15 (a : Option Addr) (n cap : Nat) (w : World) (hb : 16777216 < n) (hb2 : n ≤ 9223372036854775807) :
    Calls Try.prog 10 #[.slice a n cap] w fun e w' => e = .returned (.pointer none) ∧ w' = w := by
  have HN := pnewn13 a n cap w hb hb2
  go_enter Try.func10, Try.ntmps10
  go_wp2_with (first
    | (go_at_call 23; refine HN.mono ?_; rintro e1 w1 ⟨rfl, hw1⟩; subst hw1; clear HN))
  go_ret
  exact ⟨rfl, rfl⟩
theorem seg_lit15 (w : World) (zs : List Int) (t : TypeId) (fr : Nat × Nat) (h : ∀ z ∈ zs, 0 ≤ z ∧ z ≤ 255) : Seg (w.alloc (.cells (zs.map (Value.int .u8)).toArray t fr)) (some ⟨w.heap.size, 0, none⟩) zs := by
  refine ⟨fun i hi => ⟨w.heap.size, 0, rfl, ?_⟩, by decide, getD_bd (by decide) h⟩
  have e : zs.getD i 0 = zs[i] := by simp [List.getD, hi]
  rw [e, Nat.zero_add, World.cell?_alloc_mark]
  simp [hi]
/-- One step, in memory. -/
structure One15 (w : World) (g : Nat) (x y v : Int) : Prop where
  c0 : w.cell? ⟨g, 0, none⟩ = some (.int .i64 x)
  c1 : w.cell? ⟨g, 1, none⟩ = some (.int .i64 y)
  c2 : w.cell? ⟨g, 2, none⟩ = some (.int .i64 v)
theorem One15.old {w w' : World} {g : Nat} {x y v : Int} (h : One15 w g x y v) (hb : Below w.heap.size w w') : One15 w' g x y v :=
  ⟨(hb.cell (p := ⟨g, 0, none⟩) (World.block_lt_of_cell? w _ h.c0)).trans h.c0, (hb.cell (p := ⟨g, 1, none⟩) (World.block_lt_of_cell? w _ h.c1)).trans h.c1, (hb.cell (p := ⟨g, 2, none⟩) (World.block_lt_of_cell? w _ h.c2)).trans h.c2⟩
theorem one15 {w w' : World} {e : Ending} {x y v : Int} (h : StsQ15 w [(x, y, v)] e w') : ∃ g rc, e = .returned (.tuple #[.slice (some ⟨g, 0, none⟩) 1 rc, .int .i64 0]) ∧ 1 ≤ rc ∧ One15 w' g x y v ∧ w.heap.size ≤ g ∧ Below w.heap.size w w' := by
  obtain ⟨ra, l, rc, he, hown, hl, hB⟩ := h
  have hl1 : l = 1 := by rw [← hl]; rfl
  subst hl1
  rcases hown.2 with ⟨h1, h2⟩ | ⟨g, cap, cur, h1, h2, h3, h4, h5⟩
  · cases h1
  · cases h1
    refine ⟨g, rc, he, h4, ⟨?_, ?_, ?_⟩, h2, hB⟩
    · rw [hown.cellAt 0 (by omega)]; rfl
    · rw [hown.cellAt 1 (by omega)]; rfl
    · rw [hown.cellAt 2 (by omega)]; rfl
theorem zero15 {w w' : World} {e : Ending} (h : StsQ15 w [] e w') : ∃ ra rc, e = .returned (.tuple #[.slice ra 0 rc, .int .i64 0]) ∧ Below w.heap.size w w' := by
  obtain ⟨ra, l, rc, he, hown, hl, hB⟩ := h
  have hl1 : l = 0 := by rw [← hl]; rfl
  subst hl1
  exact ⟨ra, rc, he, hB⟩
set_option maxRecDepth 100000 in
set_option maxHeartbeats 4000000 in
theorem plives15 (w : World) : Calls Try.prog 9 #[] w fun e w' => e = .returned (.bool true) ∧ Below w.heap.size w w' := by
  have HX0 := pidx15 none [] 0 0 w (SegK.nil (by decide) _ _) (fun _ => rfl) rfl (by omega)
  have HC3 : Hid (∀ w1 : World, (convert 23 23 (.slice (some ⟨w1.heap.size, 0, none⟩) 3 3)).run Try.prog (w1.alloc (.cells #[.int .u8 97, .int .u8 98, .int .u8 99] 5)) = .ok (.slice (some ⟨w1.heap.size, 0, none⟩) 3 3) (w1.alloc (.cells #[.int .u8 97, .int .u8 98, .int .u8 99] 5 (3, 4)))) := fun w1 => Lib.run_convert_bytes_const (P := Try.prog) w1 23 5 #[.int .u8 97, .int .u8 98, .int .u8 99] 3 3 Try.underlying23 Try.underlying5
  have HC10 : Hid (∀ w1 : World, (convert 23 23 (.slice (some ⟨w1.heap.size, 0, none⟩) 10 10)).run Try.prog (w1.alloc (.cells #[.int .u8 97, .int .u8 98, .int .u8 99, .int .u8 100, .int .u8 101, .int .u8 102, .int .u8 103, .int .u8 104, .int .u8 105, .int .u8 106] 5)) = .ok (.slice (some ⟨w1.heap.size, 0, none⟩) 10 10) (w1.alloc (.cells #[.int .u8 97, .int .u8 98, .int .u8 99, .int .u8 100, .int .u8 101, .int .u8 102, .int .u8 103, .int .u8 104, .int .u8 105, .int .u8 106] 5 (10, 11)))) := fun w1 => Lib.run_convert_bytes_const (P := Try.prog) w1 23 5 #[.int .u8 97, .int .u8 98, .int .u8 99, .int .u8 100, .int .u8 101, .int .u8 102, .int .u8 103, .int .u8 104, .int .u8 105, .int .u8 106] 10 10 Try.underlying23 Try.underlying5
  have A1 : all15 [] [97, 98, 99] = [(0, 3, 0)] := none15 [97, 98, 99] (by decide)
  have A2 : all15 [97, 98, 99, 100, 101, 102, 103, 104, 105, 106] [97, 98, 99, 100, 101, 102, 103, 104, 105, 106] = [(10, 0, 0)] := self15 [97, 98, 99, 100, 101, 102, 103, 104, 105, 106] (by decide)
  have HS1 : Hid (∀ (W : World) (b : Nat) (A : List Nat) (qa : Option Addr), IX14 W b 0 [] A → Seg W qa [97, 98, 99] → Calls Try.prog 12 #[.pointer (some ⟨b, 0, none⟩), .slice qa 3 3] W (StsQ15 W [(0, 3, 0)])) := fun W b A qa hI hs => by
    rw [← A1]
    exact pstsq15 b 0 [] A qa [97, 98, 99] 3 3 W hI hs rfl (by omega) (by omega) (qr_none15 _ _)
  have HS2 : Hid (∀ (W : World) (b : Nat) (A : List Nat) (qa : Option Addr), IX14 W b 10 [97, 98, 99, 100, 101, 102, 103, 104, 105, 106] A → Seg W qa [97, 98, 99, 100, 101, 102, 103, 104, 105, 106] → Calls Try.prog 12 #[.pointer (some ⟨b, 0, none⟩), .slice qa 10 10] W (StsQ15 W [(10, 0, 0)])) := fun W b A qa hI hs => by
    rw [← A2]
    exact pstsq15 b 10 _ A qa _ 10 10 W hI hs rfl (by omega) (by omega) (qr_self15 _ (by decide) _)
  have HX1 : Hid (∀ (W : World) (qa : Option Addr), Seg W qa [97, 98, 99, 100, 101, 102, 103, 104, 105, 106] → (qa = none → 10 = 0) → Calls Try.prog 10 #[.slice qa 10 10] W fun e w' => ∃ b A, e = .returned (.pointer (some ⟨b, 0, none⟩)) ∧ IX14 w' b 10 [97, 98, 99, 100, 101, 102, 103, 104, 105, 106] A ∧ Below W.heap.size W w') := fun W qa hs hn => pidx15 qa _ 10 10 W hs hn rfl (by omega)
  clear A1 A2
  go_enter Try.func9, Try.ntmps9
  go_wp2_with (first
    | (go_at_call 10; refine HX0.mono ?_; rintro e1 w1 ⟨b, A, rfl, hI, B1⟩; clear HX0; have hc3 := HC3.out w1)
    | (go_at_call 12; fail))
  have D1 : Below w1.heap.size w1 (w1.alloc (.cells #[.int .u8 97, .int .u8 98, .int .u8 99] 5 (3, 4))) := (Below.refl _ _).alloc (Nat.le_refl _) _
  refine (HS1.out _ b A _ (hI.old D1) (seg_lit15 w1 [97, 98, 99] 5 (3, 4) (by decide))).mono ?_
  intro e2 w2 hq2
  obtain ⟨g2, r2, rfl, hr2, O2, -, B2⟩ := one15 hq2
  have F2 : Below w.heap.size w w2 := (B1.trans (D1.mono B1.size)).trans (B2.mono (by have := B1.size; have := D1.size; omega))
  clear hq2 HS1 hI D1 B2 HC3 B1
  have hc10 := HC10.out w2
  go_wp2_with (first
    | (go_at_call 10; fail))
  have D2 : Below w2.heap.size w2 (w2.alloc (.cells #[.int .u8 97, .int .u8 98, .int .u8 99, .int .u8 100, .int .u8 101, .int .u8 102, .int .u8 103, .int .u8 104, .int .u8 105, .int .u8 106] 5 (10, 11))) := (Below.refl _ _).alloc (Nat.le_refl _) _
  refine (HX1.out _ _ (seg_lit15 w2 [97, 98, 99, 100, 101, 102, 103, 104, 105, 106] 5 (10, 11) (by decide)) (by intro h; cases h)).mono ?_
  rintro e3 w3 ⟨b3, A3, rfl, hI3, B3⟩
  have D3 := D2.trans (B3.mono D2.size)
  have F3 : Below w.heap.size w w3 := F2.trans (D3.mono F2.size)
  have O3 := O2.old D3
  clear HX1 D2 B3 F2 O2 hc10 D3
  have hc10 := HC10.out w3
  go_wp2_with (first
    | (go_at_call 12; fail))
  have D4 : Below w3.heap.size w3 (w3.alloc (.cells #[.int .u8 97, .int .u8 98, .int .u8 99, .int .u8 100, .int .u8 101, .int .u8 102, .int .u8 103, .int .u8 104, .int .u8 105, .int .u8 106] 5 (10, 11))) := (Below.refl _ _).alloc (Nat.le_refl _) _
  refine (HS2.out _ b3 A3 _ (hI3.old D4) (seg_lit15 w3 [97, 98, 99, 100, 101, 102, 103, 104, 105, 106] 5 (10, 11) (by decide))).mono ?_
  intro e5 w5 hq5
  obtain ⟨g5, r5, rfl, hr5, O5, -, B5⟩ := one15 hq5
  have D5 := D4.trans (B5.mono D4.size)
  have F5 : Below w.heap.size w w5 := F3.trans (D5.mono F3.size)
  have P5 := O3.old D5
  clear hq5 HS2 hI3 D4 B5 HC10 F3 O3 D5 hc10
  obtain ⟨x0, x1, x2⟩ := O5
  obtain ⟨y0, y1, y2⟩ := P5
  go_wp2_with fail
  go_ret
  exact ⟨by first | rfl | simp, F5⟩
end Go.Proofs.Ytbjjddoeilhomaa

namespace Go.Proofs.Ytbjjddoeilhomaa
open Go.RowKit
set_option linter.unusedVariables false

/-! The document's Stands, less, Range, common, Longest (layer 14). -/
theorem drop_get14 (z : List Int) (i m : Nat) : (z.drop i).getD m 0 = z.getD (i + m) 0 := by simp [List.getD]
theorem cv_at14 {z p : List Int} {n m at_ i : Nat} (hn : z.length = n) (hm : p.length = m) (hat : at_ ≤ n) (hi : i ≤ lc13 (z.drop at_) p) (him : i < m) :
    (¬ at_ + i < n → cv13 (z.drop at_) p < 0) ∧ (at_ + i < n → z.getD (at_ + i) 0 = p.getD i 0 → i + 1 ≤ lc13 (z.drop at_) p) ∧ (at_ + i < n → ¬ z.getD (at_ + i) 0 = p.getD i 0 → (cv13 (z.drop at_) p < 0 ↔ z.getD (at_ + i) 0 < p.getD i 0) ∧ ¬ cv13 (z.drop at_) p = 0) := by
  have hdl : (z.drop at_).length = n - at_ := by rw [List.length_drop, hn]
  refine ⟨fun h => ?_, fun h e => ?_, fun h e => ?_⟩
  · have h1 := lc13_le (z.drop at_) p
    have h2 : lc13 (z.drop at_) p = (z.drop at_).length := by omega
    exact cv13_neg_iff.2 ((ll_iff13 _ _ (by omega)).2 (Or.inl h2))
  · exact lc13_more hi (by omega) (by omega) (by rw [drop_get14]; exact e)
  · have h1 : lc13 (z.drop at_) p = i := lc13_stop hi (by rw [drop_get14]; exact e)
    have h2 : ¬ lc13 (z.drop at_) p = p.length := by omega
    refine ⟨?_, fun k => h2 (cv13_zero_iff.1 k)⟩
    rw [cv13_neg_iff, ll_iff13 _ _ h2, h1, drop_get14]
    constructor
    · rintro (c | c)
      · omega
      · exact c
    · exact fun c => Or.inr c
/-- The ranks, of which so many places are counted. -/
noncomputable def loK14 (z p : List Int) (k : Nat) : Nat := cn12 (fun j => cv13 (z.drop j) p < 0) k
noncomputable def hiK14 (z p : List Int) (k : Nat) : Nat := cn12 (fun j => cv13 (z.drop j) p ≤ 0) k
theorem loK14_yes {z p : List Int} {k : Nat} (h : cv13 (z.drop k) p < 0) : loK14 z p (k + 1) = loK14 z p k + 1 := by
  unfold loK14
  show cn12 _ k + _ = _
  rw [if_pos h]
theorem loK14_no {z p : List Int} {k : Nat} (h : ¬ cv13 (z.drop k) p < 0) : loK14 z p (k + 1) = loK14 z p k := by
  unfold loK14
  show cn12 _ k + _ = _
  rw [if_neg h]
  rfl
theorem hiK14_yes {z p : List Int} {k : Nat} (h : cv13 (z.drop k) p ≤ 0) : hiK14 z p (k + 1) = hiK14 z p k + 1 := by
  unfold hiK14
  show cn12 _ k + _ = _
  rw [if_pos h]
theorem hiK14_no {z p : List Int} {k : Nat} (h : ¬ cv13 (z.drop k) p ≤ 0) : hiK14 z p (k + 1) = hiK14 z p k := by
  unfold hiK14
  show cn12 _ k + _ = _
  rw [if_neg h]
  rfl
theorem below_drewN14 (w : World) (d : Nat) : Below w.heap.size w (w.drewN d) := ⟨rfl, rfl, rfl, Nat.le_refl _, fun _ _ => rfl⟩
theorem drewN14 (w : World) (a b : Nat) : (w.drewN a).drewN b = w.drewN (a + b) := by simp [World.drewN, Nat.add_assoc]
end Go.Proofs.Ytbjjddoeilhomaa
