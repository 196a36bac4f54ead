import Derived.Test.YtbjjddoeilhomaaPv
import Derived.Test.YtbjjddoeilhomaaPh
import Derived.Test.YtbjjddoeilhomaaPt
import Derived.Deep.AppendLies
import Derived.Deep.RegionLaw
namespace Go.Proofs.Ytbjjddoeilhomaa
open Go.RowKit
set_option linter.unusedVariables false

/-! The landed scan: look. -/
theorem sco_next15 (z q : List Int) (sh : Int) (mk k : Nat) : sco15 z q sh mk (k + 1) = sco15 z q sh mk k - (if sm15 z q sh k then 1 else 0) := by
  unfold sco15
  rw [ct15_succ]
  split <;> omega
theorem sco_self15 (z q : List Int) (sh : Int) (k : Nat) : sco15 z q sh k k = 0 := by unfold sco15; omega
def LkQ15 (S : Prop) (w0 : World) (g x : Nat) (za : Option Addr) (nz zc : Nat) (qa : Option Addr) (m qc en ag : Nat) (kn ar le : Value) (d b : Nat) (sh : Int) (at_ n : Nat) (sc : Int) (mk : Nat) (st : Value) (z q : List Int) (R : Nat × Nat × Nat) (w : World) (e : Ending) (w' : World) : Prop := e = .returned (.tuple #[]) ∧ ∃ (en2 ag2 n2 : Nat) (kn2 : Value), (Sn15 w0 w' g x za nz zc qa m qc (en2) (ag2) (kn2) ar le d b sh (R.1) (n2) (sco15 z q sh R.2.2 R.1) (R.2.2) st) ∧ (R.1 < m → n2 = R.2.1) ∧ Kw15 S w' g z q m w0.heap.size kn2 en2 ag2 R.1 (R.1 + n2) ∧ Kp (fun k => k = g) w w'
section
variable {w0 w w' : World} {g x nz zc m qc en ag d b at_ n mk : Nat} {za qa : Option Addr} {kn ar le st : Value} {sh sc : Int} {z q : List Int}
set_option maxRecDepth 100000 in
set_option maxHeartbeats 16000000 in
theorem plook15 {S : Prop} {A : List Nat} (h : Sn15 w0 w g x za nz zc qa m qc en ag kn ar le d b sh at_ n sc mk st) (hI : IX14 w0 x nz z A) (hz : Seg w0 za z) (hq : Seg w0 qa q) (hn : Hid (z.length = nz)) (hm : Hid (q.length = m)) (hnb : nz ≤ 16777216) (hmb : m ≤ 16777216) (hqc : m ≤ qc) (hat : at_ + n ≤ m) (hsh : -16777216 ≤ sh ∧ sh ≤ 16777216) (hK : Kw15 S w g z q m w0.heap.size kn en ag (at_ + n) (at_ + n)) (hS : S → StC15 x nz z A) (hQ : S ∨ Qu15 z q sh (m - (at_ + n)) (at_ + n) (at_ + n)) :
    Calls Try.prog 26 #[.pointer (some ⟨g, 0, none⟩)] w (LkQ15 S w0 g x za nz zc qa m qc en ag kn ar le d b sh at_ n sc mk st z q (look15 z q sh (m - (at_ + n)) (at_ + n) (at_ + n)) w) := by
  have HEN : Hid (∀ (en1 ag1 at1 n1 mk1 : Nat) (kn1 : Value) (sc1 : Int) (W : World), at1 ≤ m → Sn15 w0 W g x za nz zc qa m qc (en1) (ag1) (kn1) ar le d b sh (at1) (n1) (sc1) (mk1) st → Calls Try.prog 25 #[.pointer (some ⟨g, 0, none⟩)] W fun e w' => e = .returned (.bool (decide (at1 = m))) ∧ ∃ k, w' = W.drewN k) := fun en1 ag1 at1 n1 mk1 kn1 sc1 W hb hs => pended15 hs hb hmb
  have HLE : Hid (∀ (en1 ag1 at1 n1 mk1 : Nat) (kn1 : Value) (sc1 : Int) (W : World), at1 < m → Sn15 w0 W g x za nz zc qa m qc (en1) (ag1) (kn1) ar le d b sh (at1) (n1) (sc1) (mk1) st → Kw15 S W g z q m w0.heap.size kn1 en1 ag1 at1 at1 → Calls Try.prog 45 #[.pointer (some ⟨g, 2, none⟩), .int .i64 (at1 : Int)] W (LnQ15 S w0 g x za nz zc qa m qc en1 ag1 kn1 ar le d b sh at1 n1 sc1 mk1 st z q W)) := fun en1 ag1 at1 n1 mk1 kn1 sc1 W hb hs hk => plen15 hs hI hq hm hmb hqc hb hk hS
  have HRK : Hid (∀ (en1 ag1 at1 n1 mk1 to : Nat) (kn1 : Value) (W : World), at1 ≤ m → mk1 ≤ m → to ≤ m → Sn15 w0 W g x za nz zc qa m qc (en1) (ag1) (kn1) ar le d b sh (at1) (n1) (sco15 z q sh mk1 at1) (mk1) st → Calls Try.prog 46 #[.pointer (some ⟨g, 0, none⟩), .int .i64 (to : Int)] W fun e w' => e = .returned (.tuple #[]) ∧ (Sn15 w0 w' g x za nz zc qa m qc (en1) (ag1) (kn1) ar le d b sh (at1) (n1) (sco15 z q sh (max mk1 to) at1) (max mk1 to) st) ∧ Kp (fun k => k = g) W w') := fun en1 ag1 at1 n1 mk1 to kn1 W h1 h2 h3 hs => preck15 to hs hz hq hn hm hnb hmb h3 h1 h2 (rfl : _ = _) hsh
  have HSA : Hid (∀ (en1 ag1 at1 n1 mk1 k : Nat) (kn1 : Value) (sc1 : Int) (W : World), k < m → Sn15 w0 W g x za nz zc qa m qc (en1) (ag1) (kn1) ar le d b sh (at1) (n1) (sc1) (mk1) st → Calls Try.prog 47 #[.pointer (some ⟨g, 0, none⟩), .int .i64 (k : Int)] W fun e w' => e = .returned (.bool (sm15 z q sh k)) ∧ ∃ k, w' = W.drewN k) := fun en1 ag1 at1 n1 mk1 k kn1 sc1 W hk hs => psame15 k hs hz hq hn hm hnb hmb hk hsh
  obtain ⟨a, ha⟩ : ∃ a, a = at_ + n := ⟨_, rfl⟩
  have hai : (at_ : Int) + (n : Int) = (a : Int) := by omega
  have haw : IntKind.i64.wrap ((at_ : Int) + (n : Int)) = (a : Int) := by rw [hai]; exact IntWalk.i64_in _ (by omega)
  have ham : a ≤ m := by omega
  rw [← ha] at hK hQ
  unfold LkQ15
  rw [← ha]
  obtain ⟨R, hR⟩ : ∃ R, R = look15 z q sh (m - a) a a := ⟨_, rfl⟩
  have HR : Hid (R = look15 z q sh (m - a) a a) := hR
  rw [← hR]
  have c12 := h.cell 12 _ rfl
  have c13 := h.cell 13 _ rfl
  have f12 := h.free 12
  obtain ⟨w1, hw1⟩ : ∃ w1, w1 = w.setCell ⟨g, 12, none⟩ (.int .i64 (a : Int)) := ⟨_, rfl⟩
  have HW1 : Hid (w1 = w.setCell ⟨g, 12, none⟩ (.int .i64 (a : Int))) := hw1
  have S1 := h.setAt a
  have K1 : Kp (fun k => k = g) w (w.setCell ⟨g, 12, none⟩ (.int .i64 (a : Int))) := Kp.set (S := fun k => k = g) rfl _
  rw [← hw1] at S1 K1
  have HSL : Hid ((Sn15 w0 w1.drew g x za nz zc qa m qc en ag kn ar le d b sh (a) n sc mk st) ∧ Kp (fun k => k = g) w w1.drew) := ⟨S1.drew, K1.drew⟩
  have HKW : Hid (∀ W, Kp (fun k => k = g) w W → Kw15 S W g z q m w0.heap.size kn en ag a a) := fun W hk => hK.kpg hk
  have HMX : Hid (∀ k, k ≤ m → k + mx14 z (q.drop k) ≤ m) := fun k hk => by rw [← hm.out]; exact mx_drop15 z q (by rw [hm.out]; exact hk)
  have HSE : Hid (∀ k, sco15 z q sh k k = 0) := sco_self15 z q sh
  have HAB : Hid (∀ mk1 at1, mk1 ≤ m → at1 ≤ m → -(m : Int) ≤ sco15 z q sh mk1 at1 ∧ sco15 z q sh mk1 at1 ≤ (m : Int)) := fun mk1 at1 h1 h2 => sco15_abs z q sh h2 h1
  clear h hI hz hq hR hw1 S1 K1 hK ha
  go_enter Try.func26, Try.ntmps26
  go_wp2_with fail
  go_region
  rw [← HW1.out]
  obtain ⟨SA, KA⟩ := HSL.out
  generalize w1.drew = w2 at *
  clear HSL HW1
  have e12 := SA.cell 12 _ rfl
  have e14 := SA.cell 14 _ rfl
  have g14 := SA.free 14
  have SB := SA.setSc 0
  have e15 := SB.cell 15 _ rfl
  have g15 := SB.free 15
  have SC := SB.setMk a
  have KC : Kp (fun k => k = g) w ((w2.setCell ⟨g, 14, none⟩ (.int .i64 0)).setCell ⟨g, 15, none⟩ (.int .i64 (a : Int))) := (KA.trans (Kp.set (S := fun k => k = g) rfl _) (fun _ _ e => e)).trans (Kp.set (S := fun k => k = g) rfl _) (fun _ _ e => e)
  have HSC : Hid (Sn15 w0 ((w2.setCell ⟨g, 14, none⟩ (.int .i64 0)).setCell ⟨g, 15, none⟩ (.int .i64 (a : Int))) g x za nz zc qa m qc en ag kn ar le d b sh (a) n (sco15 z q sh a a) (a) st) := by show Sn15 w0 ((w2.setCell ⟨g, 14, none⟩ (.int .i64 0)).setCell ⟨g, 15, none⟩ (.int .i64 (a : Int))) g x za nz zc qa m qc en ag kn ar le d b sh (a) n (sco15 z q sh a a) (a) st; rw [HSE.out]; exact SC
  have HKC : Hid (Kp (fun k => k = g) w ((w2.setCell ⟨g, 14, none⟩ (.int .i64 0)).setCell ⟨g, 15, none⟩ (.int .i64 (a : Int)))) := KC
  clear SA SB SC KA KC
  go_wp2_with fail
  go_loopw [] (fun wr => ∃ (f en1 ag1 at1 n1 mk1 : Nat) (kn1 : Value), (Sn15 w0 wr g x za nz zc qa m qc (en1) (ag1) (kn1) ar le d b sh (at1) (n1) (sco15 z q sh mk1 at1) (mk1) st) ∧ at1 + f = m ∧ mk1 ≤ m ∧ Hid (look15 z q sh f at1 mk1 = R) ∧ Hid (Kw15 S wr g z q m w0.heap.size kn1 en1 ag1 at1 at1) ∧ Hid (S ∨ Qu15 z q sh f at1 mk1) ∧ Hid (Kp (fun k => k = g) w wr)) (fun wr => m - cell15 wr g 12)
  case atStart => exact ⟨m - a, en, ag, a, n, a, kn, HSC.out, by omega, ham, HR.out.symm, HKW.out _ HKC.out, hQ, HKC.out⟩
  case round =>
    obtain ⟨f, en1, ag1, at1, n1, mk1, kn1, SR, hf, hmk, HLR, HKR, HQR, HKP⟩ := hrel
    clear e12 e14 g14 e15 g15 HSC HKC
    have CE := HEN.out en1 ag1 at1 n1 mk1 kn1 _ wr (by omega) SR
    have HMS : Hid (cell15 wr g 12 = at1) := by show _ = _; rw [cell15_of (SR.cell 12 _ rfl)]; simp
    have HSR : Hid (Sn15 w0 wr g x za nz zc qa m qc (en1) (ag1) (kn1) ar le d b sh (at1) (n1) (sco15 z q sh mk1 at1) (mk1) st) := SR
    clear SR
    cases f with
    | zero =>
      rw [decide_eq_true (by omega : at1 = m)] at CE
      have HF : Hid (∀ kk, (Sn15 w0 (wr.drewN kk) g x za nz zc qa m qc (en1) (ag1) (kn1) ar le d b sh (R.1) (n1) (sco15 z q sh R.2.2 R.1) (R.2.2) st) ∧ (R.1 < m → n1 = R.2.1) ∧ Kw15 S (wr.drewN kk) g z q m w0.heap.size kn1 en1 ag1 R.1 (R.1 + n1) ∧ Kp (fun k => k = g) w (wr.drewN kk)) := fun kk => by
        have e := HLR.out
        have e' : (at1, 0, mk1) = R := e
        rw [← e']
        exact ⟨HSR.out.drewN kk, fun k => by simp at k; omega, (HKR.out.mono (Nat.le_refl _) (Or.inr (by simp))).kpg ((Kp.refl _ wr).drewN kk), HKP.out.drewN kk⟩
      clear HSR
      go_wp2_with (first
        | (go_at_call 25; refine CE.mono ?_; rintro e1 w3 ⟨rfl, kk, hw3⟩; have HFF := HF.out kk; rw [← hw3] at HFF; have HFH : Hid _ := HFF; clear hw3 CE HFF))
      refine bodyPost_end (results_none rfl _ _ _) rfl ?_
      exact ⟨rfl, en1, ag1, n1, kn1, HFH.out⟩
    | succ f =>
      have hlt : at1 < m := by omega
      rw [decide_eq_false (by omega : ¬ at1 = m)] at CE
      go_wp2_with (first
        | (go_at_call 25; refine CE.mono ?_; rintro e1 w3 ⟨rfl, kk, hw3⟩; have S3 := (HSR.out.drewN kk).drew; have Kd := ((Kp.refl (fun k => k = g) wr).drewN kk).drew; have K3 := HKP.out.trans Kd (fun _ _ e => e); have KW3 := HKR.out.kpg Kd; rw [← hw3] at S3 K3 KW3; clear hw3 CE Kd))
      have CL := HLE.out en1 ag1 at1 n1 mk1 kn1 _ w3.drew hlt S3 KW3
      have d12 := S3.cell 12 _ rfl
      have HK3 : Hid (Kp (fun k => k = g) w w3.drew) := K3
      clear S3 KW3 K3
      go_region_held3 (fun W => W.cell? ⟨g, 12, none⟩ = some (.int .i64 (at1 : Int))) (first | assumption | go_keep) (first
        | (go_at_call 45; refine CL.mono ?_; rintro e4 w4 ⟨rfl, en2, ag2, kn2, S4, KW4, K4⟩; have d412 := S4.cell 12 _ rfl; have d413 := S4.cell 13 _ rfl; have f413 := S4.free 13; have d512 := (S4.setN (mx14 z (q.drop at1))).cell 12 _ rfl; have HS4 : Hid _ := S4; have HKW4 : Hid (Kw15 S w4 g z q m w0.heap.size kn2 en2 ag2 at1 (at1 + mx14 z (q.drop at1))) := KW4; have HK4 : Hid (Kp (fun k => k = g) w w4) := HK3.out.trans K4 (fun _ _ e => e); clear S4 KW4 K4 CL))
      have S5 := HS4.out.setN (mx14 z (q.drop at1))
      have k5 : Kp (fun k => k = g) w4 (w4.setCell ⟨g, 13, none⟩ (.int .i64 ((mx14 z (q.drop at1) : Nat) : Int))) := Kp.set (S := fun k => k = g) rfl _
      have K5 := HK4.out.trans k5 (fun _ _ e => e)
      have KW5 := HKW4.out.kpg k5
      have hMm := HMX.out at1 (by omega)
      obtain ⟨M, hM⟩ : ∃ M, M = mx14 z (q.drop at1) := ⟨_, rfl⟩
      have HM : Hid (M = mx14 z (q.drop at1)) := hM
      rw [← hM] at S5 K5 KW5 hMm
      rw [← hM]
      clear hM k5 d412 d413 f413 d512 HS4 HKW4 HK4 d12
      generalize w4.setCell ⟨g, 13, none⟩ (.int .i64 (M : Int)) = w5 at *
      obtain ⟨to, hto⟩ : ∃ to, to = at1 + M := ⟨_, rfl⟩
      have htoi : (at1 : Int) + (M : Int) = (to : Int) := by omega
      have htow : IntKind.i64.wrap ((at1 : Int) + (M : Int)) = (to : Int) := by rw [htoi]; exact IntWalk.i64_in _ (by omega)
      have htow2 : IntKind.i64.wrap (to : Int) = (to : Int) := IntWalk.i64_in _ (by omega)
      have htm : to ≤ m := by omega
      have S5d := S5.drew
      have CR := HRK.out en2 ag2 at1 M mk1 to kn2 w5.drew (by omega) hmk htm S5d
      have d12 := S5d.cell 12 _ rfl
      have d13 := S5d.cell 13 _ rfl
      have HK5 : Hid (Kp (fun k => k = g) w w5.drew) := K5.drew
      have HKW5 : Hid (Kw15 S w5.drew g z q m w0.heap.size kn2 en2 ag2 at1 (at1 + M)) := KW5.kpg (Kp.refl _ w5).drew
      have HTO : Hid (to = at1 + M) := hto
      clear S5 S5d K5 KW5 hto
      go_wp2_with fail
      go_region_held3 (fun W => W.cell? ⟨g, 12, none⟩ = some (.int .i64 (at1 : Int)) ∧ W.cell? ⟨g, 13, none⟩ = some (.int .i64 (M : Int))) (first | exact ⟨by assumption, by assumption⟩ | go_keep) (first
        | (go_at_call 46; refine CR.mono ?_; rintro e6 w6 ⟨rfl, S6, K6⟩; have x12 := S6.cell 12 _ rfl; have x13 := S6.cell 13 _ rfl; have HS6 : Hid _ := S6; have HK6 : Hid (Kp (fun k => k = g) w5.drew w6) := K6; clear S6 K6 CR))
      obtain ⟨mk2, hmk2⟩ : ∃ mk2, mk2 = max mk1 to := ⟨_, rfl⟩
      have S6 := HS6.out
      rw [← hmk2] at S6
      have hmk2m : mk2 ≤ m := by omega
      have hab := HAB.out mk2 at1 hmk2m (by omega)
      obtain ⟨C, hC⟩ : ∃ C, C = sco15 z q sh mk2 at1 := ⟨_, rfl⟩
      rw [← hC] at S6 hab
      have K6 := HK5.out.trans HK6.out (fun _ _ e => e)
      have KW6 := HKW5.out.kpg HK6.out
      have x14 := S6.cell 14 _ rfl
      have HSN : Hid (Sn15 w0 w6 g x za nz zc qa m qc (en2) (ag2) (kn2) ar le d b sh (at1) (M) (C) (mk2) st) := S6
      have HKA : Hid (Kp (fun k => k = g) w w6) := K6
      have HKB : Hid (Kw15 S w6 g z q m w0.heap.size kn2 en2 ag2 at1 (at1 + M)) := KW6
      have HCC : Hid (C = sco15 z q sh mk2 at1) := hC
      have HLK : Hid (R = if Go15 M C then (at1, M, mk2) else look15 z q sh f (at1 + 1) mk2) := by
        show R = _
        rw [← HLR.out, hC, hmk2, HTO.out, HM.out]
        rfl
      have HQK : Hid (S ∨ Go15 M C ∨ (M ≤ 1 ∧ Qu15 z q sh f (at1 + 1) mk2)) := by
        show _ ∨ _
        rw [hC, hmk2, HTO.out, HM.out]
        exact HQR.out
      clear S6 K6 KW6 HS6 HK5 HK6 HKW5 hC hmk2 HLR HQR d12 d13
      have c8w : IntKind.i64.wrap (C + 8) = C + 8 := IntWalk.i64_in _ (by omega)
      -- where it leaves
      have HGO : Hid (Go15 M C → ∀ kk, (Sn15 w0 (w6.drewN kk) g x za nz zc qa m qc (en2) (ag2) (kn2) ar le d b sh (R.1) (M) (sco15 z q sh R.2.2 R.1) (R.2.2) st) ∧ (R.1 < m → M = R.2.1) ∧ Kw15 S (w6.drewN kk) g z q m w0.heap.size kn2 en2 ag2 R.1 (R.1 + M) ∧ Kp (fun k => k = g) w (w6.drewN kk)) := fun hg kk => by
        have e := HLK.out
        rw [if_pos hg] at e
        rw [e]
        refine ⟨?_, fun _ => rfl, HKB.out.kpg ((Kp.refl _ w6).drewN kk), HKA.out.drewN kk⟩
        show Sn15 w0 (w6.drewN kk) g x za nz zc qa m qc (en2) (ag2) (kn2) ar le d b sh (at1) (M) (sco15 z q sh mk2 at1) (mk2) st
        rw [← HCC.out]
        exact HSN.out.drewN kk
      by_cases h1 : (M : Int) = C
      · subst h1
        by_cases h2 : M = 0
        · -- nothing stands there
          have hng : ¬ Go15 M (M : Int) := by unfold Go15; omega
          have HLK2 : Hid (R = look15 z q sh f (at1 + 1) mk2) := by have := HLK.out; rwa [if_neg hng] at this
          have HQ2 : Hid (S ∨ (M ≤ 1 ∧ Qu15 z q sh f (at1 + 1) mk2)) := HQK.out.imp id (fun k => k.resolve_left hng)
          have H2 : Hid (M = 0) := h2
          clear HGO HLK HQK hng h2
          go_wp2_with fail
          have b2 : ((M : Int) != 0) = false := by simp [H2.out]
          have b3 : decide ((M : Int) + 8 < (M : Int)) = false := decide_eq_false (by omega)
          go_quiet (fail)
          have S7 := HSN.out.drewN nq
          have Kd := (Kp.refl (fun k => k = g) w6).drewN nq
          have K7 := HKA.out.drewN nq
          have KW7 := HKB.out.kpg Kd
          generalize w6.drewN nq = w7 at *
          have CS := HSA.out en2 ag2 at1 M mk2 at1 kn2 ((M : Int)) w7 hlt S7
          have y12 := S7.cell 12 _ rfl
          have HS7 : Hid (Sn15 w0 w7 g x za nz zc qa m qc (en2) (ag2) (kn2) ar le d b sh (at1) (M) ((M : Int)) (mk2) st) := S7
          have HK7 : Hid (Kp (fun k => k = g) w w7) := K7
          have HKW7 : Hid (Kw15 S w7 g z q m w0.heap.size kn2 en2 ag2 at1 (at1 + M)) := KW7
          have HNX : Hid (sco15 z q sh mk2 (at1 + 1) = (M : Int) - (if sm15 z q sh at1 then 1 else 0)) := by show _ = _; rw [sco_next15, ← HCC.out]
          have f1 : IntKind.i64.wrap ((M : Int) - 1) = (M : Int) - 1 := IntWalk.i64_in _ (by omega)
          clear S7 K7 KW7 Kd HSN HKA HKB x12 x13 x14
          cases hb : sm15 z q sh at1
          · rw [hb] at CS HNX
            have HNX2 : Hid (sco15 z q sh mk2 (at1 + 1) = (M : Int)) := by show _ = _; rw [HNX.out]; simp
            clear hb HNX
            go_wp2_with (first
              | (go_at_call 47; refine CS.mono ?_; rintro e8 w8 ⟨rfl, kk8, hw8⟩; have S8 := HS7.out.drewN kk8; have Kd8 := (Kp.refl (fun k => k = g) w7).drewN kk8; have K8 := HK7.out.trans Kd8 (fun _ _ e => e); have KW8 := HKW7.out.kpg Kd8; rw [← hw8] at S8 K8 KW8; clear hw8 CS Kd8; have v12 := S8.cell 12 _ rfl; have u12 := S8.free 12; have S9 : Hid (Sn15 w0 (w8.setCell ⟨g, 12, none⟩ (.int .i64 ((at1 : Int) + 1))) g x za nz zc qa m qc (en2) (ag2) (kn2) ar le d b sh (at1 + 1) (M) ((M : Int)) (mk2) st) := S8.setAt (at1 + 1); have k9 : Kp (fun k => k = g) w8 (w8.setCell ⟨g, 12, none⟩ (.int .i64 ((at1 : Int) + 1))) := Kp.set (S := fun k => k = g) rfl _; have HK9 : Hid (Kp (fun k => k = g) w (w8.setCell ⟨g, 12, none⟩ (.int .i64 ((at1 : Int) + 1)))) := K8.trans k9 (fun _ _ e => e); have HKW9 : Hid (Kw15 S (w8.setCell ⟨g, 12, none⟩ (.int .i64 ((at1 : Int) + 1))) g z q m w0.heap.size kn2 en2 ag2 at1 (at1 + M)) := KW8.kpg k9; clear S8 K8 KW8 k9))
            go_roundw
            case rel => exact ⟨f, en2, ag2, at1 + 1, M, mk2, kn2, (by rw [HNX2.out]; exact S9.out), by omega, hmk2m, HLK2.out.symm, HKW9.out.mono (by omega) (HQ2.out.imp id (fun k => by omega)), HQ2.out.imp id And.right, HK9.out⟩
            case measure => rw [HMS.out, cell15_of (S9.out.cell 12 _ rfl)]; simp; omega
          · rw [hb] at CS HNX
            have HNX2 : Hid (sco15 z q sh mk2 (at1 + 1) = (M : Int) - 1) := by show _ = _; rw [HNX.out]; simp
            clear hb HNX
            go_wp2_with (first
              | (go_at_call 47; refine CS.mono ?_; rintro e8 w8 ⟨rfl, kk8, hw8⟩; have S8 := HS7.out.drewN kk8; have Kd8 := (Kp.refl (fun k => k = g) w7).drewN kk8; have K8 := HK7.out.trans Kd8 (fun _ _ e => e); have KW8 := HKW7.out.kpg Kd8; rw [← hw8] at S8 K8 KW8; clear hw8 CS Kd8; have v14 := S8.cell 14 _ rfl; have u14 := S8.free 14; have S8b := S8.setSc ((M : Int) - 1); have v12 := S8b.cell 12 _ rfl; have u12 := S8b.free 12; have S9 : Hid (Sn15 w0 ((w8.setCell ⟨g, 14, none⟩ (.int .i64 ((M : Int) - 1))).setCell ⟨g, 12, none⟩ (.int .i64 ((at1 : Int) + 1))) g x za nz zc qa m qc (en2) (ag2) (kn2) ar le d b sh (at1 + 1) (M) ((M : Int) - 1) (mk2) st) := S8b.setAt (at1 + 1); have k9 : Kp (fun k => k = g) w8 ((w8.setCell ⟨g, 14, none⟩ (.int .i64 ((M : Int) - 1))).setCell ⟨g, 12, none⟩ (.int .i64 ((at1 : Int) + 1))) := (Kp.set (S := fun k => k = g) rfl _).trans (Kp.set (S := fun k => k = g) rfl _) (fun _ _ e => e); have HK9 : Hid (Kp (fun k => k = g) w ((w8.setCell ⟨g, 14, none⟩ (.int .i64 ((M : Int) - 1))).setCell ⟨g, 12, none⟩ (.int .i64 ((at1 : Int) + 1)))) := K8.trans k9 (fun _ _ e => e); have HKW9 : Hid (Kw15 S ((w8.setCell ⟨g, 14, none⟩ (.int .i64 ((M : Int) - 1))).setCell ⟨g, 12, none⟩ (.int .i64 ((at1 : Int) + 1))) g z q m w0.heap.size kn2 en2 ag2 at1 (at1 + M)) := KW8.kpg k9; clear S8 S8b K8 KW8 k9))
            go_roundw
            case rel => exact ⟨f, en2, ag2, at1 + 1, M, mk2, kn2, (by rw [HNX2.out]; exact S9.out), by omega, hmk2m, HLK2.out.symm, HKW9.out.mono (by omega) (HQ2.out.imp id (fun k => by omega)), HQ2.out.imp id And.right, HK9.out⟩
            case measure => rw [HMS.out, cell15_of (S9.out.cell 12 _ rfl)]; simp; omega
        · have HF := HGO.out (Or.inl ⟨rfl, h2⟩)
          have HFH : Hid _ := HF
          clear HF HGO HLK HQK
          go_wp2_with fail
          have b2 : ((M : Int) != 0) = true := by simp; omega
          go_quiet (fail)
          go_wp2_with fail
          refine bodyPost_ret (results_none rfl _ _ _) rfl ?_
          exact ⟨rfl, en2, ag2, M, kn2, HFH.out _⟩
      · by_cases h3 : C + 8 < (M : Int)
        · have HF := HGO.out (Or.inr h3)
          have HFH : Hid _ := HF
          clear HF HGO HLK HQK
          go_wp2_with fail
          have b1 : ((M : Int) == C) = false := by simpa using h1
          have b3 : decide (C + 8 < (M : Int)) = true := decide_eq_true h3
          go_quiet (fail)
          go_wp2_with fail
          refine bodyPost_ret (results_none rfl _ _ _) rfl ?_
          exact ⟨rfl, en2, ag2, M, kn2, HFH.out _⟩
        · have hng : ¬ Go15 M C := by unfold Go15; omega
          have HLK2 : Hid (R = look15 z q sh f (at1 + 1) mk2) := by have := HLK.out; rwa [if_neg hng] at this
          have HQ2 : Hid (S ∨ (M ≤ 1 ∧ Qu15 z q sh f (at1 + 1) mk2)) := HQK.out.imp id (fun k => k.resolve_left hng)
          clear HGO HLK HQK hng
          go_wp2_with fail
          have b1 : ((M : Int) == C) = false := by simpa using h1
          have b3 : decide (C + 8 < (M : Int)) = false := decide_eq_false (by omega)
          go_quiet (fail)
          have S7 := HSN.out.drewN nq
          have Kd := (Kp.refl (fun k => k = g) w6).drewN nq
          have K7 := HKA.out.drewN nq
          have KW7 := HKB.out.kpg Kd
          generalize w6.drewN nq = w7 at *
          have CS := HSA.out en2 ag2 at1 M mk2 at1 kn2 (C) w7 hlt S7
          have y12 := S7.cell 12 _ rfl
          have HS7 : Hid (Sn15 w0 w7 g x za nz zc qa m qc (en2) (ag2) (kn2) ar le d b sh (at1) (M) (C) (mk2) st) := S7
          have HK7 : Hid (Kp (fun k => k = g) w w7) := K7
          have HKW7 : Hid (Kw15 S w7 g z q m w0.heap.size kn2 en2 ag2 at1 (at1 + M)) := KW7
          have HNX : Hid (sco15 z q sh mk2 (at1 + 1) = C - (if sm15 z q sh at1 then 1 else 0)) := by show _ = _; rw [sco_next15, ← HCC.out]
          have f1 : IntKind.i64.wrap (C - 1) = C - 1 := IntWalk.i64_in _ (by omega)
          clear S7 K7 KW7 Kd HSN HKA HKB x12 x13 x14
          cases hb : sm15 z q sh at1
          · rw [hb] at CS HNX
            have HNX2 : Hid (sco15 z q sh mk2 (at1 + 1) = C) := by show _ = _; rw [HNX.out]; simp
            clear hb HNX
            go_wp2_with (first
              | (go_at_call 47; refine CS.mono ?_; rintro e8 w8 ⟨rfl, kk8, hw8⟩; have S8 := HS7.out.drewN kk8; have Kd8 := (Kp.refl (fun k => k = g) w7).drewN kk8; have K8 := HK7.out.trans Kd8 (fun _ _ e => e); have KW8 := HKW7.out.kpg Kd8; rw [← hw8] at S8 K8 KW8; clear hw8 CS Kd8; have v12 := S8.cell 12 _ rfl; have u12 := S8.free 12; have S9 : Hid (Sn15 w0 (w8.setCell ⟨g, 12, none⟩ (.int .i64 ((at1 : Int) + 1))) g x za nz zc qa m qc (en2) (ag2) (kn2) ar le d b sh (at1 + 1) (M) (C) (mk2) st) := S8.setAt (at1 + 1); have k9 : Kp (fun k => k = g) w8 (w8.setCell ⟨g, 12, none⟩ (.int .i64 ((at1 : Int) + 1))) := Kp.set (S := fun k => k = g) rfl _; have HK9 : Hid (Kp (fun k => k = g) w (w8.setCell ⟨g, 12, none⟩ (.int .i64 ((at1 : Int) + 1)))) := K8.trans k9 (fun _ _ e => e); have HKW9 : Hid (Kw15 S (w8.setCell ⟨g, 12, none⟩ (.int .i64 ((at1 : Int) + 1))) g z q m w0.heap.size kn2 en2 ag2 at1 (at1 + M)) := KW8.kpg k9; clear S8 K8 KW8 k9))
            go_roundw
            case rel => exact ⟨f, en2, ag2, at1 + 1, M, mk2, kn2, (by rw [HNX2.out]; exact S9.out), by omega, hmk2m, HLK2.out.symm, HKW9.out.mono (by omega) (HQ2.out.imp id (fun k => by omega)), HQ2.out.imp id And.right, HK9.out⟩
            case measure => rw [HMS.out, cell15_of (S9.out.cell 12 _ rfl)]; simp; omega
          · rw [hb] at CS HNX
            have HNX2 : Hid (sco15 z q sh mk2 (at1 + 1) = C - 1) := by show _ = _; rw [HNX.out]; simp
            clear hb HNX
            go_wp2_with (first
              | (go_at_call 47; refine CS.mono ?_; rintro e8 w8 ⟨rfl, kk8, hw8⟩; have S8 := HS7.out.drewN kk8; have Kd8 := (Kp.refl (fun k => k = g) w7).drewN kk8; have K8 := HK7.out.trans Kd8 (fun _ _ e => e); have KW8 := HKW7.out.kpg Kd8; rw [← hw8] at S8 K8 KW8; clear hw8 CS Kd8; have v14 := S8.cell 14 _ rfl; have u14 := S8.free 14; have S8b := S8.setSc (C - 1); have v12 := S8b.cell 12 _ rfl; have u12 := S8b.free 12; have S9 : Hid (Sn15 w0 ((w8.setCell ⟨g, 14, none⟩ (.int .i64 (C - 1))).setCell ⟨g, 12, none⟩ (.int .i64 ((at1 : Int) + 1))) g x za nz zc qa m qc (en2) (ag2) (kn2) ar le d b sh (at1 + 1) (M) (C - 1) (mk2) st) := S8b.setAt (at1 + 1); have k9 : Kp (fun k => k = g) w8 ((w8.setCell ⟨g, 14, none⟩ (.int .i64 (C - 1))).setCell ⟨g, 12, none⟩ (.int .i64 ((at1 : Int) + 1))) := (Kp.set (S := fun k => k = g) rfl _).trans (Kp.set (S := fun k => k = g) rfl _) (fun _ _ e => e); have HK9 : Hid (Kp (fun k => k = g) w ((w8.setCell ⟨g, 14, none⟩ (.int .i64 (C - 1))).setCell ⟨g, 12, none⟩ (.int .i64 ((at1 : Int) + 1)))) := K8.trans k9 (fun _ _ e => e); have HKW9 : Hid (Kw15 S ((w8.setCell ⟨g, 14, none⟩ (.int .i64 (C - 1))).setCell ⟨g, 12, none⟩ (.int .i64 ((at1 : Int) + 1))) g z q m w0.heap.size kn2 en2 ag2 at1 (at1 + M)) := KW8.kpg k9; clear S8 S8b K8 KW8 k9))
            go_roundw
            case rel => exact ⟨f, en2, ag2, at1 + 1, M, mk2, kn2, (by rw [HNX2.out]; exact S9.out), by omega, hmk2m, HLK2.out.symm, HKW9.out.mono (by omega) (HQ2.out.imp id (fun k => by omega)), HQ2.out.imp id And.right, HK9.out⟩
            case measure => rw [HMS.out, cell15_of (S9.out.cell 12 _ rfl)]; simp; omega
end
end Go.Proofs.Ytbjjddoeilhomaa

namespace Go.Proofs.Ytbjjddoeilhomaa
open Go.RowKit
set_option linter.unusedVariables false

/-! The landed scan: the last step. -/
theorem info_st15 : (Try.prog.info? 39).map (fun i => (i.zero, i.size, i.bytes)) = some (some (.agg #[.int .i64 0, .int .i64 0, .int .i64 0]), 3, 24) := by kernel_rfl
def flat15 (l : List (Int × Int × Int)) : List Value := l.flatMap fun t => [.int .i64 t.1, .int .i64 t.2.1, .int .i64 t.2.2]
theorem flat15_app (l r : List (Int × Int × Int)) : flat15 (l ++ r) = flat15 l ++ flat15 r := by unfold flat15; rw [List.flatMap_append]
theorem own_kp15 {w w' : World} {S : Nat → Prop} {base n sz : Nat} {e : TypeId} {v : Value} {xs : List Value} (h : w.ownsRow base e sz v n xs) (hb : Kp S w w') (hn : ∀ x, v.ownBlock = some x → ¬ S x) : w'.ownsRow base e sz v n xs := by
  refine ⟨h.1, ?_⟩
  rcases h.2 with h | ⟨g, cap, cur, h1, h2, h3, h4⟩
  · exact .inl h
  · exact .inr ⟨g, cap, cur, h1, h2, hb.heap h3 (hn g (by rw [h1]; rfl)), h4⟩
theorem own_below15 {w w' : World} {base n sz : Nat} {e : TypeId} {v : Value} {xs : List Value} (h : w.ownsRow base e sz v n xs) (hb : Below w.heap.size w w') : w'.ownsRow base e sz v n xs := own_kp15 (S := fun _ => False) h (Kp.of_below hb) (fun _ _ e => e)
/-- The steps so far, in a row of their own. -/
structure Rw15 (w : World) (N g : Nat) (ra : Option Addr) (l rc : Nat) (T : List (Int × Int × Int)) : Prop where
  own : w.ownsRow N 39 3 (.slice ra l rc) l (flat15 T)
  ne : (Value.slice ra l rc).ownBlock ≠ some g
  len : T.length = l
theorem Rw15.old {w w' : World} {N g l rc : Nat} {ra : Option Addr} {T : List (Int × Int × Int)} (h : Rw15 w N g ra l rc T) (hb : Below w.heap.size w w') : Rw15 w' N g ra l rc T := ⟨own_below15 h.own hb, h.ne, h.len⟩
theorem Rw15.kpg {w w' : World} {N g l rc : Nat} {ra : Option Addr} {T : List (Int × Int × Int)} (h : Rw15 w N g ra l rc T) (hb : Kp (fun k => k = g) w w') : Rw15 w' N g ra l rc T := ⟨own_kp15 h.own hb (fun x e k => h.ne (by rw [e, k])), h.ne, h.len⟩
def StpQ15 (w0 : World) (g x : Nat) (za : Option Addr) (nz zc : Nat) (qa : Option Addr) (m qc en ag : Nat) (kn ar le : Value) (d b : Nat) (sh : Int) (at_ n : Nat) (sc : Int) (mk : Nat) (st : Value) (X : List (Int × Int × Int)) (w : World) (e : Ending) (w' : World) : Prop := e = .returned (.tuple #[]) ∧ ∃ ra2 l2 rc2, (Sn15 w0 w' g x za nz zc qa m qc en ag kn ar le d b sh at_ n sc mk (.slice ra2 l2 rc2)) ∧ Rw15 w' w0.heap.size g ra2 l2 rc2 X
section
variable {w0 w w' : World} {g x nz zc m qc en ag d b at_ n mk : Nat} {za qa : Option Addr} {kn ar le st : Value} {sh sc : Int} {z q : List Int}
set_option maxRecDepth 100000 in
set_option maxHeartbeats 16000000 in
theorem pstpe15 {ra : Option Addr} {l rc : Nat} {T : List (Int × Int × Int)} (h : Sn15 w0 w g x za nz zc qa m qc en ag kn ar le d b sh (m) n sc mk (.slice ra l rc)) (hz : Seg w0 za z) (hq : Seg w0 qa q) (hn : Hid (z.length = nz)) (hm : Hid (q.length = m)) (hnb : nz ≤ 16777216) (hmb : m ≤ 16777216) (hd : d ≤ m) (hb : b ≤ nz) (hrow : Rw15 w w0.heap.size g ra l rc T) (hl : l ≤ 16777217) :
    Calls Try.prog 27 #[.pointer (some ⟨g, 0, none⟩)] w (StpQ15 w0 g x za nz zc qa m qc en ag kn ar le d b sh m n sc mk (.slice ra l rc) (T ++ [lst15 z q d b]) w) := by
  obtain ⟨i0, hi, hz0, hz1, hz2⟩ := info_parts info_st15
  have hfb := fw15_bd (z := z) (q := q) (pos := b) (frm := d) (to := m) (by rw [hn.out]; exact hb) hd
  have CF := pfw15 za z nz zc (b : Int) qa q m qc (d : Int) (m : Int) w.drew ((hz.old h.bl).drewN 1) ((hq.old h.bl).drewN 1) hn hm (by omega) (by omega)
  have HLS : Hid (lst15 z q d b = (((fw15 z (b : Int) q (d : Int) (m : Int) : Nat) : Int), (m : Int) - ((d : Int) + ((fw15 z (b : Int) q (d : Int) (m : Int) : Nat) : Int)), 0)) := by show _ = _; unfold lst15; rw [hm.out]
  have HEN : Hid (∀ (W : World), Sn15 w0 W g x za nz zc qa m qc en ag kn ar le d b sh (m) n sc mk (.slice ra l rc) → Calls Try.prog 25 #[.pointer (some ⟨g, 0, none⟩)] W fun e w' => e = .returned (.bool true) ∧ ∃ k, w' = W.drewN k) := fun W hs => by
    have := pended15 hs (Nat.le_refl _) hmb
    rwa [decide_eq_true rfl] at this
  have hd1 := h.drew
  have HSD : Hid (Sn15 w0 w.drew g x za nz zc qa m qc en ag kn ar le d b sh (m) n sc mk (.slice ra l rc)) := hd1
  have HRW : Hid (Rw15 w.drew w0.heap.size g ra l rc T) := hrow.old (Below.refl _ _).drew
  have c0 := hd1.cell 0 _ rfl
  have c1 := hd1.cell 1 _ rfl
  have c9 := hd1.cell 9 _ rfl
  have c10 := hd1.cell 10 _ rfl
  have c12 := hd1.cell 12 _ rfl
  rw [hn.out] at hfb
  clear h hz hq hrow hd1
  generalize fw15 z (b : Int) q (d : Int) (m : Int) = F at *
  go_enter Try.func27, Try.ntmps27
  go_wp2_with fail
  go_region_held3 (fun W => W.cell? ⟨g, 0, none⟩ = some (.slice za nz zc) ∧ W.cell? ⟨g, 1, none⟩ = some (.slice qa m qc) ∧ W.cell? ⟨g, 9, none⟩ = some (.int .i64 (d : Int)) ∧ W.cell? ⟨g, 10, none⟩ = some (.int .i64 (b : Int)) ∧ W.cell? ⟨g, 12, none⟩ = some (.int .i64 (m : Int))) (first | exact ⟨by assumption, by assumption, by assumption, by assumption, by assumption⟩ | go_keep) (first
    | (go_at_call 17; refine CF.mono ?_; rintro e1 w1 ⟨rfl, B1⟩; have S1 := HSD.out.old B1; have x0 := S1.cell 0 _ rfl; have x1 := S1.cell 1 _ rfl; have x9 := S1.cell 9 _ rfl; have x10 := S1.cell 10 _ rfl; have x12 := S1.cell 12 _ rfl; have HS1 : Hid (Sn15 w0 w1 g x za nz zc qa m qc en ag kn ar le d b sh (m) n sc mk (.slice ra l rc)) := S1; have HR1 : Hid (Rw15 w1 w0.heap.size g ra l rc T) := HRW.out.old B1; clear S1 B1 CF))
  have CE := HEN.out w1 HS1.out
  clear c0 c1 c9 c10 c12 x0 x1 x10
  go_wp2_with (first
    | (go_at_call 25; refine CE.mono ?_; rintro e2 w2 ⟨rfl, kk, hw2⟩; have S2 := HS1.out.drewN kk; have R2 := HR1.out.old (drewN_below15 w1 kk); rw [← hw2] at S2 R2; clear hw2 CE))
  have d9 := S2.cell 9 _ rfl
  have d12 := S2.cell 12 _ rfl
  have d16 := S2.cell 16 _ rfl
  have f16 := S2.free 16
  have hltr := S2.lt
  have hown := R2.own
  have hne := R2.ne
  have hbase : w0.heap.size ≤ w2.heap.size := S2.bl.size
  have hca : ∀ o, (w2.alloc o).cell? ⟨g, 16, none⟩ = some (.slice ra l rc) := fun o => (((Below.refl w2.heap.size w2).alloc (Nat.le_refl _) o).cell (p := ⟨g, 16, none⟩) hltr).trans d16
  have hfa : ∀ o, (w2.alloc o).frozen? ⟨g, 16, none⟩ = false := fun o => (((Below.refl w2.heap.size w2).alloc (Nat.le_refl _) o).frozen (p := ⟨g, 16, none⟩) hltr).trans f16
  have HS2 : Hid (Sn15 w0 w2 g x za nz zc qa m qc en ag kn ar le d b sh (m) n sc mk (.slice ra l rc)) := S2
  have HTL : Hid (T.length = l) := R2.len
  obtain ⟨D, hD⟩ : ∃ D, D = d + F := ⟨_, rfl⟩
  obtain ⟨G, hG⟩ : ∃ G, G = m - D := ⟨_, rfl⟩
  have hDi : (d : Int) + (F : Int) = (D : Int) := by omega
  have hGi : (m : Int) - (D : Int) = (G : Int) := by omega
  have hDw : IntKind.i64.wrap ((d : Int) + (F : Int)) = (D : Int) := by rw [hDi]; exact IntWalk.i64_in _ (by omega)
  have hDw2 : IntKind.i64.wrap (D : Int) = (D : Int) := IntWalk.i64_in _ (by omega)
  have hGw : IntKind.i64.wrap ((m : Int) - (D : Int)) = (G : Int) := by rw [hGi]; exact IntWalk.i64_in _ (by omega)
  have hGw2 : IntKind.i64.wrap (G : Int) = (G : Int) := IntWalk.i64_in _ (by omega)
  have HLS2 : Hid (lst15 z q d b = ((F : Int), (G : Int), 0)) := by show _ = _; rw [HLS.out, hDi, hGi]
  clear S2 R2 HLS hD hG HS1 HR1 HSD HRW HEN
  go_wp2_with fail
  go_region_law
    (refine step_append_lies _ (by rfl) _ _ _ (by rfl) w0.heap.size 39 i0 _ 3 24 Try.underlying28 hi hz0 hz1 hz2 rfl (by omega) (.slice ra l rc) l (flat15 T) (by rfl) ((hown.alloc _).drew)
        ⟨w2.heap.size, 0, none⟩ 1 1 [.int .i64 (F : Int), .int .i64 (G : Int), .int .i64 0] (by rfl) (by rfl) (World.news_of_block (cs := #[.int .i64 (F : Int), .int .i64 (G : Int), .int .i64 0]) (t := 39) (fr := (0, 0)) (heap_alloc_new w2 _)) (by simp [Value.oneCell'])
        (by omega) (by unfold maxLen; omega) (by omega) (by simp; omega) (w2.heap.size + 1) (by simp) ?_; intro gg cap2 w3 hown2 hgrow hat hlt2
     have hx0 := (hgrow.cell_far ⟨g, 16, none⟩ (by simp; omega) (Ne.symm hne)).trans (hca _)
     have hxf := (hgrow.frozen_far ⟨g, 16, none⟩ (by simp; omega) (Ne.symm hne)).trans (hfa _))
  all_goals
    have KG := ((Kp.alloc (S := fun k => (Value.slice ra l rc).ownBlock = some k) w2 _).drew).trans (Kp.grown (S := fun k => (Value.slice ra l rc).ownBlock = some k) hgrow (fun i e => e)) (fun _ _ e => e)
    have hgg : gg ≠ g := by
      rcases hat with k | k
      · intro e; rw [e] at k; exact hne k
      · omega
    have S3 : Sn15 w0 w3 g x za nz zc qa m qc en ag kn ar le d b sh (m) n sc mk (.slice ra l rc) := ⟨HS2.out.bl.trans (KG.below (fun q e => (hown.lt q e).1) HS2.out.bl.size), HS2.out.g0, KG.heap HS2.out.hp (fun e => hne e)⟩
    have HS4 : Hid (Sn15 w0 (w3.setCell ⟨g, 16, none⟩ (.slice (some ⟨gg, 0, none⟩) (l + 1) cap2)) g x za nz zc qa m qc en ag kn ar le d b sh (m) n sc mk (.slice (some ⟨gg, 0, none⟩) (l + 1) cap2)) := S3.setSt _
    have HR4 : Hid (Rw15 (w3.setCell ⟨g, 16, none⟩ (.slice (some ⟨gg, 0, none⟩) (l + 1) cap2)) w0.heap.size g (some ⟨gg, 0, none⟩) (l + 1) cap2 (T ++ [lst15 z q d b])) := by
      refine ⟨?_, ?_, ?_⟩
      · rw [flat15_app, HLS2.out]
        exact own_kp15 hown2 (Kp.set (S := fun k => k = g) rfl _) (fun y e => by
          have : some gg = some y := e
          injection this with this
          show ¬ y = g
          omega)
      · intro e
        have : some gg = some g := e
        injection this with this
        exact hgg this
      · rw [List.length_append, HTL.out]; rfl
    clear S3 KG hown2 hgrow hat hlt2 hca hfa hown
    go_wp2_with fail
    refine bodyPost_ret (results_none rfl _ _ _) rfl ?_
    exact ⟨rfl, _, _, _, HS4.out, HR4.out⟩
end
end Go.Proofs.Ytbjjddoeilhomaa
