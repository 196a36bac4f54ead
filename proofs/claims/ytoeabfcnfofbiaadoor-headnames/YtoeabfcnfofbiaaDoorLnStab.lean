
import Derived.Test.YtoeabfcnfofbiaaDoorLnSym3
namespace Go.Proofs.YtoeabfcnfofbiaaDoor
open Go.RowKit
set_option linter.unusedVariables false

theorem sym_any (g n cap : Nat) (hl : n ≤ 100000) : ∀ (N a m b : Nat) (X : Nat → Im) (w : World), b - a ≤ N → Sr w g n X → g < w.heap.size → b ≤ n → a < m → m < b → so X a m → so X m b → sep X a m b → SymQ g n cap a m b X w := by
  intro N
  induction N using Nat.strongRecOn with
  | ind N ih =>
    intro a m b X w hN hS hg hb ham hmb h1 h2 h3
    by_cases c1 : m = a + 1
    · exact sym_first g n cap a m b X w hS hg hb hl c1 hmb h2 h3
    · by_cases c2 : b = m + 1
      · exact sym_last g n cap a m b X w hS hg hb hl (by omega) c2 h1 h3
      · exact sym_gen g n cap a m b X w hS hg hb hl (by omega) (by omega) h1 h2 h3 (fun a' m' b' X' w' hlt s1 s2 s3 s4 s5 s6 s7 s8 => ih (b' - a') (by omega) a' m' b' X' w' (Nat.le_refl _) s1 s2 s3 s4 s5 s6 s7 s8)

/-- Blocks of 20 up to a are in order. -/
structure Iv (X Y : Nat → Im) (n a : Nat) : Prop where
  pm : Pm X Y 0 n
  so : ∀ i j, i < j → j < a → i / 20 = j / 20 → kl (Y i) (Y j)
  se : ∀ i j, i < j → j < n → (i / 20 < j / 20 ∨ a ≤ i) → (Y i).sy < (Y j).sy
theorem Iv.step {X Y Z : Nat → Im} {n a e : Nat} (h : Iv X Y n a) (ha : a % 20 = 0) (h1 : a ≤ e) (h2 : e ≤ a + 20) (h3 : e ≤ n) (p : Pm Y Z a e) (s : Go.Proofs.YtoeabfcnfofbiaaDoor.so Z a e) : Iv X Z n e := by
  have key : ∀ i, i < n → ∃ i', i' < n ∧ Z i = Y i' ∧ i' / 20 = i / 20 ∧ (i < a → i' = i) ∧ (e ≤ i → i' = i) ∧ (a ≤ i → a ≤ i') := by
    intro i hi
    by_cases c : a ≤ i ∧ i < e
    · obtain ⟨i', q1, q2, q3⟩ := p.mem c.1 c.2
      exact ⟨i', by omega, q3, by omega, by omega, by omega, by omega⟩
    · exact ⟨i, hi, p.2 i (by omega), rfl, fun _ => rfl, fun _ => rfl, fun q => q⟩
  refine ⟨h.pm.trans (p.wide (Nat.zero_le _) h1 h3), fun i j hij hj hb => ?_, fun i j hij hj hb => ?_⟩
  · by_cases c : a ≤ i
    · exact s i j c hij hj
    · have hja : j < a := by omega
      rw [p.2 i (by omega), p.2 j (by omega)]
      exact h.so i j hij hja hb
  · obtain ⟨i', a1, a2, a3, a4, a5, a6⟩ := key i (by omega)
    obtain ⟨j', b1, b2, b3, b4, b5, b6⟩ := key j hj
    rw [a2, b2]
    rcases hb with hb | hb
    · exact h.se i' j' (by omega) b1 (.inl (by omega))
    · have e1 := a5 hb
      have e2 := b5 (by omega)
      rw [e1, e2]
      exact h.se i j hij hj (.inr (by omega))
/-- Blocks of twice bs up to a, of bs from there on, are in order. -/
structure Jv (X Y : Nat → Im) (n bs a : Nat) : Prop where
  pm : Pm X Y 0 n
  so : ∀ i j, i < j → j < n → ((j < a ∧ i / (2 * bs) = j / (2 * bs)) ∨ (a ≤ i ∧ i / bs = j / bs)) → kl (Y i) (Y j)
  se : ∀ i j, i < j → j < n → (i / (2 * bs) < j / (2 * bs) ∨ (a ≤ i ∧ i / bs < j / bs)) → (Y i).sy < (Y j).sy
theorem Iv.whole {X Y : Nat → Im} {n : Nat} (h : Iv X Y n n) : Jv X Y n 20 0 :=
  ⟨h.pm, fun i j hij hj hb => h.so i j hij hj (by omega), fun i j hij hj hb => h.se i j hij hj (.inl (by omega))⟩
def bsOk (bs : Nat) : Prop := bs = 20 ∨ bs = 40 ∨ bs = 80 ∨ bs = 160
theorem Jv.pre {X Y : Nat → Im} {n bs a e : Nat} (h : Jv X Y n bs a) (hb : bsOk bs) (ha : a % (2 * bs) = 0) (h1 : a + bs < e) (h2 : e ≤ a + 2 * bs) (h3 : e ≤ n) :
    Go.Proofs.YtoeabfcnfofbiaaDoor.so Y a (a + bs) ∧ Go.Proofs.YtoeabfcnfofbiaaDoor.so Y (a + bs) e ∧ sep Y a (a + bs) e := by
  rcases hb with rfl | rfl | rfl | rfl
  all_goals
    refine ⟨fun i j p q r => h.so i j q (by omega) (.inr ⟨p, by omega⟩), fun i j p q r => h.so i j q (by omega) (.inr ⟨by omega, by omega⟩), fun i j p q r t => h.se i j (by omega) (by omega) (.inr ⟨p, by omega⟩)⟩
theorem Jv.step {X Y Z : Nat → Im} {n bs a e : Nat} (h : Jv X Y n bs a) (hb : bsOk bs) (ha : a % (2 * bs) = 0) (h1 : a < e) (h2 : e ≤ a + 2 * bs) (h3 : e ≤ n) (h4 : e = a + 2 * bs ∨ e = n) (p : Pm Y Z a e) (s : Go.Proofs.YtoeabfcnfofbiaaDoor.so Z a e) : Jv X Z n bs e := by
  rcases hb with rfl | rfl | rfl | rfl
  all_goals
    refine ⟨h.pm.trans (p.wide (Nat.zero_le _) (by omega) h3), fun i j hij hj hb => ?_, fun i j hij hj hb => ?_⟩
    · by_cases c : a ≤ i ∧ j < e
      · exact s i j c.1 hij c.2
      · have c1 : i < a ∨ e ≤ i := by omega
        have c2 : j < a ∨ e ≤ j := by omega
        rw [p.2 i c1, p.2 j c2]
        exact h.so i j hij hj (by omega)
    · obtain ⟨i', a1, a2, a3⟩ : ∃ i', i' < n ∧ Z i = Y i' ∧ ((a ≤ i ∧ i < e ∧ a ≤ i' ∧ i' < e) ∨ (i' = i ∧ (i < a ∨ e ≤ i))) := by
        by_cases c : a ≤ i ∧ i < e
        · obtain ⟨i', q1, q2, q3⟩ := p.mem c.1 c.2
          exact ⟨i', by omega, q3, .inl ⟨c.1, c.2, q1, q2⟩⟩
        · exact ⟨i, by omega, p.2 i (by omega), .inr ⟨rfl, by omega⟩⟩
      obtain ⟨j', b1, b2, b3⟩ : ∃ j', j' < n ∧ Z j = Y j' ∧ ((a ≤ j ∧ j < e ∧ a ≤ j' ∧ j' < e) ∨ (j' = j ∧ (j < a ∨ e ≤ j))) := by
        by_cases c : a ≤ j ∧ j < e
        · obtain ⟨j', q1, q2, q3⟩ := p.mem c.1 c.2
          exact ⟨j', by omega, q3, .inl ⟨c.1, c.2, q1, q2⟩⟩
        · exact ⟨j, hj, p.2 j (by omega), .inr ⟨rfl, by omega⟩⟩
      rw [a2, b2]
      exact h.se i' j' (by omega) b1 (by omega)
theorem Jv.double {X Y : Nat → Im} {n bs : Nat} (h : Jv X Y n bs n) (hb : bsOk bs) : Jv X Y n (2 * bs) 0 := by
  rcases hb with rfl | rfl | rfl | rfl
  all_goals exact ⟨h.pm, fun i j hij hj hb => h.so i j hij hj (.inl ⟨hj, by omega⟩), fun i j hij hj hb => h.se i j hij hj (.inl (by omega))⟩
/-- What is left over is one block. -/
theorem Jv.rest {X Y : Nat → Im} {n bs a : Nat} (h : Jv X Y n bs a) (hb : bsOk bs) (ha : a % (2 * bs) = 0) (h1 : a ≤ n) (h2 : n ≤ a + bs) : Jv X Y n bs n := by
  rcases hb with rfl | rfl | rfl | rfl
  all_goals exact ⟨h.pm, fun i j hij hj hb => h.so i j hij hj (by omega), fun i j hij hj hb => h.se i j hij hj (by omega)⟩
theorem Jv.last {X Y : Nat → Im} {n bs : Nat} (h : Jv X Y n bs 0) (hn : n ≤ bs) : Pm X Y 0 n ∧ Go.Proofs.YtoeabfcnfofbiaaDoor.so Y 0 n :=
  ⟨h.pm, fun i j _ hij hj => h.so i j hij hj (.inr ⟨Nat.zero_le _, by rw [Nat.div_eq_of_lt (by omega), Nat.div_eq_of_lt (by omega)]⟩)⟩

set_option maxHeartbeats 2000000 in
set_option maxRecDepth 100000 in
theorem stable_any (g cap n : Nat) (X : Nat → Im) (w : World) (h : Sr w g n X) (hg : g < w.heap.size) (hl : n ≤ 288) (hs : ∀ i j, i < j → j < n → (X i).sy < (X j).sy) :
    Calls Tryd.prog 116 #[.slice (some ⟨g, 0, none⟩) n cap, .int .i64 n, cmpF] w fun e w' => e = .returned (.tuple #[]) ∧ ∃ Y, Sr w' g n Y ∧ w.grownBy w' (some g) ∧ Pm X Y 0 n ∧ so Y 0 n := by
  go_enter Tryd.func116, Tryd.ntmps116
  go_wp2_with fail
  go_loopw [7, 8] (fun ta tb wr => ∃ (a b : Nat) (Y : Nat → Im), a ≤ n ∧ b = a + 20 ∧ ta = .int .i64 (a : Int) ∧ tb = .int .i64 (b : Int) ∧ Sr wr g n Y ∧ g < wr.heap.size ∧ w.grownBy wr (some g) ∧ Hid (Iv X Y n a ∧ a % 20 = 0)) (fun ta _ _ => n + 1 - (intOf ta).toNat)
  case atStart => exact ⟨0, 20, X, Nat.zero_le _, rfl, rfl, rfl, h, hg, World.grownBy.refl _ _, (⟨⟨Pm.refl _ _ _, fun i j h1 h2 => by omega, fun i j h1 h2 _ => hs i j h1 h2⟩, rfl⟩ : _ ∧ _)⟩
  case round =>
    obtain ⟨a, b, Y, han, hb, rfl, rfl, hS, hgw, hG, HI⟩ := hrel
    have HB : Hid (b = a + 20) := hb
    have hab : a ≤ b ∧ b ≤ 308 := by omega
    clear hb
    by_cases hbn : b ≤ n
    · have hbni : (b : Int) ≤ (n : Int) := by omega
      have CI := insSort_any g cap n a b Y wr hS hgw (by omega) hbn (by omega) (fun i j h1 h2 h3 => HI.out.1.se i j h2 (by omega) (.inr h1))
      go_wp2_with fail
      refine CI.mono ?_
      rintro e w2 ⟨rfl, Z, S2, G2, P2, so2⟩
      have HI2 : Hid (Iv X Z n b ∧ b % 20 = 0) := ⟨HI.out.1.step HI.out.2 (by omega) (by have := HB.out; omega) hbn P2 so2, by have := HB.out; have := HI.out.2; omega⟩
      clear P2 so2 CI
      go_wp2
      go_roundw
      case rel => exact ⟨b, b + 20, Z, hbn, rfl, rfl, by go_num, S2, Nat.lt_of_lt_of_le hgw G2.size, grownBy_trans hG G2, HI2.out⟩
      case measure => have := HB.out; simp [intOf]; omega
    · have hbni : ¬ (b : Int) ≤ (n : Int) := by omega
      have CI := insSort_any g cap n a n Y wr hS hgw han (Nat.le_refl _) (by omega) (fun i j h1 h2 h3 => HI.out.1.se i j h2 (by omega) (.inr h1))
      go_wp2_with fail
      refine CI.mono ?_
      rintro e w2 ⟨rfl, Z, S2, G2, P2, so2⟩
      have HJ : Hid (Jv X Z n 20 0) := (HI.out.1.step HI.out.2 han (by have := HB.out; omega) (Nat.le_refl _) P2 so2).whole
      have G2' := grownBy_trans hG G2
      have L2 : g < w2.heap.size := Nat.lt_of_lt_of_le hgw G2.size
      clear P2 so2 CI HI hS hgw hG G2 HB hbn hbni han
      go_wp2_with fail
      go_loopw [6, 7, 8] (fun ts ta tb wr => ∃ (bs : Nat) (va vb : Int) (Y : Nat → Im), 0 < bs ∧ bs ≤ 320 ∧ ts = .int .i64 (bs : Int) ∧ ta = .int .i64 va ∧ tb = .int .i64 vb ∧ Sr wr g n Y ∧ g < wr.heap.size ∧ w.grownBy wr (some g) ∧ Hid (Jv X Y n bs 0 ∧ (bsOk bs ∨ bs = 320))) (fun ts _ _ _ => 400 - (intOf ts).toNat)
      case atStart => exact ⟨20, _, _, Z, by omega, by omega, rfl, rfl, rfl, S2, L2, G2', (⟨HJ.out, .inl (.inl rfl)⟩ : _ ∧ _)⟩
      case round =>
        clear HJ S2 L2 G2'
        obtain ⟨bs, va, vb, Y, hbs0, hbs, rfl, rfl, rfl, hS, hgw, hG, HJ⟩ := hrel
        by_cases hbn : bs < n
        · have hbni : (bs : Int) < (n : Int) := by omega
          have HOK : Hid (bsOk bs) := by
            rcases HJ.out.2 with e | e
            · exact e
            · omega
          obtain ⟨d, hd⟩ : ∃ d, d = 2 * bs := ⟨_, rfl⟩
          have rd : 2 * (bs : Int) = (d : Int) := by omega
          have HD : Hid (d = 2 * bs) := hd
          have hdb : d ≤ 640 ∧ bs < d := by omega
          clear hd
          have rd2 : (bs : Int) * 2 = (d : Int) := by omega
          obtain ⟨w0, hw0⟩ : ∃ w0, w0 = wr := ⟨_, rfl⟩
          have HW0 : Hid (w0 = wr) := hw0
          have HB1 : Hid (bsOk d ∨ d = 320) := by
            have e := HD.out
            rcases HOK.out with e1 | e1 | e1 | e1
            · exact .inl (.inr (.inl (by omega)))
            · exact .inl (.inr (.inr (.inl (by omega))))
            · exact .inl (.inr (.inr (.inr (by omega))))
            · exact .inr (by omega)
          have HDB : Hid (d ≤ 320) := by
            have e := HD.out
            rcases HOK.out with e1 | e1 | e1 | e1 <;> (show _ ≤ _; omega)
          clear hw0
          go_wp2_with fail
          go_loopw [7, 8] (fun ta tb w2 => ∃ (a b : Nat) (V : Nat → Im), a ≤ n ∧ b = a + d ∧ ta = .int .i64 (a : Int) ∧ tb = .int .i64 (b : Int) ∧ Sr w2 g n V ∧ g < w2.heap.size ∧ w0.grownBy w2 (some g) ∧ Hid (Jv X V n bs a ∧ a % (2 * bs) = 0)) (fun ta _ _ => n + 1 - (intOf ta).toNat)
          case atStart => exact ⟨0, d, Y, Nat.zero_le _, by omega, rfl, rfl, hS, hgw, by rw [HW0.out]; exact World.grownBy.refl _ _, (⟨HJ.out.1, by simp⟩ : _ ∧ _)⟩
          case round =>
            have hG0 : w.grownBy w0 (some g) := by rw [HW0.out]; exact hG
            clear hS hgw hG HJ
            obtain ⟨a, b, V, han, hbe, rfl, rfl, hS, hgw, hG, HJ⟩ := hrel
            have HB : Hid (b = a + d) := hbe
            obtain ⟨m, hm⟩ : ∃ m, m = a + bs := ⟨_, rfl⟩
            have rm : (a : Int) + (bs : Int) = (m : Int) := by omega
            have HM : Hid (m = a + bs) := hm
            have hmb : a < m ∧ m < b ∧ b ≤ 928 := by omega
            clear hbe hm
            by_cases hbn2 : b ≤ n
            · have hbni2 : (b : Int) ≤ (n : Int) := by omega
              obtain ⟨x1, x2, x3⟩ := HJ.out.1.pre HOK.out HJ.out.2 (e := b) (by have := HM.out; omega) (by have := HB.out; have := HD.out; omega) hbn2
              rw [← HM.out] at x1 x2 x3
              have CS := sym_any g n cap (by omega) (b - a) a m b V wr (Nat.le_refl _) hS hgw hbn2 hmb.1 hmb.2.1 x1 x2 x3
              unfold SymQ at CS
              clear x1 x2 x3
              go_wp2_with fail
              refine CS.mono ?_
              rintro e w2 ⟨rfl, Z, S2, G2, P2, so2⟩
              have HJ2 : Hid (Jv X Z n bs b ∧ b % (2 * bs) = 0) := ⟨HJ.out.1.step HOK.out HJ.out.2 (by omega) (by have := HB.out; have := HD.out; omega) hbn2 (.inl (by have := HB.out; have := HD.out; omega)) P2 so2, by have e1 := HB.out; have e2 := HD.out; have e3 := HJ.out.2; rw [e1, e2, Nat.add_mod_right]; exact e3⟩
              clear P2 so2 CS
              go_wp2
              go_roundw
              case rel => exact ⟨b, b + d, Z, hbn2, rfl, rfl, by go_num, S2, Nat.lt_of_lt_of_le hgw G2.size, grownBy_trans hG G2, HJ2.out⟩
              case measure => simp [intOf]; omega
            · have hbni2 : ¬ (b : Int) ≤ (n : Int) := by omega
              by_cases hmn : m < n
              · have hmni : (m : Int) < (n : Int) := by omega
                obtain ⟨x1, x2, x3⟩ := HJ.out.1.pre HOK.out HJ.out.2 (e := n) (by have := HM.out; omega) (by have := HB.out; have := HD.out; omega) (Nat.le_refl _)
                rw [← HM.out] at x1 x2 x3
                have CS := sym_any g n cap (by omega) (n - a) a m n V wr (Nat.le_refl _) hS hgw (Nat.le_refl _) hmb.1 hmn x1 x2 x3
                unfold SymQ at CS
                clear x1 x2 x3
                go_wp2_with fail
                refine CS.mono ?_
                rintro e w2 ⟨rfl, Z, S2, G2, P2, so2⟩
                have HJ2 : Hid (Jv X Z n d 0 ∧ (bsOk d ∨ d = 320)) := ⟨by have := (HJ.out.1.step HOK.out HJ.out.2 (by omega) (by have := HB.out; have := HD.out; omega) (Nat.le_refl _) (.inr rfl) P2 so2).double HOK.out; rw [← HD.out] at this; exact this, HB1.out⟩
                clear P2 so2 CS
                go_wp2
                go_roundw
                case rel => exact ⟨d, _, _, Z, by omega, HDB.out, rfl, rfl, rfl, S2, Nat.lt_of_lt_of_le hgw G2.size, grownBy_trans hG0 (grownBy_trans hG G2), HJ2.out⟩
                case measure => have := HDB.out; simp [intOf]; omega
              · have hmni : ¬ (m : Int) < (n : Int) := by omega
                have HJ2 : Hid (Jv X V n d 0 ∧ (bsOk d ∨ d = 320)) := ⟨by have := (HJ.out.1.rest HOK.out HJ.out.2 han (by have := HM.out; omega)).double HOK.out; rw [← HD.out] at this; exact this, HB1.out⟩
                go_wp2
                go_roundw
                case rel => exact ⟨d, _, _, V, by omega, HDB.out, rfl, rfl, rfl, hS, hgw, grownBy_trans hG0 hG, HJ2.out⟩
                case measure => have := HDB.out; simp [intOf]; omega
        · have hbni : ¬ (bs : Int) < (n : Int) := by omega
          go_wp2
          go_end0
          exact ⟨rfl, Y, hS, hG, HJ.out.1.last (by omega)⟩

set_option maxRecDepth 100000 in
theorem sortStable_any (g cap n : Nat) (X : Nat → Im) (w : World) (h : Sr w g n X) (hg : g < w.heap.size) (hl : n ≤ 288) (hs : ∀ i j, i < j → j < n → (X i).sy < (X j).sy) :
    Calls Tryd.prog 105 #[.slice (some ⟨g, 0, none⟩) n cap, cmpF] w fun e w' => e = .returned (.tuple #[]) ∧ ∃ Y, Sr w' g n Y ∧ w.grownBy w' (some g) ∧ Pm X Y 0 n ∧ so Y 0 n := by
  go_enter Tryd.func105, Tryd.ntmps105
  go_wp2_with fail
  refine (stable_any g cap n X _ h hg hl hs).mono ?_
  rintro e w2 ⟨rfl, r⟩
  go_wp2
  go_end0
  exact ⟨rfl, r⟩
end Go.Proofs.YtoeabfcnfofbiaaDoor
