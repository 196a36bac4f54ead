import Derived.Test.YtcifalelnfeggaaGreatDoorPi
import Derived.Test.YtcifalelnfeggaaGreatDoorPc
import Derived.WalkLawsBesides
import Derived.WalkKit
namespace Go.Proofs.YtcifalelnfeggaaGreatDoor
open Go.RowKit
set_option linter.unusedVariables false

theorem sym_any (g n cap : Nat) (hl : n ≤ 100000) : ∀ (N a m b : Nat) (X : Nat → Im) (w : World), b - a ≤ N → Sr w g n X → g < w.heap.size → b ≤ n → a < m → m < b → so X a m → so X m b → sep X a m b → SymQ g n cap a m b X w := by
  intro N
  induction N using Nat.strongRecOn with
  | ind N ih =>
    intro a m b X w hN hS hg hb ham hmb h1 h2 h3
    by_cases c1 : m = a + 1
    · exact sym_first g n cap a m b X w hS hg hb hl c1 hmb h2 h3
    · by_cases c2 : b = m + 1
      · exact sym_last g n cap a m b X w hS hg hb hl (by omega) c2 h1 h3
      · exact sym_gen g n cap a m b X w hS hg hb hl (by omega) (by omega) h1 h2 h3 (fun a' m' b' X' w' hlt s1 s2 s3 s4 s5 s6 s7 s8 => ih (b' - a') (by omega) a' m' b' X' w' (Nat.le_refl _) s1 s2 s3 s4 s5 s6 s7 s8)

/-- Blocks of 20 up to a are in order. -/
structure Iv (X Y : Nat → Im) (n a : Nat) : Prop where
  pm : Pm X Y 0 n
  so : ∀ i j, i < j → j < a → i / 20 = j / 20 → kl (Y i) (Y j)
  se : ∀ i j, i < j → j < n → (i / 20 < j / 20 ∨ a ≤ i) → (Y i).sy < (Y j).sy
theorem Iv.step {X Y Z : Nat → Im} {n a e : Nat} (h : Iv X Y n a) (ha : a % 20 = 0) (h1 : a ≤ e) (h2 : e ≤ a + 20) (h3 : e ≤ n) (p : Pm Y Z a e) (s : Go.Proofs.YtcifalelnfeggaaGreatDoor.so Z a e) : Iv X Z n e := by
  have key : ∀ i, i < n → ∃ i', i' < n ∧ Z i = Y i' ∧ i' / 20 = i / 20 ∧ (i < a → i' = i) ∧ (e ≤ i → i' = i) ∧ (a ≤ i → a ≤ i') := by
    intro i hi
    by_cases c : a ≤ i ∧ i < e
    · obtain ⟨i', q1, q2, q3⟩ := p.mem c.1 c.2
      exact ⟨i', by omega, q3, by omega, by omega, by omega, by omega⟩
    · exact ⟨i, hi, p.2 i (by omega), rfl, fun _ => rfl, fun _ => rfl, fun q => q⟩
  refine ⟨h.pm.trans (p.wide (Nat.zero_le _) h1 h3), fun i j hij hj hb => ?_, fun i j hij hj hb => ?_⟩
  · by_cases c : a ≤ i
    · exact s i j c hij hj
    · have hja : j < a := by omega
      rw [p.2 i (by omega), p.2 j (by omega)]
      exact h.so i j hij hja hb
  · obtain ⟨i', a1, a2, a3, a4, a5, a6⟩ := key i (by omega)
    obtain ⟨j', b1, b2, b3, b4, b5, b6⟩ := key j hj
    rw [a2, b2]
    rcases hb with hb | hb
    · exact h.se i' j' (by omega) b1 (.inl (by omega))
    · have e1 := a5 hb
      have e2 := b5 (by omega)
      rw [e1, e2]
      exact h.se i j hij hj (.inr (by omega))
/-- Blocks of twice bs up to a, of bs from there on, are in order. -/
structure Jv (X Y : Nat → Im) (n bs a : Nat) : Prop where
  pm : Pm X Y 0 n
  so : ∀ i j, i < j → j < n → ((j < a ∧ i / (2 * bs) = j / (2 * bs)) ∨ (a ≤ i ∧ i / bs = j / bs)) → kl (Y i) (Y j)
  se : ∀ i j, i < j → j < n → (i / (2 * bs) < j / (2 * bs) ∨ (a ≤ i ∧ i / bs < j / bs)) → (Y i).sy < (Y j).sy
theorem Iv.whole {X Y : Nat → Im} {n : Nat} (h : Iv X Y n n) : Jv X Y n 20 0 :=
  ⟨h.pm, fun i j hij hj hb => h.so i j hij hj (by omega), fun i j hij hj hb => h.se i j hij hj (.inl (by omega))⟩
def bsOk (bs : Nat) : Prop := bs = 20 ∨ bs = 40 ∨ bs = 80 ∨ bs = 160
theorem Jv.pre {X Y : Nat → Im} {n bs a e : Nat} (h : Jv X Y n bs a) (hb : bsOk bs) (ha : a % (2 * bs) = 0) (h1 : a + bs < e) (h2 : e ≤ a + 2 * bs) (h3 : e ≤ n) :
    Go.Proofs.YtcifalelnfeggaaGreatDoor.so Y a (a + bs) ∧ Go.Proofs.YtcifalelnfeggaaGreatDoor.so Y (a + bs) e ∧ sep Y a (a + bs) e := by
  rcases hb with rfl | rfl | rfl | rfl
  all_goals
    refine ⟨fun i j p q r => h.so i j q (by omega) (.inr ⟨p, by omega⟩), fun i j p q r => h.so i j q (by omega) (.inr ⟨by omega, by omega⟩), fun i j p q r t => h.se i j (by omega) (by omega) (.inr ⟨p, by omega⟩)⟩
theorem Jv.step {X Y Z : Nat → Im} {n bs a e : Nat} (h : Jv X Y n bs a) (hb : bsOk bs) (ha : a % (2 * bs) = 0) (h1 : a < e) (h2 : e ≤ a + 2 * bs) (h3 : e ≤ n) (h4 : e = a + 2 * bs ∨ e = n) (p : Pm Y Z a e) (s : Go.Proofs.YtcifalelnfeggaaGreatDoor.so Z a e) : Jv X Z n bs e := by
  rcases hb with rfl | rfl | rfl | rfl
  all_goals
    refine ⟨h.pm.trans (p.wide (Nat.zero_le _) (by omega) h3), fun i j hij hj hb => ?_, fun i j hij hj hb => ?_⟩
    · by_cases c : a ≤ i ∧ j < e
      · exact s i j c.1 hij c.2
      · have c1 : i < a ∨ e ≤ i := by omega
        have c2 : j < a ∨ e ≤ j := by omega
        rw [p.2 i c1, p.2 j c2]
        exact h.so i j hij hj (by omega)
    · obtain ⟨i', a1, a2, a3⟩ : ∃ i', i' < n ∧ Z i = Y i' ∧ ((a ≤ i ∧ i < e ∧ a ≤ i' ∧ i' < e) ∨ (i' = i ∧ (i < a ∨ e ≤ i))) := by
        by_cases c : a ≤ i ∧ i < e
        · obtain ⟨i', q1, q2, q3⟩ := p.mem c.1 c.2
          exact ⟨i', by omega, q3, .inl ⟨c.1, c.2, q1, q2⟩⟩
        · exact ⟨i, by omega, p.2 i (by omega), .inr ⟨rfl, by omega⟩⟩
      obtain ⟨j', b1, b2, b3⟩ : ∃ j', j' < n ∧ Z j = Y j' ∧ ((a ≤ j ∧ j < e ∧ a ≤ j' ∧ j' < e) ∨ (j' = j ∧ (j < a ∨ e ≤ j))) := by
        by_cases c : a ≤ j ∧ j < e
        · obtain ⟨j', q1, q2, q3⟩ := p.mem c.1 c.2
          exact ⟨j', by omega, q3, .inl ⟨c.1, c.2, q1, q2⟩⟩
        · exact ⟨j, hj, p.2 j (by omega), .inr ⟨rfl, by omega⟩⟩
      rw [a2, b2]
      exact h.se i' j' (by omega) b1 (by omega)
theorem Jv.double {X Y : Nat → Im} {n bs : Nat} (h : Jv X Y n bs n) (hb : bsOk bs) : Jv X Y n (2 * bs) 0 := by
  rcases hb with rfl | rfl | rfl | rfl
  all_goals exact ⟨h.pm, fun i j hij hj hb => h.so i j hij hj (.inl ⟨hj, by omega⟩), fun i j hij hj hb => h.se i j hij hj (.inl (by omega))⟩
/-- What is left over is one block. -/
theorem Jv.rest {X Y : Nat → Im} {n bs a : Nat} (h : Jv X Y n bs a) (hb : bsOk bs) (ha : a % (2 * bs) = 0) (h1 : a ≤ n) (h2 : n ≤ a + bs) : Jv X Y n bs n := by
  rcases hb with rfl | rfl | rfl | rfl
  all_goals exact ⟨h.pm, fun i j hij hj hb => h.so i j hij hj (by omega), fun i j hij hj hb => h.se i j hij hj (by omega)⟩
theorem Jv.last {X Y : Nat → Im} {n bs : Nat} (h : Jv X Y n bs 0) (hn : n ≤ bs) : Pm X Y 0 n ∧ Go.Proofs.YtcifalelnfeggaaGreatDoor.so Y 0 n :=
  ⟨h.pm, fun i j _ hij hj => h.so i j hij hj (.inr ⟨Nat.zero_le _, by rw [Nat.div_eq_of_lt (by omega), Nat.div_eq_of_lt (by omega)]⟩)⟩

set_option maxHeartbeats 2000000 in
set_option maxRecDepth 100000 in
theorem stable_any (g cap n : Nat) (X : Nat → Im) (w : World) (h : Sr w g n X) (hg : g < w.heap.size) (hl : n ≤ 288) (hs : ∀ i j, i < j → j < n → (X i).sy < (X j).sy) :
    Calls Tryz.prog 137 #[.slice (some ⟨g, 0, none⟩) n cap, .int .i64 n, cmpF] w fun e w' => e = .returned (.tuple #[]) ∧ ∃ Y, Sr w' g n Y ∧ w.grownBy w' (some g) ∧ Pm X Y 0 n ∧ so Y 0 n := by
  go_enter Tryz.func137, Tryz.ntmps137
  go_wp2_with fail
  go_loopw [7, 8] (fun ta tb wr => ∃ (a b : Nat) (Y : Nat → Im), a ≤ n ∧ b = a + 20 ∧ ta = .int .i64 (a : Int) ∧ tb = .int .i64 (b : Int) ∧ Sr wr g n Y ∧ g < wr.heap.size ∧ w.grownBy wr (some g) ∧ Hid (Iv X Y n a ∧ a % 20 = 0)) (fun ta _ _ => n + 1 - (intOf ta).toNat)
  case atStart => exact ⟨0, 20, X, Nat.zero_le _, rfl, rfl, rfl, h, hg, World.grownBy.refl _ _, (⟨⟨Pm.refl _ _ _, fun i j h1 h2 => by omega, fun i j h1 h2 _ => hs i j h1 h2⟩, rfl⟩ : _ ∧ _)⟩
  case round =>
    obtain ⟨a, b, Y, han, hb, rfl, rfl, hS, hgw, hG, HI⟩ := hrel
    have HB : Hid (b = a + 20) := hb
    have hab : a ≤ b ∧ b ≤ 308 := by omega
    clear hb
    by_cases hbn : b ≤ n
    · have hbni : (b : Int) ≤ (n : Int) := by omega
      have CI := insSort_any g cap n a b Y wr hS hgw (by omega) hbn (by omega) (fun i j h1 h2 h3 => HI.out.1.se i j h2 (by omega) (.inr h1))
      go_wp2_with fail
      refine CI.mono ?_
      rintro e w2 ⟨rfl, Z, S2, G2, P2, so2⟩
      have HI2 : Hid (Iv X Z n b ∧ b % 20 = 0) := ⟨HI.out.1.step HI.out.2 (by omega) (by have := HB.out; omega) hbn P2 so2, by have := HB.out; have := HI.out.2; omega⟩
      clear P2 so2 CI
      go_wp2
      go_roundw
      case rel => exact ⟨b, b + 20, Z, hbn, rfl, rfl, by go_num, S2, Nat.lt_of_lt_of_le hgw G2.size, grownBy_trans hG G2, HI2.out⟩
      case measure => have := HB.out; simp [intOf]; omega
    · have hbni : ¬ (b : Int) ≤ (n : Int) := by omega
      have CI := insSort_any g cap n a n Y wr hS hgw han (Nat.le_refl _) (by omega) (fun i j h1 h2 h3 => HI.out.1.se i j h2 (by omega) (.inr h1))
      go_wp2_with fail
      refine CI.mono ?_
      rintro e w2 ⟨rfl, Z, S2, G2, P2, so2⟩
      have HJ : Hid (Jv X Z n 20 0) := (HI.out.1.step HI.out.2 han (by have := HB.out; omega) (Nat.le_refl _) P2 so2).whole
      have G2' := grownBy_trans hG G2
      have L2 : g < w2.heap.size := Nat.lt_of_lt_of_le hgw G2.size
      clear P2 so2 CI HI hS hgw hG G2 HB hbn hbni han
      go_wp2_with fail
      go_loopw [6, 7, 8] (fun ts ta tb wr => ∃ (bs : Nat) (va vb : Int) (Y : Nat → Im), 0 < bs ∧ bs ≤ 320 ∧ ts = .int .i64 (bs : Int) ∧ ta = .int .i64 va ∧ tb = .int .i64 vb ∧ Sr wr g n Y ∧ g < wr.heap.size ∧ w.grownBy wr (some g) ∧ Hid (Jv X Y n bs 0 ∧ (bsOk bs ∨ bs = 320))) (fun ts _ _ _ => 400 - (intOf ts).toNat)
      case atStart => exact ⟨20, _, _, Z, by omega, by omega, rfl, rfl, rfl, S2, L2, G2', (⟨HJ.out, .inl (.inl rfl)⟩ : _ ∧ _)⟩
      case round =>
        clear HJ S2 L2 G2'
        obtain ⟨bs, va, vb, Y, hbs0, hbs, rfl, rfl, rfl, hS, hgw, hG, HJ⟩ := hrel
        by_cases hbn : bs < n
        · have hbni : (bs : Int) < (n : Int) := by omega
          have HOK : Hid (bsOk bs) := by
            rcases HJ.out.2 with e | e
            · exact e
            · omega
          obtain ⟨d, hd⟩ : ∃ d, d = 2 * bs := ⟨_, rfl⟩
          have rd : 2 * (bs : Int) = (d : Int) := by omega
          have HD : Hid (d = 2 * bs) := hd
          have hdb : d ≤ 640 ∧ bs < d := by omega
          clear hd
          have rd2 : (bs : Int) * 2 = (d : Int) := by omega
          obtain ⟨w0, hw0⟩ : ∃ w0, w0 = wr := ⟨_, rfl⟩
          have HW0 : Hid (w0 = wr) := hw0
          have HB1 : Hid (bsOk d ∨ d = 320) := by
            have e := HD.out
            rcases HOK.out with e1 | e1 | e1 | e1
            · exact .inl (.inr (.inl (by omega)))
            · exact .inl (.inr (.inr (.inl (by omega))))
            · exact .inl (.inr (.inr (.inr (by omega))))
            · exact .inr (by omega)
          have HDB : Hid (d ≤ 320) := by
            have e := HD.out
            rcases HOK.out with e1 | e1 | e1 | e1 <;> (show _ ≤ _; omega)
          clear hw0
          go_wp2_with fail
          go_loopw [7, 8] (fun ta tb w2 => ∃ (a b : Nat) (V : Nat → Im), a ≤ n ∧ b = a + d ∧ ta = .int .i64 (a : Int) ∧ tb = .int .i64 (b : Int) ∧ Sr w2 g n V ∧ g < w2.heap.size ∧ w0.grownBy w2 (some g) ∧ Hid (Jv X V n bs a ∧ a % (2 * bs) = 0)) (fun ta _ _ => n + 1 - (intOf ta).toNat)
          case atStart => exact ⟨0, d, Y, Nat.zero_le _, by omega, rfl, rfl, hS, hgw, by rw [HW0.out]; exact World.grownBy.refl _ _, (⟨HJ.out.1, by simp⟩ : _ ∧ _)⟩
          case round =>
            have hG0 : w.grownBy w0 (some g) := by rw [HW0.out]; exact hG
            clear hS hgw hG HJ
            obtain ⟨a, b, V, han, hbe, rfl, rfl, hS, hgw, hG, HJ⟩ := hrel
            have HB : Hid (b = a + d) := hbe
            obtain ⟨m, hm⟩ : ∃ m, m = a + bs := ⟨_, rfl⟩
            have rm : (a : Int) + (bs : Int) = (m : Int) := by omega
            have HM : Hid (m = a + bs) := hm
            have hmb : a < m ∧ m < b ∧ b ≤ 928 := by omega
            clear hbe hm
            by_cases hbn2 : b ≤ n
            · have hbni2 : (b : Int) ≤ (n : Int) := by omega
              obtain ⟨x1, x2, x3⟩ := HJ.out.1.pre HOK.out HJ.out.2 (e := b) (by have := HM.out; omega) (by have := HB.out; have := HD.out; omega) hbn2
              rw [← HM.out] at x1 x2 x3
              have CS := sym_any g n cap (by omega) (b - a) a m b V wr (Nat.le_refl _) hS hgw hbn2 hmb.1 hmb.2.1 x1 x2 x3
              unfold SymQ at CS
              clear x1 x2 x3
              go_wp2_with fail
              refine CS.mono ?_
              rintro e w2 ⟨rfl, Z, S2, G2, P2, so2⟩
              have HJ2 : Hid (Jv X Z n bs b ∧ b % (2 * bs) = 0) := ⟨HJ.out.1.step HOK.out HJ.out.2 (by omega) (by have := HB.out; have := HD.out; omega) hbn2 (.inl (by have := HB.out; have := HD.out; omega)) P2 so2, by have e1 := HB.out; have e2 := HD.out; have e3 := HJ.out.2; rw [e1, e2, Nat.add_mod_right]; exact e3⟩
              clear P2 so2 CS
              go_wp2
              go_roundw
              case rel => exact ⟨b, b + d, Z, hbn2, rfl, rfl, by go_num, S2, Nat.lt_of_lt_of_le hgw G2.size, grownBy_trans hG G2, HJ2.out⟩
              case measure => simp [intOf]; omega
            · have hbni2 : ¬ (b : Int) ≤ (n : Int) := by omega
              by_cases hmn : m < n
              · have hmni : (m : Int) < (n : Int) := by omega
                obtain ⟨x1, x2, x3⟩ := HJ.out.1.pre HOK.out HJ.out.2 (e := n) (by have := HM.out; omega) (by have := HB.out; have := HD.out; omega) (Nat.le_refl _)
                rw [← HM.out] at x1 x2 x3
                have CS := sym_any g n cap (by omega) (n - a) a m n V wr (Nat.le_refl _) hS hgw (Nat.le_refl _) hmb.1 hmn x1 x2 x3
                unfold SymQ at CS
                clear x1 x2 x3
                go_wp2_with fail
                refine CS.mono ?_
                rintro e w2 ⟨rfl, Z, S2, G2, P2, so2⟩
                have HJ2 : Hid (Jv X Z n d 0 ∧ (bsOk d ∨ d = 320)) := ⟨by have := (HJ.out.1.step HOK.out HJ.out.2 (by omega) (by have := HB.out; have := HD.out; omega) (Nat.le_refl _) (.inr rfl) P2 so2).double HOK.out; rw [← HD.out] at this; exact this, HB1.out⟩
                clear P2 so2 CS
                go_wp2
                go_roundw
                case rel => exact ⟨d, _, _, Z, by omega, HDB.out, rfl, rfl, rfl, S2, Nat.lt_of_lt_of_le hgw G2.size, grownBy_trans hG0 (grownBy_trans hG G2), HJ2.out⟩
                case measure => have := HDB.out; simp [intOf]; omega
              · have hmni : ¬ (m : Int) < (n : Int) := by omega
                have HJ2 : Hid (Jv X V n d 0 ∧ (bsOk d ∨ d = 320)) := ⟨by have := (HJ.out.1.rest HOK.out HJ.out.2 han (by have := HM.out; omega)).double HOK.out; rw [← HD.out] at this; exact this, HB1.out⟩
                go_wp2
                go_roundw
                case rel => exact ⟨d, _, _, V, by omega, HDB.out, rfl, rfl, rfl, hS, hgw, grownBy_trans hG0 hG, HJ2.out⟩
                case measure => have := HDB.out; simp [intOf]; omega
        · have hbni : ¬ (bs : Int) < (n : Int) := by omega
          go_wp2
          go_end0
          exact ⟨rfl, Y, hS, hG, HJ.out.1.last (by omega)⟩

set_option maxRecDepth 100000 in
theorem sortStable_any (g cap n : Nat) (X : Nat → Im) (w : World) (h : Sr w g n X) (hg : g < w.heap.size) (hl : n ≤ 288) (hs : ∀ i j, i < j → j < n → (X i).sy < (X j).sy) :
    Calls Tryz.prog 114 #[.slice (some ⟨g, 0, none⟩) n cap, cmpF] w fun e w' => e = .returned (.tuple #[]) ∧ ∃ Y, Sr w' g n Y ∧ w.grownBy w' (some g) ∧ Pm X Y 0 n ∧ so Y 0 n := by
  go_enter Tryz.func114, Tryz.ntmps114
  go_wp2_with fail
  refine (stable_any g cap n X _ h hg hl hs).mono ?_
  rintro e w2 ⟨rfl, r⟩
  go_wp2
  go_end0
  exact ⟨rfl, r⟩
end Go.Proofs.YtcifalelnfeggaaGreatDoor

namespace Go.Proofs.YtcifalelnfeggaaGreatDoor
open Go.RowKit
set_option linter.unusedVariables false

set_option maxRecDepth 100000 in
theorem insSort_nil (X : Value) (w : World) : Calls Tryz.prog 157 #[X, .int .i64 0, .int .i64 0, cmpF] w fun e w' => e = .returned (.tuple #[]) ∧ w' = w := by
  go_enter Tryz.func157, Tryz.ntmps157
  go_wp2
  go_loopw [8] (fun ti wr => ti = .int .i64 1 ∧ wr = w) (fun _ _ => 0)
  case atStart => exact ⟨by go_num, rfl⟩
  case round =>
    obtain ⟨rfl, rfl⟩ := hrel
    go_wp2
    go_end0
    exact ⟨rfl, rfl⟩
set_option maxRecDepth 100000 in
theorem stable_nil (X : Value) (w : World) : Calls Tryz.prog 137 #[X, .int .i64 0, cmpF] w fun e w' => e = .returned (.tuple #[]) ∧ w' = w := by
  go_enter Tryz.func137, Tryz.ntmps137
  go_wp2_with fail
  go_loopw [7, 8] (fun ta tb wr => ta = .int .i64 0 ∧ tb = .int .i64 20 ∧ wr = w) (fun _ _ _ => 0)
  case atStart => exact ⟨rfl, rfl, rfl⟩
  case round =>
    obtain ⟨rfl, rfl, rfl⟩ := hrel
    go_wp2_with fail
    refine (insSort_nil _ _).mono ?_
    rintro e w' ⟨rfl, hw'⟩
    subst w'
    go_wp2_with fail
    go_loopw [6, 7, 8] (fun ts ta tb w2 => ts = .int .i64 20 ∧ ta = .int .i64 0 ∧ tb = .int .i64 20 ∧ w2 = wr) (fun _ _ _ _ => 0)
    case atStart => exact ⟨rfl, rfl, rfl, rfl⟩
    case round =>
      obtain ⟨rfl, rfl, rfl, rfl⟩ := hrel
      go_wp2
      go_end0
      exact ⟨rfl, rfl⟩
set_option maxRecDepth 100000 in
theorem sortStable_nil (cap : Nat) (w : World) : Calls Tryz.prog 114 #[.slice none 0 cap, cmpF] w fun e w' => e = .returned (.tuple #[]) ∧ w' = w := by
  go_enter Tryz.func114, Tryz.ntmps114
  go_wp2_with fail
  refine (stable_nil _ _).mono ?_
  rintro e w' ⟨rfl, hw'⟩
  subst w'
  go_wp2
  go_end0
  exact ⟨rfl, rfl⟩

/-- The symbols in use, in their order, as items. -/
def leafI (zs : List Int) (i : Nat) : Im := ⟨zs.getD i 0, i, none, none⟩
def leafL (zs : List Int) (k : Nat) : List Im := ((List.range k).filter fun i => decide (zs.getD i 0 ≠ 0)).map (leafI zs)
theorem leafL_snoc (zs : List Int) (k : Nat) : leafL zs (k + 1) = leafL zs k ++ (if zs.getD k 0 = 0 then [] else [leafI zs k]) := by
  unfold leafL
  rw [List.range_succ, List.filter_append, List.map_append]
  congr 1
  by_cases h : zs.getD k 0 = 0
  · rw [if_pos h, List.filter_cons, if_neg (by simpa using h), List.filter_nil, List.map_nil]
  · rw [if_neg h, List.filter_cons, if_pos (decide_eq_true h), List.filter_nil, List.map_cons, List.map_nil]
theorem leafL_len (zs : List Int) (k : Nat) : (leafL zs k).length ≤ k := by
  unfold leafL
  rw [List.length_map]
  have := List.length_filter_le (fun i => decide (zs.getD i 0 ≠ 0)) (List.range k)
  simpa using this
def Im.cells (x : Im) : List Value := [.int .i64 x.wt, .int .i64 x.sy, .pointer x.fs, .pointer x.sn]
def flatI (l : List Im) : List Value := l.flatMap Im.cells
theorem flatI_len (l : List Im) : (flatI l).length = l.length * 4 := by
  unfold flatI
  induction l with
  | nil => rfl
  | cons x r ih => simp [Im.cells, ih]; omega
theorem flatI_get : ∀ (l : List Im) (k : Nat) (x : Im), l[k]? = some x → (flatI l)[k * 4]? = some (.int .i64 x.wt) ∧ (flatI l)[k * 4 + 1]? = some (.int .i64 x.sy) ∧ (flatI l)[k * 4 + 2]? = some (.pointer x.fs) ∧ (flatI l)[k * 4 + 3]? = some (.pointer x.sn)
  | [], k, x, h => by simp at h
  | y :: r, 0, x, h => by
    simp at h
    subst h
    simp [flatI, Im.cells]
  | y :: r, k + 1, x, h => by
    have := flatI_get r k x (by simpa using h)
    have e : flatI (y :: r) = .int .i64 y.wt :: .int .i64 y.sy :: .pointer y.fs :: .pointer y.sn :: flatI r := rfl
    rw [e, show (k + 1) * 4 = k * 4 + 1 + 1 + 1 + 1 by omega]
    simpa [List.getElem?_cons_succ, show k * 4 + 1 + 1 + 1 + 1 + 1 = (k * 4 + 1) + 1 + 1 + 1 + 1 by omega] using this
theorem flatI_one (l : List Im) : ∀ u ∈ flatI l, u.oneCell' = true := by
  intro u hu
  unfold flatI at hu
  obtain ⟨x, _, hx⟩ := List.mem_flatMap.1 hu
  unfold Im.cells at hx
  simp only [List.mem_cons, List.not_mem_nil, or_false] at hx
  rcases hx with rfl | rfl | rfl | rfl <;> rfl
theorem flatI_app (l r : List Im) : flatI (l ++ r) = flatI l ++ flatI r := by unfold flatI; rw [List.flatMap_append]
/-- A row of the call's own, as items that lie there. -/
theorem own_row4 {w : World} {base n g cap : Nat} {e : TypeId} {l : List Im} (h : w.ownsRow base e 4 (.slice (some ⟨g, 0, none⟩) n cap) n (flatI l)) (hl : l.length = n) : Sr w g n (fun k => l.getD k ⟨0, 0, none, none⟩) := by
  have hc : ∀ j u, (flatI l)[j]? = some u → w.cell? ⟨g, j, none⟩ = some u := by
    intro j u hu
    have := h.cells (g := g) rfl j u hu
    have hadd : (⟨g, 0, none⟩ : Addr).add j = ⟨g, j, none⟩ := by unfold Addr.add; split <;> simp_all
    rwa [hadd] at this
  refine ⟨⟨fun k hk => ?_⟩, fun k => ?_⟩
  · have hg : l[k]? = some (l.getD k ⟨0, 0, none, none⟩) := by simp [List.getD, show k < l.length by omega]
    obtain ⟨q0, q1, q2, q3⟩ := flatI_get l k _ hg
    rw [Nat.zero_add]
    exact ⟨hc _ _ q0, hc _ _ q1, hc _ _ q2, hc _ _ q3⟩
  · rcases h.2 with ⟨h1, _⟩ | ⟨g', cap', cur, hv, _, hh, _⟩
    · cases h1
    · simp only [Value.slice.injEq, Option.some.injEq, Addr.mk.injEq] at hv
      obtain ⟨⟨rfl, _⟩, _⟩ := hv
      simp [World.frozen?, hh]
theorem info_item : (Tryz.prog.info? 158).map (fun i => (i.zero, i.size, i.bytes)) = some (some (.agg #[.int .i64 0, .int .i64 0, .pointer none, .pointer none]), 4, 32) := by kernel_rfl
end Go.Proofs.YtcifalelnfeggaaGreatDoor

namespace Go.Proofs.YtcifalelnfeggaaGreatDoor
open Go.RowKit
set_option linter.unusedVariables false

/-- Items that lie somewhere, behind a row of the call's own. -/
theorem wpList_app4 {P : Program} {ops : Array Oper} {rest : List Oper} {o : Oper} {a : Act} {Q : Exit → Act → World → Prop} (hgd : o.guard = none) (s x : Operand) (t : TypeId)
    (ho : o.op = .call { callee := .builtin .append, args := #[s, x], argTypes := #[t, t] })
    (base : Nat) (e : TypeId) (i : TypeInfo) (z : Value) (bytes : Nat) (ht : P.underlying t = some (.slice e)) (hi : P.info? e = some i) (hz : i.zero = some z)
    (hsize : i.size = 4) (hby : i.bytes = bytes) (hzs : z.cells.size = 4)
    {w : World} {ra : Option Addr} {n rc : Nat} {l : List Im} (hown : w.ownsRow base e 4 (.slice ra n rc) n (flatI l)) {ad : Addr} {m cap : Nat} {r : List Im} (hl : r.length = m) (hnews : ∀ j u, (flatI r)[j]? = some u → w.cell? (ad.add j) = some u)
    (hs : a.eval s = .slice ra n rc) (hx : a.eval x = .slice (some ad) m cap)
    (h63 : n + m ≤ 140737488355328) (hbytes : (n + m) * bytes ≤ 140737488355328) (hbase : base ≤ w.heap.size)
    (h : ∀ (b : Option Addr) (c : Nat) (w' : World), w'.ownsRow base e 4 (.slice b (n + m) c) (n + m) (flatI (l ++ r)) → w.grownBy w' (Value.slice ra n rc).ownBlock → Below base w w' → wpList P ops Q rest (a.put o.dst (.slice b (n + m) c)) w') : wpList P ops Q (o :: rest) a w := by
  refine wpList_append_own _ hgd s x t ho base e i z 4 bytes ht hi hz hsize hby hzs (by decide) _ n (flatI l) hs hown ad m cap (flatI r) hx (by rw [flatI_len, hl]) hnews (flatI_one r) (by unfold maxLen; omega) hbytes hbase ?_
  intro v' w' h1 h2 _
  obtain ⟨b, c, rfl⟩ : ∃ b c, v' = .slice b (n + m) c := by
    rcases h1.2 with ⟨rfl, h0⟩ | ⟨g, cp, cur, rfl, _⟩
    · exact ⟨none, 0, by rw [h0]⟩
    · exact ⟨_, _, rfl⟩
  exact h b c w' (by rw [flatI_app]; exact h1) h2 ((Below.refl _ _).grown h2 hbase (fun k hk => (hown.lt k hk).1))
theorem own_shape4 {w : World} {base n : Nat} {e : TypeId} {v : Value} {xs : List Value} (h : w.ownsRow base e 4 v n xs) (hn : 0 < n) : ∃ g cap, v = .slice (some ⟨g, 0, none⟩) n cap ∧ n ≤ cap ∧ base ≤ g ∧ g < w.heap.size := by
  rcases h.2 with ⟨_, h0⟩ | ⟨g, cap, cur, rfl, hg, hh, hc, _⟩
  · omega
  · exact ⟨g, cap, rfl, hc, hg, (Array.getElem?_eq_some_iff.1 hh).1⟩
theorem new_cells (w : World) (x : Im) : ∀ j u, (flatI [x])[j]? = some u → (w.alloc (.cells #[.int .i64 x.wt, .int .i64 x.sy, .pointer x.fs, .pointer x.sn] 158)).cell? ((⟨w.heap.size, 0, none⟩ : Addr).add j) = some u := by
  intro j u hu
  have hadd : (⟨w.heap.size, 0, none⟩ : Addr).add j = ⟨w.heap.size, j, none⟩ := by unfold Addr.add; split <;> simp_all
  rw [hadd]
  have hh := heap_alloc_new w (.cells #[.int .i64 x.wt, .int .i64 x.sy, .pointer x.fs, .pointer x.sn] 158)
  simp only [World.cell?, hh]
  simp only [flatI, Im.cells, List.flatMap_cons, List.flatMap_nil, List.append_nil] at hu
  simpa using hu
/-- What comes of the leaves: a row in order, of all the symbols in use. -/
structure Lf (w : World) (a : Option Addr) (m cap B : Nat) (zs : List Int) (Y : Nat → Im) : Prop where
  len : m = (leafL zs zs.length).length
  pm : (lst Y 0 m).Perm (leafL zs zs.length)
  ord : so Y 0 m
  nil : m = 0 → a = none ∧ cap = 0
  row : 0 < m → ∃ g, a = some ⟨g, 0, none⟩ ∧ Sr w g m Y ∧ B ≤ g ∧ g < w.heap.size ∧ m ≤ cap

theorem leaf_sy {zs : List Int} {k i j : Nat} (h : i < j) (hj : j < (leafL zs k).length) : ((leafL zs k).getD i ⟨0, 0, none, none⟩).sy < ((leafL zs k).getD j ⟨0, 0, none, none⟩).sy := by
  have hp : (leafL zs k).Pairwise (fun x y => x.sy < y.sy) := by
    unfold leafL
    rw [List.pairwise_map]
    refine (List.pairwise_lt_range.filter _).imp ?_
    intro a b hab
    show (a : Int) < (b : Int)
    omega
  have hi : i < (leafL zs k).length := by omega
  have := List.pairwise_iff_getElem.1 hp i j hi hj h
  simpa [List.getD, hi, hj] using this
theorem lst_getD (l : List Im) (d : Im) : lst (fun k => l.getD k d) 0 l.length = l := by
  unfold lst
  apply List.ext_getElem?
  intro k
  rw [List.getElem?_map]
  by_cases h : k < l.length
  · simp [h, List.getD]
  · simp [h]

set_option maxRecDepth 100000 in
set_option maxHeartbeats 2000000 in
theorem leaves_any (a : Option Addr) (zs : List Int) (n cap : Nat) (hn : Hid (zs.length = n)) (w : World) (hs : SegZ w a zs) (hl : n ≤ 288) :
    Calls Tryz.prog 93 #[.slice a n cap] w fun e w' => ∃ b m c Y, e = .returned (.slice b m c) ∧ Lf w' b m c w.heap.size zs Y ∧ Below w.heap.size w w' := by
  obtain ⟨i0, hi, hz0, hz1, hz2⟩ := info_parts info_item
  go_enter Tryz.func93, Tryz.ntmps93
  go_wp2_with fail
  go_loopw [3, 8] (fun to ti wr => ∃ (k : Nat) (b : Option Addr) (c : Nat) (L : List Im), k ≤ n ∧ ti = .int .i64 (k : Int) ∧ to = .slice b L.length c ∧ L.length ≤ k ∧ (L.length = 0 → b = none ∧ c = 0) ∧ wr.ownsRow w.heap.size 158 4 (.slice b L.length c) L.length (flatI L) ∧ Below w.heap.size w wr ∧ Hid (L = leafL zs k)) (fun _ ti _ => n - (intOf ti).toNat)
  case atStart => exact ⟨0, none, 0, [], Nat.zero_le _, rfl, rfl, Nat.le_refl _, (fun _ => ⟨rfl, rfl⟩), ⟨rfl, .inl ⟨rfl, rfl⟩⟩, Below.refl _ _, (rfl : _ = _)⟩
  case round =>
    obtain ⟨k, b, c, L, hk, rfl, rfl, hLk, hL0, OR, BR, HL⟩ := hrel
    have HL0 : Hid (L.length = 0 → b = none ∧ c = 0) := hL0
    clear hL0
    have hs := hs.old BR
    by_cases h1 : k < n
    · have h1i : (k : Int) < (n : Int) := by omega
      obtain ⟨b1, o1, rfl, c1⟩ := hs.at_ k (by have := hn.out; omega)
      have HU : Hid (leafL zs (k + 1) = leafL zs k ++ (if zs.getD k 0 = 0 then [] else [⟨zs.getD k 0, k, none, none⟩])) := leafL_snoc zs k
      have db := hs.bd k
      generalize zs.getD k 0 = z at *
      by_cases hz : z = 0
      · subst hz
        go_wp2
        go_roundw
        case rel => exact ⟨k + 1, b, c, L, by omega, by go_num, rfl, by omega, HL0.out, OR, BR, (by show _ = _; rw [HU.out, HL.out]; simp)⟩
        case measure => simp [intOf]; omega
      · have hzb : (z != 0) = true := by simpa using hz
        have hbs := BR.size
        go_wp2_with (at_builtin; refine wpList_app4 rfl (.tmp 15) (.tmp 19) 154 rfl w.heap.size 158 i0 _ 32 Tryz.underlying154 hi hz0 hz1 hz2 rfl (OR.alloc _) (m := 1) (r := [⟨z, k, none, none⟩]) rfl (new_cells wr ⟨z, k, none, none⟩) rfl rfl (by omega) (by omega) (by simp; omega) ?_; intro b2 c2 w2 OR2 hg2 B2)
        have B3 : Below w.heap.size w w2 := BR.trans (((Below.refl _ _).alloc hbs _).trans B2)
        have e1 : (L ++ [(⟨z, k, none, none⟩ : Im)]).length = L.length + 1 := by simp
        rw [← e1] at OR2
        clear hg2 B2 OR
        go_roundw
        case rel => exact ⟨k + 1, b2, c2, L ++ [⟨z, k, none, none⟩], by omega, by go_num, by rw [e1], by omega, (fun h => by omega), OR2, B3, (by show _ = _; rw [HU.out, HL.out, if_neg hz])⟩
        case measure => simp [intOf]; omega
    · obtain rfl : k = n := by omega
      have HL2 : Hid (L = leafL zs zs.length) := by show _ = _; rw [HL.out, hn.out]
      by_cases hL0 : L.length = 0
      · obtain ⟨rfl, rfl⟩ := HL0.out hL0
        have hLnil : L = [] := List.eq_nil_of_length_eq_zero hL0
        rw [hL0]
        go_wp2_with fail
        refine (sortStable_nil _ _).mono ?_
        rintro e w' ⟨rfl, hw'⟩
        subst w'
        go_wp2
        go_ret
        have hz : leafL zs zs.length = [] := by rw [← HL2.out]; exact hLnil
        exact ⟨none, 0, 0, fun k => L.getD k ⟨0, 0, none, none⟩, rfl, ⟨by rw [hz]; rfl, by rw [hz]; exact List.Perm.refl _, fun i j _ _ h => by omega, fun _ => ⟨rfl, rfl⟩, fun h => by omega⟩, BR⟩
      · obtain ⟨g, c', hv, hcap, hgb, hgs⟩ := own_shape4 OR (by omega)
        simp only [Value.slice.injEq] at hv
        obtain ⟨rfl, _, rfl⟩ := hv
        have S1 := own_row4 OR rfl
        have HSY : Hid (∀ i j, i < j → j < L.length → ((fun k => L.getD k ⟨0, 0, none, none⟩) i).sy < ((fun k => L.getD k ⟨0, 0, none, none⟩) j).sy) := by
          intro i j h2 h3
          have e := HL2.out
          simp only [e] at h3 ⊢
          exact leaf_sy h2 h3
        have HPL : Hid (lst (fun k => L.getD k ⟨0, 0, none, none⟩) 0 L.length = L) := lst_getD L _
        have CS := sortStable_any g c L.length (fun k => L.getD k ⟨0, 0, none, none⟩) wr S1 hgs (by omega) HSY.out
        obtain ⟨m, hm⟩ : ∃ m, m = L.length := ⟨_, rfl⟩
        have HM : Hid (m = L.length) := hm
        rw [← hm] at CS hcap ⊢
        have hm0 : 0 < m := by omega
        clear hm S1 OR hL0 hLk
        go_wp2_with fail
        refine CS.mono ?_
        rintro e w2 ⟨rfl, Y, S2, G2, P2, so2⟩
        go_wp2
        go_ret
        have B2 : Below w.heap.size w w2 := BR.trans ((Below.refl _ _).grown G2 BR.size (by intro k e; cases e; exact hgb))
        refine ⟨some ⟨g, 0, none⟩, m, c, Y, rfl, ⟨by rw [HM.out, HL2.out], ?_, so2, fun h => by omega, fun _ => ⟨g, rfl, S2, hgb, Nat.lt_of_lt_of_le hgs G2.size, hcap⟩⟩, B2⟩
        have h3 := P2.1
        rw [HM.out] at h3 ⊢
        rw [HPL.out] at h3
        exact h3.trans (by rw [HL2.out])
end Go.Proofs.YtcifalelnfeggaaGreatDoor

namespace Go.Proofs.YtcifalelnfeggaaGreatDoor
set_option linter.unusedVariables false

/-! Package-merge, by weights alone: no lengths within the limit cost less. -/
theorem sum_le_of_sorted : ∀ (m : Nat) (S T R : List Nat), S.Pairwise (· ≤ ·) → (T ++ R).Perm S → T.length = m → (S.take m).sum ≤ T.sum
  | 0, S, T, R, _, _, h => by simp
  | m + 1, S, T, R, hs, hp, h => by
    cases S with
    | nil => simp
    | cons x S' =>
      have hx : ∀ y ∈ S', x ≤ y := (List.pairwise_cons.1 hs).1
      have hs' := (List.pairwise_cons.1 hs).2
      have hmem : x ∈ T ++ R := hp.symm.subset (by simp)
      rw [List.take_succ_cons, List.sum_cons]
      by_cases hxT : x ∈ T
      · have hT := List.perm_cons_erase hxT
        have hl : (T.erase x).length = m := by rw [List.length_erase_of_mem hxT]; omega
        have hp' : ((T.erase x) ++ R).Perm S' := by
          have h1 : (x :: ((T.erase x) ++ R)).Perm (x :: S') := (List.Perm.append_right R hT).symm.trans hp
          exact List.Perm.cons_inv h1
        have ih := sum_le_of_sorted m S' (T.erase x) R hs' hp' hl
        have := hT.sum_nat
        rw [List.sum_cons] at this
        omega
      · have hxR : x ∈ R := by
          rcases List.mem_append.1 hmem with h | h
          · exact absurd h hxT
          · exact h
        cases T with
        | nil => simp at h
        | cons t T' =>
          have hR := List.perm_cons_erase hxR
          have htS : t ∈ x :: S' := hp.subset (by simp)
          have htx : x ≤ t := by
            rcases List.mem_cons.1 htS with e | e
            · omega
            · exact hx t e
          have h1 : (x :: (T' ++ (t :: R.erase x))).Perm (x :: S') := by
            refine List.Perm.trans ?_ hp
            have e1 : (x :: (T' ++ (t :: R.erase x))).Perm (t :: (T' ++ (x :: R.erase x))) := by
              have a1 : (T' ++ (t :: R.erase x)).Perm (t :: (T' ++ R.erase x)) := List.perm_middle
              have a2 : (T' ++ (x :: R.erase x)).Perm (x :: (T' ++ R.erase x)) := List.perm_middle
              exact ((a1.cons x).trans (List.Perm.swap t x _)).trans (a2.symm.cons t)
            refine e1.trans ?_
            rw [List.cons_append]
            exact List.Perm.cons t (List.Perm.append_left T' hR.symm)
          have ih := sum_le_of_sorted m S' T' (t :: R.erase x) hs' (List.Perm.cons_inv h1) (by simpa using h)
          rw [List.sum_cons]
          omega

/-- Packed two by two. -/
def pkw : List Nat → List Nat
  | a :: b :: r => (a + b) :: pkw r
  | _ => []
theorem pkw_len : ∀ l : List Nat, (pkw l).length = l.length / 2
  | [] => rfl
  | [_] => by simp [pkw]
  | a :: b :: r => by
    have := pkw_len r
    simp only [pkw, List.length_cons, this]
    omega
theorem pkw_take : ∀ (l : List Nat) (m : Nat), ((pkw l).take (m / 2)).sum ≤ (l.take m).sum
  | [], m => by simp [pkw]
  | [a], m => by simp [pkw]
  | a :: b :: r, m => by
    match m with
    | 0 => simp
    | 1 => simp
    | m + 2 =>
      have ih := pkw_take r m
      rw [show (m + 2) / 2 = m / 2 + 1 by omega]
      simp only [pkw, List.take_succ_cons, List.sum_cons]
      omega
theorem pkw_sorted : ∀ l : List Nat, l.Pairwise (· ≤ ·) → (pkw l).Pairwise (· ≤ ·) ∧ ∀ x ∈ pkw l, ∀ a ∈ l.head?, a ≤ x
  | [], _ => by simp [pkw]
  | [a], _ => by simp [pkw]
  | a :: b :: r, h => by
    have h1 := List.pairwise_cons.1 h
    have h2 := List.pairwise_cons.1 h1.2
    have ih := pkw_sorted r h2.2
    have key : ∀ x ∈ pkw r, a + b ≤ x := by
      intro x hx
      cases r with
      | nil => simp [pkw] at hx
      | cons c r' =>
        cases r' with
        | nil => simp [pkw] at hx
        | cons d r'' =>
          simp only [pkw, List.mem_cons] at hx
          have hc := h1.1 c (by simp)
          have hd := h2.1 d (by simp)
          rcases hx with rfl | hx
          · omega
          · have h3 := List.pairwise_cons.1 h2.2
            have hp := (pkw_sorted (c :: d :: r'') h2.2).1
            simp only [pkw, List.pairwise_cons] at hp
            have := hp.1 x hx
            omega
    refine ⟨?_, ?_⟩
    · simp only [pkw, List.pairwise_cons]
      exact ⟨key, ih.1⟩
    · intro x hx y hy
      simp only [List.head?_cons, Option.mem_def, Option.some.injEq] at hy
      subst hy
      simp only [pkw, List.mem_cons] at hx
      rcases hx with rfl | hx
      · omega
      · have := key x hx
        omega

/-- The rows, by their weights. -/
def rww (F : List Nat) : Nat → List Nat
  | 0 => F
  | k + 1 => List.merge F (pkw (rww F k)) (fun a b => decide (a ≤ b))
theorem rww_sorted (F : List Nat) (h : F.Pairwise (· ≤ ·)) (k : Nat) : (rww F k).Pairwise (· ≤ ·) := by
  induction k with
  | zero => exact h
  | succ k ih =>
    have := List.pairwise_merge (le := fun a b : Nat => decide (a ≤ b)) (by intro a b c; simp; omega) (by intro a b; simp; omega) F (pkw (rww F k)) (by simpa using h) (by simpa using (pkw_sorted _ ih).1)
    simpa [rww] using this
theorem rww_len (F : List Nat) (k : Nat) : (rww F (k + 1)).length = F.length + (rww F k).length / 2 := by
  simp only [rww]
  rw [(List.merge_perm_append _).length_eq, List.length_append, pkw_len]

/-- Weights with lengths: those that are as deep as d. -/
def deep (X : List (Nat × Nat)) (d : Nat) : List Nat := (X.filter fun x => decide (d ≤ x.2)).map (·.1)
/-- How many items are needed, from the deepest of the L levels up. -/
def need (X : List (Nat × Nat)) (L : Nat) : Nat → Nat
  | 0 => (deep X L).length
  | k + 1 => (deep X (L - (k + 1))).length + need X L k / 2
def paid (X : List (Nat × Nat)) (L : Nat) : Nat → Nat
  | 0 => (deep X L).sum
  | k + 1 => (deep X (L - (k + 1))).sum + paid X L k

theorem deep_perm (X : List (Nat × Nat)) (d : Nat) : (deep X d ++ ((X.filter fun x => !decide (d ≤ x.2)).map (·.1))).Perm (X.map (·.1)) := by
  unfold deep
  rw [← List.map_append]
  exact (List.filter_append_perm _ X).map _
theorem deep_le (X : List (Nat × Nat)) (d : Nat) : (deep X d).length ≤ X.length := by
  unfold deep
  rw [List.length_map]
  exact List.length_filter_le _ _

theorem need_le (X : List (Nat × Nat)) (F : List Nat) (hF : F.Perm (X.map (·.1))) (L k : Nat) : need X L k ≤ (rww F k).length := by
  have hn : F.length = X.length := by rw [hF.length_eq, List.length_map]
  induction k with
  | zero =>
    have := deep_le X L
    simp only [need, rww]
    omega
  | succ k ih =>
    have := deep_le X (L - (k + 1))
    rw [rww_len]
    simp only [need]
    omega

/-- No choice is cheaper than the first items of the row. -/
theorem row_least (X : List (Nat × Nat)) (F : List Nat) (hF : F.Perm (X.map (·.1))) (hs : F.Pairwise (· ≤ ·)) (L k : Nat) : ((rww F k).take (need X L k)).sum ≤ paid X L k := by
  induction k with
  | zero => exact sum_le_of_sorted _ F (deep X L) _ hs ((deep_perm X L).trans hF.symm) rfl
  | succ k ih =>
    have hle := need_le X F hF L k
    have hq : ((pkw (rww F k)).take (need X L k / 2)).length = need X L k / 2 := by rw [List.length_take, pkw_len]; omega
    have h1 := sum_le_of_sorted (need X L (k + 1)) (rww F (k + 1)) (deep X (L - (k + 1)) ++ (pkw (rww F k)).take (need X L k / 2))
      (((X.filter fun x => !decide (L - (k + 1) ≤ x.2)).map (·.1)) ++ (pkw (rww F k)).drop (need X L k / 2)) (rww_sorted F hs (k + 1)) ?_ ?_
    · have h2 := pkw_take (rww F k) (need X L k)
      rw [List.sum_append] at h1
      simp only [paid]
      omega
    · have hm : (rww F (k + 1)).Perm (F ++ pkw (rww F k)) := by simp only [rww]; exact List.merge_perm_append _
      refine List.Perm.trans ?_ hm.symm
      have hd := (deep_perm X (L - (k + 1))).trans hF.symm
      generalize deep X (L - (k + 1)) = A at *
      generalize ((X.filter fun x => !decide (L - (k + 1) ≤ x.2)).map (·.1)) = A' at *
      have e1 : (A ++ (pkw (rww F k)).take (need X L k / 2) ++ (A' ++ (pkw (rww F k)).drop (need X L k / 2))).Perm ((A ++ A') ++ ((pkw (rww F k)).take (need X L k / 2) ++ (pkw (rww F k)).drop (need X L k / 2))) := by
        simp only [List.append_assoc]
        refine List.Perm.append_left A ?_
        rw [← List.append_assoc, ← List.append_assoc]
        exact List.Perm.append_right _ List.perm_append_comm
      rw [List.take_append_drop] at e1
      exact e1.trans (List.Perm.append_right _ hd)
    · rw [List.length_append, hq]; rfl

/-! How many are needed: by Kraft's sum. -/
def exact' (X : List (Nat × Nat)) (d : Nat) : Nat := X.countP fun x => decide (x.2 = d)
def kraft (X : List (Nat × Nat)) (L d : Nat) : Nat := ((X.filter fun x => decide (d ≤ x.2)).map fun x => 2 ^ (L - x.2)).sum
theorem deep_step (X : List (Nat × Nat)) (d : Nat) : (deep X d).length = exact' X d + (deep X (d + 1)).length := by
  unfold deep exact'
  simp only [List.length_map]
  induction X with
  | nil => rfl
  | cons x r ih =>
    simp only [List.filter_cons, List.countP_cons]
    by_cases h1 : d ≤ x.2
    · by_cases h2 : d + 1 ≤ x.2
      · have h3 : ¬ x.2 = d := by omega
        simp [h1, h2, h3]; omega
      · have h3 : x.2 = d := by omega
        have h4 : ¬ d + 1 ≤ d := by omega
        simp [h3, h4]; omega
    · have h2 : ¬ d + 1 ≤ x.2 := by omega
      have h3 : ¬ x.2 = d := by omega
      simp [h1, h2, h3]; omega
theorem kraft_step (X : List (Nat × Nat)) (L d : Nat) : kraft X L d = exact' X d * 2 ^ (L - d) + kraft X L (d + 1) := by
  unfold kraft exact'
  induction X with
  | nil => simp
  | cons x r ih =>
    simp only [List.filter_cons, List.countP_cons]
    by_cases h1 : d ≤ x.2
    · by_cases h2 : d + 1 ≤ x.2
      · have h3 : ¬ x.2 = d := by omega
        simp [h1, h2, h3]; omega
      · have h3 : x.2 = d := by omega
        have h4 : ¬ d + 1 ≤ d := by omega
        simp [h3, h4, Nat.add_mul]; omega
    · have h2 : ¬ d + 1 ≤ x.2 := by omega
      have h3 : ¬ x.2 = d := by omega
      simp [h1, h2, h3]; omega
/-- Nodes of a code, from the deepest level up, rounded up. -/
def nodes (X : List (Nat × Nat)) (L : Nat) : Nat → Nat
  | 0 => exact' X L
  | k + 1 => exact' X (L - (k + 1)) + (nodes X L k + 1) / 2
theorem deep_none (X : List (Nat × Nat)) (L : Nat) (h : ∀ x ∈ X, x.2 ≤ L) : (deep X (L + 1)).length = 0 := by
  unfold deep
  rw [List.length_map, List.length_eq_zero_iff, List.filter_eq_nil_iff]
  intro x hx
  have := h x hx
  simp; omega
theorem kraft_none (X : List (Nat × Nat)) (L : Nat) (h : ∀ x ∈ X, x.2 ≤ L) : kraft X L (L + 1) = 0 := by
  unfold kraft
  have : (X.filter fun x => decide (L + 1 ≤ x.2)) = [] := by
    rw [List.filter_eq_nil_iff]
    intro x hx
    have := h x hx
    simp; omega
  rw [this]
  rfl
theorem need_nodes (X : List (Nat × Nat)) (L : Nat) (h : ∀ x ∈ X, x.2 ≤ L) (k : Nat) (hk : k ≤ L) : need X L k + nodes X L k = 2 * (deep X (L - k)).length := by
  induction k with
  | zero =>
    have h1 := deep_step X L
    have h2 := deep_none X L h
    simp only [need, nodes, Nat.sub_zero]
    omega
  | succ k ih =>
    have ih := ih (by omega)
    have h1 := deep_step X (L - (k + 1))
    rw [show L - (k + 1) + 1 = L - k by omega] at h1
    simp only [need, nodes]
    omega
theorem nodes_kraft (X : List (Nat × Nat)) (L : Nat) (h : ∀ x ∈ X, x.2 ≤ L) (k : Nat) (hk : k ≤ L) : nodes X L k * 2 ^ k < kraft X L (L - k) + 2 ^ k := by
  induction k with
  | zero =>
    have h1 := kraft_step X L L
    have h2 := kraft_none X L h
    rw [Nat.sub_self] at h1
    simp only [nodes, Nat.sub_zero, Nat.pow_zero] at h1 ⊢
    omega
  | succ k ih =>
    have ih := ih (by omega)
    have h1 := kraft_step X L (L - (k + 1))
    rw [show L - (k + 1) + 1 = L - k by omega, show L - (L - (k + 1)) = k + 1 by omega] at h1
    simp only [nodes]
    rw [h1, Nat.add_mul]
    have h2 : (nodes X L k + 1) / 2 * 2 ^ (k + 1) ≤ (nodes X L k + 1) * 2 ^ k := by
      rw [Nat.pow_succ, Nat.mul_comm (2 ^ k) 2, ← Nat.mul_assoc]
      exact Nat.mul_le_mul_right _ (Nat.div_mul_le_self _ _)
    rw [Nat.add_mul, Nat.one_mul] at h2
    have h3 : 2 ^ (k + 1) = 2 ^ k + 2 ^ k := by rw [Nat.pow_succ]; omega
    omega
/-- Lengths from 1 to L that take at most the whole space need 2n - 2 items. -/
theorem need_all (X : List (Nat × Nat)) (L : Nat) (hL : 1 ≤ L) (h : ∀ x ∈ X, 1 ≤ x.2 ∧ x.2 ≤ L) (hk : kraft X L 1 ≤ 2 ^ L) : 2 * X.length - 2 ≤ need X L (L - 1) := by
  have h1 := need_nodes X L (fun x hx => (h x hx).2) (L - 1) (by omega)
  have h2 := nodes_kraft X L (fun x hx => (h x hx).2) (L - 1) (by omega)
  rw [show L - (L - 1) = 1 by omega] at h1 h2
  have h3 : (deep X 1).length = X.length := by
    unfold deep
    rw [List.length_map]
    congr 1
    rw [List.filter_eq_self]
    intro x hx
    have := (h x hx).1
    simp; omega
  have h4 : nodes X L (L - 1) ≤ 2 := by
    rcases Nat.lt_or_ge 2 (nodes X L (L - 1)) with h5 | h5
    · exfalso
      have h6 : 3 * 2 ^ (L - 1) ≤ nodes X L (L - 1) * 2 ^ (L - 1) := Nat.mul_le_mul_right _ h5
      have h7 : 2 ^ L = 2 ^ (L - 1) + 2 ^ (L - 1) := by
        have : 2 ^ L = 2 ^ (L - 1 + 1) := by rw [Nat.sub_add_cancel hL]
        rw [this, Nat.pow_succ]; omega
      omega
    · exact h5
  omega

/-- The cost, level by level. -/
theorem deep_sum (X : List (Nat × Nat)) (d : Nat) : (deep X d).sum + (X.map fun x => x.1 * (x.2 + 1 - (d + 1))).sum = (X.map fun x => x.1 * (x.2 + 1 - d)).sum := by
  unfold deep
  induction X with
  | nil => rfl
  | cons x r ih =>
    simp only [List.filter_cons, List.map_cons, List.sum_cons]
    by_cases h1 : d ≤ x.2
    · have e : x.1 * (x.2 + 1 - d) = x.1 + x.1 * (x.2 + 1 - (d + 1)) := by
        rw [show x.2 + 1 - d = 1 + (x.2 + 1 - (d + 1)) by omega, Nat.mul_add, Nat.mul_one]
      simp only [h1, decide_true, if_true, List.map_cons, List.sum_cons]
      omega
    · have e1 : x.2 + 1 - d = 0 := by omega
      have e2 : x.2 + 1 - (d + 1) = 0 := by omega
      simp only [h1, decide_false, Bool.false_eq_true, if_false, e1, e2, Nat.mul_zero]
      omega
theorem paid_eq (X : List (Nat × Nat)) (L : Nat) (h : ∀ x ∈ X, x.2 ≤ L) (k : Nat) (hk : k ≤ L) : paid X L k = (X.map fun x => x.1 * (x.2 + 1 - (L - k))).sum := by
  induction k with
  | zero =>
    have h1 := deep_sum X L
    have h2 : (X.map fun x => x.1 * (x.2 + 1 - (L + 1))).sum = 0 := by
      have : X.map (fun x => x.1 * (x.2 + 1 - (L + 1))) = X.map (fun _ => 0) := by
        apply List.map_congr_left
        intro x hx
        have := h x hx
        rw [show x.2 + 1 - (L + 1) = 0 by omega, Nat.mul_zero]
      rw [this]
      clear this h1 h
      induction X with
      | nil => rfl
      | cons x r ih => simpa using ih
    simp only [paid, Nat.sub_zero]
    omega
  | succ k ih =>
    have ih := ih (by omega)
    have h1 := deep_sum X (L - (k + 1))
    rw [show L - (k + 1) + 1 = L - k by omega] at h1
    simp only [paid]
    omega
def costX (X : List (Nat × Nat)) : Nat := (X.map fun x => x.1 * x.2).sum
theorem paid_cost (X : List (Nat × Nat)) (L : Nat) (hL : 1 ≤ L) (h : ∀ x ∈ X, x.2 ≤ L) : paid X L (L - 1) = costX X := by
  rw [paid_eq X L h (L - 1) (by omega)]
  unfold costX
  rw [show L - (L - 1) = 1 by omega]
  rfl
theorem take_mono (l : List Nat) (m n : Nat) (h : m ≤ n) : (l.take m).sum ≤ (l.take n).sum := by
  obtain ⟨k, rfl⟩ := Nat.exists_eq_add_of_le h
  rw [List.take_add, List.sum_append]
  omega
/-- THE BOUND: lengths from 1 to L within the space cost at least what the first 2n - 2 items of the last row weigh. -/
theorem pm_least (X : List (Nat × Nat)) (F : List Nat) (hF : F.Perm (X.map (·.1))) (hs : F.Pairwise (· ≤ ·)) (L : Nat) (hL : 1 ≤ L) (h : ∀ x ∈ X, 1 ≤ x.2 ∧ x.2 ≤ L) (hk : kraft X L 1 ≤ 2 ^ L) :
    ((rww F (L - 1)).take (2 * X.length - 2)).sum ≤ costX X := by
  have h1 := row_least X F hF hs L (L - 1)
  rw [paid_cost X L hL (fun x hx => (h x hx).2)] at h1
  exact Nat.le_trans (take_mono _ _ _ (need_all X L hL h hk)) h1
end Go.Proofs.YtcifalelnfeggaaGreatDoor

namespace Go.Proofs.YtcifalelnfeggaaGreatDoor
set_option linter.unusedVariables false

/-! Package-merge with what its items hold. -/
abbrev It : Type := Nat × List Nat
abbrev leI : It → It → Bool := fun a b => decide (a.1 ≤ b.1)
def pk : List It → List It
  | a :: b :: r => (a.1 + b.1, a.2 ++ b.2) :: pk r
  | _ => []
def row (F : List It) : Nat → List It
  | 0 => F
  | k + 1 => List.merge F (pk (row F k)) leI
theorem pk_fst : ∀ l : List It, (pk l).map (·.1) = pkw (l.map (·.1))
  | [] => rfl
  | [_] => by simp [pk, pkw]
  | a :: b :: r => by
    have := pk_fst r
    simp only [pk, List.map_cons, pkw, this]
theorem row_fst (F : List It) (k : Nat) : (row F k).map (·.1) = rww (F.map (·.1)) k := by
  induction k with
  | zero => rfl
  | succ k ih =>
    simp only [row, rww]
    rw [List.map_merge (s := fun a b => decide (a ≤ b)) (fun a _ b _ => rfl), pk_fst, ih]
theorem pk_len : ∀ l : List It, (pk l).length = l.length / 2
  | [] => rfl
  | [_] => by simp [pk]
  | a :: b :: r => by
    have := pk_len r
    simp only [pk, List.length_cons, this]
    omega
theorem row_len (F : List It) (k : Nat) : (row F (k + 1)).length = F.length + (row F k).length / 2 := by
  simp only [row]
  rw [(List.merge_perm_append _).length_eq, List.length_append, pk_len]
/-- The first packages hold what the first items twice as many hold. -/
theorem pk_take : ∀ (l : List It) (q : Nat), 2 * q ≤ l.length → ((pk l).take q).flatMap (·.2) = (l.take (2 * q)).flatMap (·.2)
  | l, 0, _ => by simp
  | [], q + 1, h => by simp at h
  | [_], q + 1, h => by simp at h; omega
  | a :: b :: r, q + 1, h => by
    have ih := pk_take r q (by simp at h; omega)
    rw [show 2 * (q + 1) = 2 * q + 1 + 1 by omega]
    simp only [pk, List.take_succ_cons, List.flatMap_cons, ih, List.append_assoc]
theorem pk_take_sum : ∀ (l : List It) (q : Nat), 2 * q ≤ l.length → (((pk l).take q).map (·.1)).sum = ((l.take (2 * q)).map (·.1)).sum
  | l, 0, _ => by simp
  | [], q + 1, h => by simp at h
  | [_], q + 1, h => by simp at h; omega
  | a :: b :: r, q + 1, h => by
    have ih := pk_take_sum r q (by simp at h; omega)
    rw [show 2 * (q + 1) = 2 * q + 1 + 1 by omega]
    simp only [pk, List.take_succ_cons, List.map_cons, List.sum_cons, ih]
    omega
/-- A package outweighs each of its two. -/
theorem pk_get : ∀ (l : List It) (j : Nat), 2 * (j / 2) + 1 < l.length → (∀ x ∈ l, 0 < x.1) → ∃ y, (pk l)[j / 2]? = some y ∧ ∀ z, l[j]? = some z → z.1 < y.1
  | [], j, h, _ => by simp at h
  | [_], j, h, _ => by simp at h
  | a :: b :: r, 0, h, hp => by
    have h1 := hp a (by simp)
    have h2 := hp b (by simp)
    exact ⟨(a.1 + b.1, a.2 ++ b.2), rfl, fun z hz => by simp at hz; subst hz; simp; omega⟩
  | a :: b :: r, 1, h, hp => by
    have h1 := hp a (by simp)
    have h2 := hp b (by simp)
    exact ⟨(a.1 + b.1, a.2 ++ b.2), rfl, fun z hz => by simp at hz; subst hz; simp; omega⟩
  | a :: b :: r, j + 2, h, hp => by
    obtain ⟨y, h1, h2⟩ := pk_get r j (by simp at h; omega) (fun x hx => hp x (by simp [hx]))
    refine ⟨y, ?_, ?_⟩
    · rw [show (j + 2) / 2 = j / 2 + 1 by omega]
      simpa [pk] using h1
    · intro z hz
      exact h2 z (by simpa using hz)
theorem pk_pos : ∀ l : List It, (∀ x ∈ l, 0 < x.1) → ∀ x ∈ pk l, 0 < x.1
  | [], _ => by simp [pk]
  | [_], _ => by simp [pk]
  | a :: b :: r, hp => by
    intro x hx
    simp only [pk, List.mem_cons] at hx
    rcases hx with rfl | hx
    · have := hp a (by simp); simp; omega
    · exact pk_pos r (fun y hy => hp y (by simp [hy])) x hx
theorem row_pos (F : List It) (hp : ∀ x ∈ F, 0 < x.1) (k : Nat) : ∀ x ∈ row F k, 0 < x.1 := by
  induction k with
  | zero => exact hp
  | succ k ih =>
    intro x hx
    simp only [row] at hx
    have := (List.merge_perm_append leI).subset hx
    rcases List.mem_append.1 this with h | h
    · exact hp x h
    · exact pk_pos _ ih x h

/-- The first items of a merging: so many leaves, so many packages; no leaf is left that is no heavier than a package that was taken. -/
theorem merge_take : ∀ (m : Nat) (F P : List It), F.Pairwise (fun a b => a.1 ≤ b.1) → m ≤ F.length + P.length →
    ∃ a q, a + q = m ∧ a ≤ F.length ∧ q ≤ P.length ∧ ((List.merge F P leI).take m).Perm (F.take a ++ P.take q) ∧ ∀ i r x y, a ≤ i → F[i]? = some x → r < q → P[r]? = some y → y.1 < x.1
  | 0, F, P, _, _ => ⟨0, 0, rfl, Nat.zero_le _, Nat.zero_le _, by simp, fun i r x y _ _ h => by omega⟩
  | m + 1, [], P, _, h => ⟨0, m + 1, by omega, Nat.le_refl _, by simpa using h, by simp, fun i r x y _ hx => by simp at hx⟩
  | m + 1, F, [], _, h => ⟨m + 1, 0, rfl, by simpa using h, Nat.le_refl _, by simp, fun i r x y _ _ h => by omega⟩
  | m + 1, x :: F, y :: P, hs, h => by
    have hs1 := List.pairwise_cons.1 hs
    rw [List.cons_merge_cons]
    by_cases hxy : x.1 ≤ y.1
    · obtain ⟨a, q, h1, h2, h3, h4, h5⟩ := merge_take m F (y :: P) hs1.2 (by simp at h ⊢; omega)
      refine ⟨a + 1, q, by omega, by simp; omega, h3, ?_, ?_⟩
      · rw [if_pos (by simpa [leI] using hxy)]
        simp only [List.take_succ_cons, List.cons_append]
        exact h4.cons x
      · intro i r u v hi hu hr hv
        match i, hi with
        | i + 1, hi => exact h5 i r u v (by omega) (by simpa using hu) hr hv
    · obtain ⟨a, q, h1, h2, h3, h4, h5⟩ := merge_take m (x :: F) P hs (by simp at h ⊢; omega)
      refine ⟨a, q + 1, by omega, h2, by simp; omega, ?_, ?_⟩
      · rw [if_neg (by simpa [leI] using hxy)]
        simp only [List.take_succ_cons]
        refine (h4.cons y).trans ?_
        exact List.perm_middle.symm
      · intro i r u v hi hu hr hv
        match r with
        | 0 =>
          simp at hv
          subst hv
          have hxu : x.1 ≤ u.1 := by
            match i with
            | 0 => simp at hu; subst hu; exact Nat.le_refl _
            | i + 1 => exact hs1.1 u (List.mem_of_getElem? (by simpa using hu))
          omega
        | r + 1 => exact h5 i r u v hi hu (by omega) (by simpa using hv)

/-- How many items each level takes. -/
def Chain : Nat → List Nat → Prop
  | m, [] => False
  | m, [a] => a = m
  | m, a :: A => a ≤ m ∧ Chain (2 * (m - a)) A

/-- What the first m items of a row hold: beginnings of the leaves, one for each level, each within the one above it. -/
theorem row_levels (F : List It) (hs : F.Pairwise (fun a b => a.1 ≤ b.1)) (hp : ∀ x ∈ F, 0 < x.1) : ∀ (k m : Nat), m ≤ (row F k).length →
    ∃ a A, A.length = k ∧ Chain m (a :: A) ∧ (a :: A).Pairwise (· ≥ ·) ∧ a ≤ F.length ∧ (((row F k).take m).flatMap (·.2)).Perm ((a :: A).flatMap fun a => (F.take a).flatMap (·.2)) ∧ (∀ x ∈ F.take a, x ∈ (row F k).take m) ∧ (((row F k).take m).map (·.1)).sum = ((a :: A).map fun a => ((F.take a).map (·.1)).sum).sum
  | 0, m, hm => ⟨m, [], rfl, rfl, by simp, hm, by simp [row], fun x hx => hx, by simp [row]⟩
  | k + 1, m, hm => by
    obtain ⟨a, q, h1, h2, h3, h4, h5⟩ := merge_take m F (pk (row F k)) hs (by rw [row_len] at hm; rw [pk_len]; exact hm)
    rw [pk_len] at h3
    obtain ⟨a', A', e1, e2, e3, e4, e5, e6, e7⟩ := row_levels F hs hp k (2 * q) (by omega)
    have hle : a' ≤ a := by
      rcases Nat.lt_or_ge a a' with hlt | hge
      · exfalso
        have hx : a < F.length := by omega
        have hmem : F[a] ∈ F.take a' := by
          rw [List.mem_take_iff_getElem]
          exact ⟨a, by omega, rfl⟩
        obtain ⟨j, hj, hje⟩ := List.mem_iff_getElem.1 (e6 _ hmem)
        rw [List.length_take] at hj
        rw [List.getElem_take] at hje
        obtain ⟨y, hy1, hy2⟩ := pk_get (row F k) j (by omega) (row_pos F hp k)
        have h6 := h5 a (j / 2) F[a] y (Nat.le_refl _) (by simp [hx]) (by omega) hy1
        have h7 := hy2 (row F k)[j] (by simp)
        rw [hje] at h7
        omega
      · exact hge
    refine ⟨a, a' :: A', by simp [e1], ?_, ?_, h2, ?_, ?_, ?_⟩
    · refine ⟨by omega, ?_⟩
      rw [show m - a = q by omega]
      exact e2
    · refine List.pairwise_cons.2 ⟨?_, e3⟩
      intro b hb
      rcases List.mem_cons.1 hb with rfl | hb
      · exact hle
      · have := (List.pairwise_cons.1 e3).1 b hb
        omega
    · have h6 := h4.flatMap_right (·.2)
      rw [List.flatMap_append, pk_take _ _ (by omega)] at h6
      refine h6.trans ?_
      rw [List.flatMap_cons (f := fun a => (F.take a).flatMap (·.2))]
      exact List.Perm.append_left _ e5
    · intro x hx
      exact h4.symm.subset (List.mem_append_left _ hx)
    · have h6 := (h4.map (·.1)).sum_nat
      rw [List.map_append, List.sum_append, pk_take_sum _ _ (by omega), e7] at h6
      rw [List.map_cons, List.sum_cons]
      exact h6

/-! The lengths: how many levels a leaf is in. -/
def lenA (A : List Nat) (i : Nat) : Nat := A.countP fun a => decide (i < a)
theorem lenA_le (A : List Nat) (i : Nat) : lenA A i ≤ A.length := List.countP_le_length
theorem lenA_anti (A : List Nat) (i j : Nat) (h : i ≤ j) : lenA A j ≤ lenA A i := by
  unfold lenA
  apply List.countP_mono_left
  intro a _ ha
  simp at ha ⊢
  omega
def kraftA (A : List Nat) (n : Nat) : Nat := ((List.range n).map fun i => 2 ^ (A.length - lenA A i)).sum
theorem sum_const (f : Nat → Nat) (c a b : Nat) (hab : a ≤ b) (h : ∀ i, a ≤ i → i < b → f i = c) : ((List.range b).map f).sum = ((List.range a).map f).sum + (b - a) * c := by
  induction b with
  | zero => obtain rfl : a = 0 := by omega
            simp
  | succ b ih =>
    by_cases hb : a ≤ b
    · rw [List.range_succ, List.map_append, List.sum_append, ih hb (fun i h1 h2 => h i h1 (by omega))]
      simp only [List.map_cons, List.map_nil, List.sum_cons, List.sum_nil]
      rw [h b hb (by omega), show b + 1 - a = b - a + 1 by omega, Nat.add_mul]
      omega
    · obtain rfl : a = b + 1 := by omega
      simp
theorem chain_kraft : ∀ (A : List Nat) (m a : Nat), Chain m (a :: A) → (a :: A).Pairwise (· ≥ ·) → kraftA (a :: A) a + m * 2 ^ A.length = 2 * a * 2 ^ A.length
  | [], m, a, hc, _ => by
    have hc : a = m := hc
    subst hc
    unfold kraftA lenA
    rw [sum_const (fun i => 2 ^ ([a].length - [a].countP fun x => decide (i < x))) 1 0 a (Nat.zero_le _) (fun i _ hi => by simp [hi])]
    simp
    omega
  | a' :: A, m, a, hc, hp => by
    have hc : a ≤ m ∧ Chain (2 * (m - a)) (a' :: A) := hc
    have hp1 := List.pairwise_cons.1 hp
    have hle : a' ≤ a := hp1.1 a' (by simp)
    have ih := chain_kraft A (2 * (m - a)) a' hc.2 hp1.2
    have hs := sum_const (fun i => 2 ^ ((a :: a' :: A).length - lenA (a :: a' :: A) i)) (2 ^ (A.length + 1)) a' a hle (fun i h1 h2 => by
      have h0 : lenA (a' :: A) i = 0 := by
        unfold lenA
        rw [List.countP_eq_zero]
        intro b hb
        have hb' : b ≤ a' := by
          rcases List.mem_cons.1 hb with rfl | hb
          · exact Nat.le_refl _
          · exact (List.pairwise_cons.1 hp1.2).1 b hb
        simp; omega
      have h3 : lenA (a :: a' :: A) i = lenA (a' :: A) i + 1 := by
        unfold lenA
        rw [List.countP_cons]
        simp [h2]
      rw [h3, h0]
      simp)
    have hin : ((List.range a').map fun i => 2 ^ ((a :: a' :: A).length - lenA (a :: a' :: A) i)) = (List.range a').map fun i => 2 ^ ((a' :: A).length - lenA (a' :: A) i) := by
      apply List.map_congr_left
      intro i hi
      have hi := List.mem_range.1 hi
      have h3 : lenA (a :: a' :: A) i = lenA (a' :: A) i + 1 := by
        unfold lenA
        rw [List.countP_cons]
        have : i < a := by omega
        simp [this]
      rw [h3]
      congr 1
      simp only [List.length_cons]
      omega
    unfold kraftA at ih ⊢
    rw [hs, hin]
    simp only [List.length_cons]
    rw [Nat.pow_succ]
    generalize 2 ^ A.length = X at *
    generalize ((List.range a').map fun i => 2 ^ ((a' :: A).length - lenA (a' :: A) i)).sum = S at *
    obtain ⟨q, rfl⟩ := Nat.exists_eq_add_of_le hc.1
    obtain ⟨e, rfl⟩ := Nat.exists_eq_add_of_le hle
    rw [Nat.add_sub_cancel_left] at ih ⊢
    have e1 : 2 * q * X = 2 * (q * X) := Nat.mul_assoc _ _ _
    have e2 : 2 * a' * X = 2 * (a' * X) := Nat.mul_assoc _ _ _
    have e3 : e * (X * 2) = 2 * (e * X) := by rw [Nat.mul_comm X 2, ← Nat.mul_assoc, Nat.mul_comm e 2, Nat.mul_assoc]
    have e4 : (a' + e + q) * (X * 2) = 2 * (a' * X) + 2 * (e * X) + 2 * (q * X) := by rw [Nat.add_mul, Nat.add_mul]; have := Nat.mul_comm X 2; rw [this, ← Nat.mul_assoc, ← Nat.mul_assoc, ← Nat.mul_assoc, Nat.mul_comm a' 2, Nat.mul_comm e 2, Nat.mul_comm q 2, Nat.mul_assoc, Nat.mul_assoc, Nat.mul_assoc]
    have e5 : 2 * (a' + e) * (X * 2) = 2 * (2 * (a' * X) + 2 * (e * X)) := by rw [Nat.mul_assoc, Nat.add_mul, Nat.mul_comm X 2, ← Nat.mul_assoc a' 2, ← Nat.mul_assoc e 2, Nat.mul_comm a' 2, Nat.mul_comm e 2, Nat.mul_assoc, Nat.mul_assoc]
    omega
/-- All leaves are among the first 2n - 2 items. -/
theorem chain_top : ∀ (A : List Nat) (m a n : Nat), Chain m (a :: A) → (a :: A).Pairwise (· ≥ ·) → 2 ≤ n → 2 * n - 2 ≤ m → n ≤ a
  | [], m, a, n, hc, _, hn, hm => by
    have hc : a = m := hc
    omega
  | a' :: A, m, a, n, hc, hp, hn, hm => by
    have hc : a ≤ m ∧ Chain (2 * (m - a)) (a' :: A) := hc
    have hp1 := List.pairwise_cons.1 hp
    have hle : a' ≤ a := hp1.1 a' (by simp)
    rcases Nat.lt_or_ge a n with h | h
    · have := chain_top A (2 * (m - a)) a' n hc.2 hp1.2 hn (by omega)
      omega
    · exact h
/-- There are enough items. -/
theorem row_enough (F : List It) (L : Nat) : ∀ k, 2 * F.length ≤ (row F k).length + (F.length + 2 ^ k - 1) / 2 ^ k
  | 0 => by simp [row]; omega
  | k + 1 => by
    have ih := row_enough F L k
    rw [row_len]
    have h2 : 2 ^ (k + 1) = 2 ^ k * 2 := Nat.pow_succ ..
    have hX := Nat.two_pow_pos k
    have e : (F.length + 2 ^ (k + 1) - 1) / 2 ^ (k + 1) = ((F.length + 2 ^ k - 1) / 2 ^ k + 1) / 2 := by
      rw [h2, ← Nat.div_div_eq_div_mul]
      congr 1
      rw [show F.length + 2 ^ k * 2 - 1 = (F.length + 2 ^ k - 1) + 2 ^ k by omega, Nat.add_div_right _ hX]
    rw [e]
    omega
theorem row_has (F : List It) (L : Nat) (hL : 1 ≤ L) (hn : F.length ≤ 2 ^ L) : 2 * F.length - 2 ≤ (row F (L - 1)).length := by
  have h := row_enough F L (L - 1)
  have hX := Nat.two_pow_pos (L - 1)
  have h7 : 2 ^ L = 2 ^ (L - 1) * 2 := by
    have : 2 ^ L = 2 ^ (L - 1 + 1) := by rw [Nat.sub_add_cancel hL]
    rw [this, Nat.pow_succ]
  have : (F.length + 2 ^ (L - 1) - 1) / 2 ^ (L - 1) ≤ 2 := by
    rw [Nat.div_le_iff_le_mul_add_pred hX]
    omega
  omega
end Go.Proofs.YtcifalelnfeggaaGreatDoor

namespace Go.Proofs.YtcifalelnfeggaaGreatDoor
set_option linter.unusedVariables false

/-! The lengths of leaves: pairs of a weight and a symbol. -/
def itF (LF : List (Nat × Nat)) : List It := LF.map fun x => (x.1, [x.2])
def taken (LF : List (Nat × Nat)) (L : Nat) : List Nat := ((row (itF LF) (L - 1)).take (2 * LF.length - 2)).flatMap (·.2)
def lenOf (LF : List (Nat × Nat)) (L s : Nat) : Nat := (taken LF L).count s

theorem itF_take (LF : List (Nat × Nat)) (b : Nat) : ((itF LF).take b).flatMap (·.2) = (LF.take b).map (·.2) := by
  unfold itF
  rw [← List.map_take]
  generalize LF.take b = l
  induction l with
  | nil => rfl
  | cons x r ih => simp only [List.map_cons, List.flatMap_cons, ih, List.singleton_append]
theorem itF_fst (LF : List (Nat × Nat)) : (itF LF).map (·.1) = LF.map (·.1) := by
  unfold itF
  rw [List.map_map]
  rfl
theorem count_take : ∀ (S : List Nat) (i b s : Nat), S.Nodup → S[i]? = some s → (S.take b).count s = if i < b then 1 else 0
  | [], i, b, s, _, h => by simp at h
  | x :: r, i, 0, s, _, h => by simp
  | x :: r, 0, b + 1, s, hd, h => by
    simp at h
    subst h
    have hx := (List.nodup_cons.1 hd).1
    have : (r.take b).count x = 0 := List.count_eq_zero.2 (fun hm => hx (List.mem_of_mem_take hm))
    simp [this]
  | x :: r, i + 1, b + 1, s, hd, h => by
    have hd1 := List.nodup_cons.1 hd
    have ih := count_take r i b s hd1.2 (by simpa using h)
    have hne : x ≠ s := by
      rintro rfl
      exact hd1.1 (List.mem_of_getElem? (by simpa using h))
    rw [List.take_succ_cons, List.count_cons, ih]
    simp [hne]
theorem count_levels (LF : List (Nat × Nat)) (hd : (LF.map (·.2)).Nodup) (i : Nat) (x : Nat × Nat) (hx : LF[i]? = some x) : ∀ A : List Nat, (A.flatMap fun a => ((itF LF).take a).flatMap (·.2)).count x.2 = lenA A i
  | [] => rfl
  | a :: A => by
    have ih := count_levels LF hd i x hx A
    rw [List.flatMap_cons, List.count_append, ih, itF_take]
    have h1 := count_take (LF.map (·.2)) i a x.2 hd (by simp [hx])
    rw [← List.map_take] at h1
    rw [h1]
    unfold lenA
    rw [List.countP_cons]
    by_cases h : i < a <;> simp [h] <;> omega

/-- THE LENGTHS OF PACKAGE-MERGE: levels within one another; the whole space. -/
theorem pm_lens (LF : List (Nat × Nat)) (hs : LF.Pairwise (fun a b => a.1 ≤ b.1)) (hp : ∀ x ∈ LF, 0 < x.1) (hd : (LF.map (·.2)).Nodup) (L : Nat) (hL : 1 ≤ L) (hn : 2 ≤ LF.length) (hn2 : LF.length ≤ 2 ^ L) :
    ∃ A : List Nat, A.length = L ∧ A.Pairwise (· ≥ ·) ∧ (∀ i x, LF[i]? = some x → lenOf LF L x.2 = lenA A i) ∧ (∀ i, i < LF.length → 1 ≤ lenA A i) ∧ kraftA A LF.length = 2 ^ L ∧ (∀ a ∈ A, a ≤ LF.length) ∧
      ((rww (LF.map (·.1)) (L - 1)).take (2 * LF.length - 2)).sum = (A.map fun a => ((LF.take a).map (·.1)).sum).sum := by
  have hlen : (itF LF).length = LF.length := by simp [itF]
  have hsF : (itF LF).Pairwise (fun a b => a.1 ≤ b.1) := by
    unfold itF
    rw [List.pairwise_map]
    exact hs
  have hpF : ∀ x ∈ itF LF, 0 < x.1 := by
    intro x hx
    unfold itF at hx
    obtain ⟨y, hy, rfl⟩ := List.mem_map.1 hx
    exact hp y hy
  have hhas := row_has (itF LF) L hL (by rw [hlen]; exact hn2)
  rw [hlen] at hhas
  obtain ⟨a, A, e1, e2, e3, e4, e5, _, e7⟩ := row_levels (itF LF) hsF hpF (L - 1) (2 * LF.length - 2) hhas
  rw [hlen] at e4
  have htop := chain_top A _ a LF.length e2 e3 hn (Nat.le_refl _)
  have ha : a = LF.length := by omega
  have hk := chain_kraft A _ a e2 e3
  have hAll : ∀ b ∈ a :: A, b ≤ LF.length := by
    intro b hb
    rcases List.mem_cons.1 hb with rfl | hb
    · omega
    · have := (List.pairwise_cons.1 e3).1 b hb; omega
  refine ⟨a :: A, by simp [e1]; omega, e3, ?_, ?_, ?_, hAll, ?_⟩
  · intro i x hx
    unfold lenOf taken
    rw [e5.count_eq]
    exact count_levels LF hd i x hx (a :: A)
  · intro i hi
    unfold lenA
    rw [List.countP_cons]
    have : i < a := by omega
    simp [this]
  · rw [e1, ha] at hk
    rw [← ha] at hk ⊢
    have h7 : 2 ^ L = 2 ^ (L - 1) * 2 := by
      have : 2 ^ L = 2 ^ (L - 1 + 1) := by rw [Nat.sub_add_cancel hL]
      rw [this, Nat.pow_succ]
    rw [h7]
    generalize 2 ^ (L - 1) = X at *
    obtain ⟨c, hc⟩ : ∃ c, a = c + 2 := ⟨a - 2, by omega⟩
    have hm : 2 * LF.length - 2 = 2 * c + 2 := by omega
    rw [ha] at hk
    rw [show 2 * LF.length - 2 = 2 * c + 2 from hm, show LF.length = c + 2 by omega] at hk
    rw [show a = LF.length from ha, show LF.length = c + 2 by omega]
    rw [show A = A from rfl] at hk
    have e8 : (2 * c + 2) * X = 2 * (c * X) + 2 * X := by rw [Nat.add_mul, Nat.mul_assoc]
    have e9 : 2 * (c + 2) * X = 2 * (c * X) + 4 * X := by rw [Nat.mul_assoc, Nat.add_mul]; omega
    omega
  · rw [← itF_fst, ← row_fst, ← List.map_take, e7]
    congr 1
    apply List.map_congr_left
    intro b _
    rw [List.map_take, itF_fst, ← List.map_take]

/-! Its cost, and that none is cheaper. -/
theorem map_idx {α β : Type} (l : List α) (g : α → β) (h : Nat → β) (e : ∀ i x, l[i]? = some x → g x = h i) : l.map g = (List.range l.length).map h := by
  apply List.ext_getElem?
  intro i
  by_cases hi : i < l.length
  · have h1 : l[i]? = some l[i] := by simp [hi]
    simp only [List.getElem?_map, h1, Option.map_some, List.getElem?_range hi]
    rw [e i _ h1]
  · rw [List.getElem?_eq_none (by simpa using hi), List.getElem?_eq_none (by simpa using hi)]
def XP (LF : List (Nat × Nat)) (L : Nat) : List (Nat × Nat) := LF.map fun x => (x.1, lenOf LF L x.2)
theorem take_sum_if (w : Nat → Nat) (n a : Nat) (ha : a ≤ n) : ((List.range n).map fun i => if i < a then w i else 0).sum = ((List.range a).map w).sum := by
  have h1 := sum_const (fun i => if i < a then w i else 0) 0 a n ha (fun i h1 h2 => by simp; omega)
  rw [h1, Nat.mul_zero, Nat.add_zero]
  congr 1
  apply List.map_congr_left
  intro i hi
  simp [List.mem_range.1 hi]
theorem levels_cost (w : Nat → Nat) (n : Nat) : ∀ A : List Nat, (∀ a ∈ A, a ≤ n) → (A.map fun a => ((List.range a).map w).sum).sum = ((List.range n).map fun i => w i * lenA A i).sum
  | [], h => by
    clear h
    simp only [List.map_nil, List.sum_nil, lenA, List.countP_nil, Nat.mul_zero]
    generalize List.range n = l
    induction l with
    | nil => rfl
    | cons x r ih => rw [List.map_cons, List.sum_cons, ← ih, Nat.add_zero]
  | a :: A, h => by
    have ih := levels_cost w n A (fun b hb => h b (by simp [hb]))
    rw [List.map_cons, List.sum_cons, ih, ← take_sum_if w n a (h a (by simp))]
    have hl : ∀ i, lenA (a :: A) i = lenA A i + if i < a then 1 else 0 := by
      intro i
      unfold lenA
      rw [List.countP_cons]
      by_cases hi : i < a <;> simp [hi]
    generalize List.range n = l
    induction l with
    | nil => rfl
    | cons i r ihr =>
      simp only [List.map_cons, List.sum_cons]
      rw [hl i, Nat.mul_add]
      by_cases hi : i < a
      · simp only [hi, if_true, Nat.mul_one]; omega
      · simp only [hi, if_false, Nat.mul_zero]; omega
theorem kraft_all (X : List (Nat × Nat)) (L : Nat) (h : ∀ x ∈ X, 1 ≤ x.2) : kraft X L 1 = (X.map fun x => 2 ^ (L - x.2)).sum := by
  unfold kraft
  rw [List.filter_eq_self.2 (fun x hx => by simpa using h x hx)]

/-- What package-merge answers, in one row: lengths from 1 to L, the whole space, the cost of the first items. -/
theorem pm_all (LF : List (Nat × Nat)) (hs : LF.Pairwise (fun a b => a.1 ≤ b.1)) (hp : ∀ x ∈ LF, 0 < x.1) (hd : (LF.map (·.2)).Nodup) (L : Nat) (hL : 1 ≤ L) (hn : 2 ≤ LF.length) (hn2 : LF.length ≤ 2 ^ L) :
    (∀ x ∈ XP LF L, 1 ≤ x.2 ∧ x.2 ≤ L) ∧ kraft (XP LF L) L 1 = 2 ^ L ∧ costX (XP LF L) = ((rww (LF.map (·.1)) (L - 1)).take (2 * LF.length - 2)).sum ∧
      (∀ (i j : Nat) (x y : Nat × Nat), i ≤ j → LF[i]? = some x → LF[j]? = some y → lenOf LF L y.2 ≤ lenOf LF L x.2) := by
  obtain ⟨A, e1, e2, e3, e4, e5, e6, e7⟩ := pm_lens LF hs hp hd L hL hn hn2
  have hX : XP LF L = (List.range LF.length).map fun i => ((LF.getD i (0, 0)).1, lenA A i) := by
    unfold XP
    apply map_idx
    intro i x hx
    rw [e3 i x hx]
    simp [List.getD, hx]
  have hbd : ∀ x ∈ XP LF L, 1 ≤ x.2 ∧ x.2 ≤ L := by
    intro x hx
    rw [hX] at hx
    obtain ⟨i, hi, rfl⟩ := List.mem_map.1 hx
    have := lenA_le A i
    exact ⟨e4 i (List.mem_range.1 hi), by simp only; omega⟩
  refine ⟨hbd, ?_, ?_, ?_⟩
  · rw [kraft_all _ _ (fun x hx => (hbd x hx).1), hX, List.map_map, ← e5]
    unfold kraftA
    rw [e1]
    rfl
  · rw [e7]
    unfold costX
    rw [hX, List.map_map]
    have h1 := levels_cost (fun i => (LF.getD i (0, 0)).1) LF.length A e6
    have h2 : (A.map fun a => ((LF.take a).map (·.1)).sum) = A.map fun a => ((List.range a).map fun i => (LF.getD i (0, 0)).1).sum := by
      apply List.map_congr_left
      intro a ha
      have hal := e6 a ha
      congr 1
      rw [map_idx (LF.take a) (·.1) (fun i => (LF.getD i (0, 0)).1) (fun i x hx => by
        rw [List.getElem?_take] at hx
        split at hx
        · simp [List.getD, hx]
        · simp at hx)]
      rw [List.length_take, Nat.min_eq_left hal]
    rw [h2, h1]
    rfl
  · intro i j x y hij hx hy
    rw [e3 i x hx, e3 j y hy]
    exact lenA_anti A i j hij

/-- G8: no lengths from 1 to L that take at most the whole space cost less. -/
theorem pm_best (LF : List (Nat × Nat)) (hs : LF.Pairwise (fun a b => a.1 ≤ b.1)) (hp : ∀ x ∈ LF, 0 < x.1) (hd : (LF.map (·.2)).Nodup) (L : Nat) (hL : 1 ≤ L) (hn : 2 ≤ LF.length) (hn2 : LF.length ≤ 2 ^ L)
    (X : List (Nat × Nat)) (hX : (X.map (·.1)).Perm (LF.map (·.1))) (h : ∀ x ∈ X, 1 ≤ x.2 ∧ x.2 ≤ L) (hk : kraft X L 1 ≤ 2 ^ L) : costX (XP LF L) ≤ costX X := by
  rw [(pm_all LF hs hp hd L hL hn hn2).2.2.1]
  have hl : X.length = LF.length := by have := hX.length_eq; simpa using this
  rw [← hl]
  exact pm_least X (LF.map (·.1)) hX.symm (by rw [List.pairwise_map]; exact hs) L hL h hk
end Go.Proofs.YtcifalelnfeggaaGreatDoor

namespace Go.Proofs.YtcifalelnfeggaaGreatDoor
open Go.RowKit
set_option linter.unusedVariables false

def isLeaf (x : Im) (t : It) : Prop := x.fs = none ∧ x.sn = none ∧ 0 ≤ x.wt ∧ 0 ≤ x.sy ∧ t = (x.wt.toNat, [x.sy.toNat])
/-- What an item means: all that it points to lies in blocks of G. -/
def Mn (G : Nat → Prop) (w : World) : Nat → Im → It → Prop
  | 0, x, t => isLeaf x t
  | d + 1, x, t => isLeaf x t ∨ ∃ (b o b' o' : Nat) (y z : Im) (s u : It), x.fs = some ⟨b, o, none⟩ ∧ x.sn = some ⟨b', o', none⟩ ∧ G b ∧ G b' ∧ ItAt w b o y ∧ ItAt w b' o' z ∧ Mn G w d y s ∧ Mn G w d z u ∧ x.wt = ((s.1 + u.1 : Nat) : Int) ∧ t = (s.1 + u.1, s.2 ++ u.2)
theorem Mn.keep {G : Nat → Prop} {w w' : World} (hk : ∀ b, G b → w'.heap[b]? = w.heap[b]?) : ∀ (d : Nat) (x : Im) (t : It), Mn G w d x t → Mn G w' d x t
  | 0, x, t, h => h
  | d + 1, x, t, h => by
    rcases h with h | ⟨b, o, b', o', y, z, s, u, h1, h2, h3, h4, h5, h6, h7, h8, h9⟩
    · exact .inl h
    · exact .inr ⟨b, o, b', o', y, z, s, u, h1, h2, h3, h4, h5.of_block (hk b h3), h6.of_block (hk b' h4), Mn.keep hk d y s h7, Mn.keep hk d z u h8, h9⟩
theorem Mn.mono {G G' : Nat → Prop} {w : World} (hg : ∀ b, G b → G' b) : ∀ (d : Nat) (x : Im) (t : It), Mn G w d x t → Mn G' w d x t
  | 0, x, t, h => h
  | d + 1, x, t, h => by
    rcases h with h | ⟨b, o, b', o', y, z, s, u, h1, h2, h3, h4, h5, h6, h7, h8, h9⟩
    · exact .inl h
    · exact .inr ⟨b, o, b', o', y, z, s, u, h1, h2, hg b h3, hg b' h4, h5, h6, Mn.mono hg d y s h7, Mn.mono hg d z u h8, h9⟩
theorem Mn.leaf {G : Nat → Prop} {w : World} {x : Im} {t : It} (h : isLeaf x t) : ∀ d, Mn G w d x t
  | 0 => h
  | d + 1 => .inl h
theorem Mn.up {G : Nat → Prop} {w : World} : ∀ (d : Nat) (x : Im) (t : It), Mn G w d x t → Mn G w (d + 1) x t
  | 0, x, t, h => .inl h
  | d + 1, x, t, h => by
    rcases h with h | ⟨b, o, b', o', y, z, s, u, h1, h2, h3, h4, h5, h6, h7, h8, h9⟩
    · exact .inl h
    · exact .inr ⟨b, o, b', o', y, z, s, u, h1, h2, h3, h4, h5, h6, Mn.up d y s h7, Mn.up d z u h8, h9⟩
theorem Mn.wt {G : Nat → Prop} {w : World} {d : Nat} {x : Im} {t : It} (h : Mn G w d x t) : x.wt = (t.1 : Int) := by
  have hl : isLeaf x t → x.wt = (t.1 : Int) := by
    rintro ⟨_, _, h3, _, rfl⟩
    simp only
    omega
  cases d with
  | zero => exact hl h
  | succ d =>
    rcases h with h | ⟨b, o, b', o', y, z, s, u, h1, h2, h3, h4, h5, h6, h7, h8, h9, rfl⟩
    · exact hl h
    · exact h9
def im0 : Im := ⟨0, 0, none, none⟩
def it0 : It := (0, [])
/-- Items that lie where a slice's address leads. -/
structure RL (w : World) (a : Option Addr) (L : List Im) : Prop where
  at_ : ∀ k, k < L.length → ∃ b off, a = some ⟨b, off, none⟩ ∧ ItAt w b (off + k * 4) (L.getD k im0)
theorem RL.old {w w' : World} {a : Option Addr} {L : List Im} (h : RL w a L) (hb : Below w.heap.size w w') : RL w' a L :=
  ⟨fun k hk => by obtain ⟨b, off, ha, hi⟩ := h.at_ k hk; exact ⟨b, off, ha, hi.of_block (hb.block b hi.lt)⟩⟩
theorem RL.grown {w w' : World} {a : Option Addr} {L : List Im} {row : Option Nat} (h : RL w a L) (hg : w.grownBy w' row) (hne : ∀ b off, a = some ⟨b, off, none⟩ → 0 < L.length → some b ≠ row) : RL w' a L :=
  ⟨fun k hk => by obtain ⟨b, off, ha, hi⟩ := h.at_ k hk; exact ⟨b, off, ha, hi.of_block (hg.block b hi.lt (hne b off ha (by omega)))⟩⟩
theorem RL.tail {w : World} {b off : Nat} {x : Im} {L : List Im} (h : RL w (some ⟨b, off, none⟩) (x :: L)) : RL w (some ⟨b, off + 4, none⟩) L := by
  refine ⟨fun k hk => ?_⟩
  obtain ⟨b', off', e, hi⟩ := h.at_ (k + 1) (by simp; omega)
  cases e
  refine ⟨b, off + 4, rfl, ?_⟩
  have e1 : off + 4 + k * 4 = off + (k + 1) * 4 := by omega
  rw [e1]
  simpa [List.getD] using hi
theorem RL.cells {w : World} {x : Addr} {L : List Im} (h : RL w (some x) L) : ∀ j u, (flatI L)[j]? = some u → w.cell? (x.add j) = some u := by
  intro j u hu
  have hj : j < L.length * 4 := by
    rcases Nat.lt_or_ge j (L.length * 4) with h1 | h1
    · exact h1
    · rw [List.getElem?_eq_none (by rw [flatI_len]; exact h1)] at hu; cases hu
  obtain ⟨k, r, hr, rfl⟩ : ∃ k r, r < 4 ∧ j = k * 4 + r := ⟨j / 4, j % 4, by omega, by omega⟩
  obtain ⟨b, off, hx, hi⟩ := h.at_ k (by omega)
  cases hx
  have hadd : (⟨b, off, none⟩ : Addr).add (k * 4 + r) = ⟨b, off + (k * 4 + r), none⟩ := by unfold Addr.add; split <;> simp_all
  rw [hadd]
  have hg : L[k]? = some (L.getD k im0) := by simp [List.getD, show k < L.length by omega]
  obtain ⟨q0, q1, q2, q3⟩ := flatI_get L k _ hg
  rcases (by omega : r = 0 ∨ r = 1 ∨ r = 2 ∨ r = 3) with rfl | rfl | rfl | rfl
  · have := hi.c0; rw [Nat.add_zero] at hu ⊢; rw [q0] at hu; rw [← hu]; exact this
  · have := hi.c1; rw [q1] at hu; rw [← hu, ← Nat.add_assoc]; exact this
  · have := hi.c2; rw [q2] at hu; rw [← hu, ← Nat.add_assoc]; exact this
  · have := hi.c3; rw [q3] at hu; rw [← hu, ← Nat.add_assoc]; exact this
/-- What a list of items means. -/
structure ML (G : Nat → Prop) (w : World) (d : Nat) (L : List Im) (ts : List It) : Prop where
  len : L.length = ts.length
  mn : ∀ k, k < L.length → Mn G w d (L.getD k im0) (ts.getD k it0)
theorem ML.keep {G : Nat → Prop} {w w' : World} {d : Nat} {L : List Im} {ts : List It} (h : ML G w d L ts) (hk : ∀ b, G b → w'.heap[b]? = w.heap[b]?) : ML G w' d L ts := ⟨h.len, fun k hl => Mn.keep hk d _ _ (h.mn k hl)⟩
theorem ML.mono {G G' : Nat → Prop} {w : World} {d : Nat} {L : List Im} {ts : List It} (h : ML G w d L ts) (hg : ∀ b, G b → G' b) : ML G' w d L ts := ⟨h.len, fun k hl => Mn.mono hg d _ _ (h.mn k hl)⟩
theorem ML.up {G : Nat → Prop} {w : World} {d : Nat} {L : List Im} {ts : List It} (h : ML G w d L ts) : ML G w (d + 1) L ts := ⟨h.len, fun k hl => Mn.up d _ _ (h.mn k hl)⟩
theorem ML.nil (G : Nat → Prop) (w : World) (d : Nat) : ML G w d [] [] := ⟨rfl, fun k h => by simp at h⟩
theorem ML.app {G : Nat → Prop} {w : World} {d : Nat} {L M : List Im} {ts us : List It} (h : ML G w d L ts) (k : ML G w d M us) : ML G w d (L ++ M) (ts ++ us) := by
  refine ⟨by simp [h.len, k.len], fun i hi => ?_⟩
  by_cases c : i < L.length
  · have e1 : (L ++ M).getD i im0 = L.getD i im0 := by simp [List.getD, List.getElem?_append_left c]
    have e2 : (ts ++ us).getD i it0 = ts.getD i it0 := by simp [List.getD, List.getElem?_append_left (show i < ts.length by rw [← h.len]; exact c)]
    rw [e1, e2]; exact h.mn i c
  · have hl := h.len
    have e1 : (L ++ M).getD i im0 = M.getD (i - L.length) im0 := by simp [List.getD, List.getElem?_append_right (show L.length ≤ i by omega)]
    have e2 : (ts ++ us).getD i it0 = us.getD (i - L.length) it0 := by simp [List.getD, List.getElem?_append_right (show ts.length ≤ i by omega), hl]
    rw [e1, e2]; exact k.mn _ (by simp at hi; omega)
theorem ML.one {G : Nat → Prop} {w : World} {d : Nat} {x : Im} {t : It} (h : Mn G w d x t) : ML G w d [x] [t] := ⟨rfl, fun k hk => by
  have : k = 0 := by simp at hk; omega
  subst this
  exact h⟩
theorem ML.tail {G : Nat → Prop} {w : World} {d : Nat} {x : Im} {t : It} {L : List Im} {ts : List It} (h : ML G w d (x :: L) (t :: ts)) : Mn G w d x t ∧ ML G w d L ts :=
  ⟨h.mn 0 (by simp), ⟨by have := h.len; simpa using this, fun k hk => by have := h.mn (k + 1) (by simp; omega); simpa [List.getD] using this⟩⟩
/-- Two by two. -/
theorem pk_snoc : ∀ (l : List It) (k : Nat), 2 * k + 1 < l.length → pk (l.take (2 * (k + 1))) = pk (l.take (2 * k)) ++ [((l.getD (2 * k) it0).1 + (l.getD (2 * k + 1) it0).1, (l.getD (2 * k) it0).2 ++ (l.getD (2 * k + 1) it0).2)]
  | [], k, h => by simp at h
  | [_], k, h => by simp at h
  | a :: b :: r, 0, h => by simp [pk]
  | a :: b :: r, k + 1, h => by
    have ih := pk_snoc r k (by simp at h; omega)
    rw [show 2 * (k + 1 + 1) = 2 * (k + 1) + 1 + 1 by omega, show 2 * (k + 1) = 2 * k + 1 + 1 by omega]
    simp only [List.take_succ_cons, pk]
    rw [show 2 * k + 1 + 1 = 2 * (k + 1) by omega, ih, List.cons_append]
    simp [List.getD, show 2 * (k + 1) = 2 * k + 1 + 1 by omega]
theorem pk_whole (l : List It) (k : Nat) (h : ¬ 2 * k + 1 < l.length) (h2 : 2 * k ≤ l.length) : pk (l.take (2 * k)) = pk l := by
  by_cases e : l.length = 2 * k
  · rw [List.take_of_length_le (by omega)]
  · have e2 : l.length = 2 * k + 1 := by omega
    clear h h2 e
    induction k generalizing l with
    | zero =>
      match l, e2 with
      | [x], _ => rfl
    | succ k ih =>
      match l, e2 with
      | a :: b :: r, e2 =>
        have := ih r (by simp at e2; omega)
        rw [show 2 * (k + 1) = 2 * k + 1 + 1 by omega]
        simp only [List.take_succ_cons, pk, this]
end Go.Proofs.YtcifalelnfeggaaGreatDoor
