import Derived.Test.YtiankbopnjhhaaaGreatDoorPe
import Derived.Test.YtiankbopnjhhaaaGreatDoorPd
import Derived.Test.YtiankbopnjhhaaaGreatDoorPf
import Derived.Deep.RegionHeld3
namespace Go.Proofs.YtiankbopnjhhaaaGreatDoor
open Go.RowKit
set_option linter.unusedVariables false

/-- A Reader in a block of its own: the bits that it holds, and how many are gone. -/
structure Rd (w : World) (b : Nat) (H : List Bool) (t : Nat) : Prop where
  hp : w.heap[b]? = some (.cells #[.int .u64 (num H : Int), .int .i64 (H.length : Int), .int .i64 (t : Int)] 165 (0, 0))
  le : H.length ≤ 64
theorem Rd.b_lt {w : World} {b : Nat} {H : List Bool} {t : Nat} (h : Rd w b H t) : b < w.heap.size := (Array.getElem?_eq_some_iff.1 h.hp).1
theorem Rd.kp {w w' : World} {b : Nat} {H : List Bool} {t : Nat} {S : Nat → Prop} (h : Rd w b H t) (hk : Kp S w w') (hn : ¬ S b) : Rd w' b H t := ⟨hk.heap h.hp hn, h.le⟩
theorem Rd.fits {w : World} {b : Nat} {H : List Bool} {t : Nat} (h : Rd w b H t) : num H < 18446744073709551616 := Nat.lt_of_lt_of_le (num_lt H) (pow_le_64 h.le)
theorem Rd.new {w : World} {b : Nat} (h : w.heap[b]? = some (.cells #[.int .u64 0, .int .i64 0, .int .i64 0] 165 (0, 0))) : Rd w b [] 0 := ⟨h, by simp⟩

set_option maxRecDepth 100000 in
theorem space_any (b : Nat) (H : List Bool) (t : Nat) (w : World) (h : Rd w b H t) :
    Calls Tryz.prog 151 #[.pointer (some ⟨b, 0, none⟩)] w fun e w' => e = .returned (.int .i64 (((64 - H.length) / 8 : Nat) : Int)) ∧ w' = w := by
  have hc1 := three_cell1 h.hp
  have hle := h.le
  have HE : Hid ((((64 - H.length) / 8 : Nat) : Int) = (64 - (H.length : Int)) / 8) := by show _ = _; omega
  go_enter Tryz.func151, Tryz.ntmps151
  go_wp2
  go_ret
  exact ⟨by rw [HE.out]; rfl, rfl⟩
set_option maxRecDepth 100000 in
theorem has_any (b : Nat) (H : List Bool) (t : Nat) (w : World) (h : Rd w b H t) :
    Calls Tryz.prog 161 #[.pointer (some ⟨b, 0, none⟩)] w fun e w' => e = .returned (.int .i64 (H.length : Int)) ∧ w' = w := by
  have hc1 := three_cell1 h.hp
  go_enter Tryz.func161, Tryz.ntmps161
  go_wp2
  go_ret
  exact ⟨rfl, rfl⟩
/-- Are so many bits there, for one call? -/
def there (H : List Bool) (n : Int) : Bool := decide (0 ≤ n ∧ n ≤ 56 ∧ n ≤ H.length)
theorem there_yes {H : List Bool} {n : Int} (h : there H n = true) : ∃ k : Nat, n = k ∧ k ≤ 56 ∧ k ≤ H.length := by
  unfold there at h
  have h := of_decide_eq_true h
  exact ⟨n.toNat, by omega, by omega, by omega⟩
theorem there_no {H : List Bool} {n : Int} (h : there H n = false) : n < 0 ∨ (0 ≤ n ∧ 56 < n) ∨ (0 ≤ n ∧ n ≤ 56 ∧ (H.length : Int) < n) := by
  unfold there at h
  have h := of_decide_eq_false h
  omega
theorem there_of {H : List Bool} {k : Nat} (h1 : k ≤ 56) (h2 : k ≤ H.length) : there H k = true := by
  unfold there
  exact decide_eq_true (by omega)

set_option maxRecDepth 100000 in
set_option maxHeartbeats 400000 in
theorem peek_yes (b : Nat) (H : List Bool) (t k : Nat) (w : World) (h : Rd w b H t) (h1 : k ≤ 56) (h2 : k ≤ H.length) :
    Calls Tryz.prog 139 #[.pointer (some ⟨b, 0, none⟩), .int .i64 (k : Int)] w fun e w' => e = .returned (.tuple #[.int .u64 (num (H.take k) : Int), .bool true]) ∧ w' = w := by
  have hc0 := three_cell0 h.hp
  have hc1 := three_cell1 h.hp
  have C := low_any (num H) k w h.fits (by omega)
  rw [← num_take H k h2] at C
  have hk : (k : Int) ≤ (H.length : Int) := by omega
  go_enter Tryz.func139, Tryz.ntmps139
  go_wp2_with fail
  refine C.mono ?_
  rintro e w1 ⟨rfl, hw1⟩
  subst w1
  go_wp2
  go_ret2
  exact ⟨rfl, rfl⟩
set_option maxRecDepth 100000 in
set_option maxHeartbeats 400000 in
theorem peek_no (b : Nat) (H : List Bool) (t : Nat) (n : Int) (w : World) (h : Rd w b H t) (hn : there H n = false) :
    Calls Tryz.prog 139 #[.pointer (some ⟨b, 0, none⟩), .int .i64 n] w fun e w' => e = .returned (.tuple #[.int .u64 0, .bool false]) ∧ w' = w := by
  have hc0 := three_cell0 h.hp
  have hc1 := three_cell1 h.hp
  rcases there_no hn with hn | ⟨hn, hn2⟩ | ⟨hn, hn2, hn3⟩
  · go_enter Tryz.func139, Tryz.ntmps139
    go_wp2
    go_ret2
    exact ⟨rfl, rfl⟩
  · go_enter Tryz.func139, Tryz.ntmps139
    go_wp2
    go_ret2
    exact ⟨rfl, rfl⟩
  · go_enter Tryz.func139, Tryz.ntmps139
    go_wp2
    go_ret2
    exact ⟨rfl, rfl⟩

set_option maxRecDepth 100000 in
set_option maxHeartbeats 400000 in
theorem drop_any (b : Nat) (H : List Bool) (t k : Nat) (w : World) (h : Rd w b H t) (h2 : k ≤ H.length) (ht : t ≤ 4611686018427387904) :
    Calls Tryz.prog 121 #[.pointer (some ⟨b, 0, none⟩), .int .i64 (k : Int)] w fun e w' => e = .returned (.tuple #[]) ∧ Rd w' b (H.drop k) (t + k) ∧ w.grownBy w' (some b) := by
  have hc0 := three_cell0 h.hp
  have hc1 := three_cell1 h.hp
  have hc2 := three_cell2 h.hp
  have hf := three_free h.hp
  have hsh := shr_nat (num H) k
  have hle := h.le
  rw [← num_drop H k h2] at hsh
  have hp := h.hp
  have hnl := h.fits
  obtain ⟨q, hq⟩ : ∃ q, q = num (H.drop k) := ⟨_, rfl⟩
  rw [← hq] at hsh
  have HQ : Hid (q = num (H.drop k)) := hq
  clear hq
  go_enter Tryz.func121, Tryz.ntmps121
  go_wp2
  go_end0
  refine ⟨rfl, ⟨?_, by simp; omega⟩, grownBy_set (grownBy_set (grownBy_set (World.grownBy.refl _ _) _) _) _⟩
  rw [three_set2 (three_set1 (three_set0 hp _) _) _, HQ.out, List.length_drop]
  have e1 : ((H.length : Int) - (k : Int)) = ((H.length - k : Nat) : Int) := by omega
  have e2 : ((t : Int) + (k : Int)) = ((t + k : Nat) : Int) := by omega
  rw [e1, e2]

/-- What a Take leaves. -/
def takeL (H : List Bool) (n : Int) : List Bool := if there H n then H.drop n.toNat else H
def takeT (H : List Bool) (t : Nat) (n : Int) : Nat := if there H n then t + n.toNat else t
def takeV (H : List Bool) (n : Int) : Nat := if there H n then num (H.take n.toNat) else 0

theorem peek_any (b : Nat) (H : List Bool) (t : Nat) (n : Int) (w : World) (h : Rd w b H t) :
    Calls Tryz.prog 139 #[.pointer (some ⟨b, 0, none⟩), .int .i64 n] w fun e w' => e = .returned (.tuple #[.int .u64 (takeV H n : Int), .bool (there H n)]) ∧ w' = w := by
  unfold takeV
  cases hn : there H n
  · exact peek_no b H t n w h hn
  · obtain ⟨k, rfl, h1, h2⟩ := there_yes hn
    exact peek_yes b H t k w h h1 h2

set_option maxRecDepth 100000 in
set_option maxHeartbeats 400000 in
theorem take_any (b : Nat) (H : List Bool) (t : Nat) (n : Int) (w : World) (h : Rd w b H t) (ht : t ≤ 4611686018427387904) :
    Calls Tryz.prog 122 #[.pointer (some ⟨b, 0, none⟩), .int .i64 n] w fun e w' => e = .returned (.tuple #[.int .u64 (takeV H n : Int), .bool (there H n)]) ∧ Rd w' b (takeL H n) (takeT H t n) ∧ w.grownBy w' (some b) := by
  have C := peek_any b H t n w h
  have D : there H n = true → Calls Tryz.prog 121 #[.pointer (some ⟨b, 0, none⟩), .int .i64 n] w fun e w' => e = .returned (.tuple #[]) ∧ Rd w' b (takeL H n) (takeT H t n) ∧ w.grownBy w' (some b) := by
    intro hn
    unfold takeL takeT
    rw [hn]
    obtain ⟨k, rfl, h1, h2⟩ := there_yes hn
    exact drop_any b H t k w h h2 ht
  have HN : there H n = false → takeL H n = H ∧ takeT H t n = t := by
    intro hn
    unfold takeL takeT
    rw [hn]
    exact ⟨rfl, rfl⟩
  generalize takeL H n = H' at *
  generalize takeT H t n = t' at *
  generalize takeV H n = v at *
  cases hn : there H n
  · obtain ⟨rfl, rfl⟩ := HN hn
    rw [hn] at C
    clear D HN hn
    go_enter Tryz.func122, Tryz.ntmps122
    go_wp2_with fail
    refine C.mono ?_
    rintro e w1 ⟨rfl, hw1⟩
    subst w1
    go_wp2
    go_ret2
    exact ⟨rfl, h, World.grownBy.refl _ _⟩
  · have D := D hn
    rw [hn] at C
    clear HN hn
    go_enter Tryz.func122, Tryz.ntmps122
    go_wp2_with fail
    refine C.mono ?_
    rintro e w1 ⟨rfl, hw1⟩
    subst w1
    go_wp2_with fail
    refine D.mono ?_
    rintro e w1 ⟨rfl, h1, h2⟩
    go_wp2
    go_ret2
    exact ⟨rfl, h1, h2⟩

set_option maxRecDepth 100000 in
set_option maxHeartbeats 400000 in
theorem ralign_any (b : Nat) (H : List Bool) (t : Nat) (w : World) (h : Rd w b H t) (ht : t ≤ 4611686018427387904) :
    Calls Tryz.prog 98 #[.pointer (some ⟨b, 0, none⟩)] w fun e w' => e = .returned (.tuple #[.int .i64 ((H.length % 8 : Nat) : Int), .int .u64 (num (H.take (H.length % 8)) : Int)]) ∧ Rd w' b (H.drop (H.length % 8)) (t + H.length % 8) ∧ w.grownBy w' (some b) := by
  have hc0 := three_cell0 h.hp
  have hc1 := three_cell1 h.hp
  have hle := h.le
  have h8 : H.length % 8 ≤ H.length := Nat.mod_le _ _
  have C := low_any (num H) (H.length % 8) w h.fits (by omega)
  rw [← num_take H _ h8] at C
  have D := drop_any b H t (H.length % 8) w h h8 ht
  have hm : (H.length : Int) % 8 = ((H.length % 8 : Nat) : Int) := by omega
  generalize H.length % 8 = k at *
  generalize num (H.take k) = v at *
  go_enter Tryz.func98, Tryz.ntmps98
  go_wp2_with fail
  refine C.mono ?_
  rintro e w1 ⟨rfl, hw1⟩
  subst w1
  go_wp2_with fail
  refine D.mono ?_
  rintro e w1 ⟨rfl, h1, h2⟩
  go_wp2
  go_ret2
  exact ⟨rfl, h1, h2⟩

/-- How many bytes are taken. -/
def feedN (H : List Bool) (n : Nat) : Nat := min n ((64 - H.length) / 8)
theorem feed_step {H : List Bool} {z : Int} (hz0 : 0 ≤ z) (hz1 : z ≤ 255) (hl : H.length ≤ 56) : bits .or .u64 (num H : Int) (IntKind.u64.wrap (z * 2 ^ H.length)) = (num (H ++ bN z.toNat 8) : Int) ∧ num (H ++ bN z.toNat 8) < 18446744073709551616 := by
  have h1 := num_lt H
  have h2 : z.toNat < 2 ^ 8 := by omega
  have h3 : num H + z.toNat * 2 ^ H.length < 2 ^ (H.length + 8) := by
    have h1' : (z.toNat + 1) * 2 ^ H.length ≤ 2 ^ 8 * 2 ^ H.length := Nat.mul_le_mul_right _ h2
    rw [← Nat.pow_add, Nat.add_comm 8, Nat.add_mul, Nat.one_mul] at h1'
    omega
  have h4 := pow_le_64 (k := H.length + 8) (by omega)
  have e1 : IntKind.u64.wrap (z * 2 ^ H.length) = ((z.toNat * 2 ^ H.length : Nat) : Int) := by
    rw [show z * 2 ^ H.length = ((z.toNat * 2 ^ H.length : Nat) : Int) by rw [Int.natCast_mul, Int.toNat_of_nonneg hz0]; simp]
    generalize z.toNat * 2 ^ H.length = p at *
    rw [IntWalk.u64_in _ ⟨by omega, by omega⟩]
  have e2 : num (H ++ bN z.toNat 8) = num H + z.toNat * 2 ^ H.length := by rw [num_append, num_bN_lt h2, Nat.mul_comm]
  rw [e1, or_pow h1 (by omega), e2]
  exact ⟨rfl, by omega⟩

set_option maxRecDepth 100000 in
set_option maxHeartbeats 2000000 in
theorem feed_any (b : Nat) (H : List Bool) (t : Nat) (pa : Option Addr) (p : List Int) (pc : Nat) (w : World) (h : Rd w b H t) (hs : Seg w pa p) (hcap : p.length ≤ pc) (hfar : ∀ g off, pa = some ⟨g, off, none⟩ → 0 < p.length → g ≠ b) (hl : p.length ≤ 4611686018427387904) :
    Calls Tryz.prog 130 #[.pointer (some ⟨b, 0, none⟩), .slice pa p.length pc] w fun e w' => e = .returned (.int .i64 (feedN H p.length : Int)) ∧ Rd w' b (H ++ bB (p.take (feedN H p.length))) t ∧ (Kp (fun k => k = b) w w') := by
  have C := space_any b H t w h
  have hle := h.le
  obtain ⟨m, hm⟩ : ∃ m, m = feedN H p.length := ⟨_, rfl⟩
  rw [← hm]
  have hmp : m ≤ p.length := by rw [hm]; unfold feedN; omega
  have hm8 : H.length + 8 * m ≤ 64 := by rw [hm]; unfold feedN; omega
  have hmn : m = min p.length ((64 - H.length) / 8) := hm
  have hsl : (m : Int) ≤ (pc : Int) := by omega
  clear hm
  generalize (64 - H.length) / 8 = sp at *
  by_cases hsp : sp < p.length
  · obtain rfl : sp = m := by omega
    clear hmn
    go_enter Tryz.func130, Tryz.ntmps130
    go_wp2_with fail
    refine C.mono ?_
    rintro e w1 ⟨rfl, hw1⟩
    subst w1
    go_wp2
    go_loopw [19] (fun ti wr => ∃ i : Nat, i ≤ sp ∧ ti = .int .i64 (i : Int) ∧ Rd wr b (H ++ bB (p.take i)) t ∧ Kp (fun k => k = b) w wr) (fun ti _ => sp - (intOf ti).toNat)
    case atStart => exact ⟨0, Nat.zero_le _, rfl, by simpa [bB] using h, Kp.refl _ _⟩
    case round =>
      obtain ⟨i, hi, rfl, hr, hk⟩ := hrel
      by_cases hlt : i < sp
      · have hlt2 : (i : Int) < (sp : Int) := by omega
        have hsr : Seg wr pa p := hs.kp hk (fun g off e hp => hfar g off e hp)
        obtain ⟨g, off, rfl, hcell⟩ := hsr.at_ i (by omega)
        have hz := hs.bd i
        have HT : Hid (bB (p.take (i + 1)) = bB (p.take i) ++ bN (p.getD i 0).toNat 8) := by
          show _ = _
          rw [List.take_succ_eq_append_getElem (by omega), bB_append, bB_one]
          simp [List.getD, show i < p.length by omega]
        have hlen : (H ++ bB (p.take i)).length = H.length + 8 * i := by rw [List.length_append, bB_len, List.length_take]; omega
        have hst := feed_step (H := H ++ bB (p.take i)) hz.1 hz.2 (by omega)
        have hp := hr.hp
        have hc0 := three_cell0 hr.hp
        have hc1 := three_cell1 hr.hp
        have hf := three_free hr.hp
        have hfit := hr.fits
        have hh56 : (H ++ bB (p.take i)).length ≤ 56 := by omega
        have HL : Hid ((H ++ bB (p.take i)).length = H.length + 8 * i) := hlen
        clear hlen hsr
        generalize p.getD i 0 = z at *
        have HN : Hid (H ++ bB (p.take (i + 1)) = (H ++ bB (p.take i)) ++ bN z.toNat 8) := by show _ = _; rw [HT.out, List.append_assoc]
        generalize H ++ bB (p.take i) = G at *
        obtain ⟨y, hy⟩ : ∃ y, y = num (G ++ bN z.toNat 8) := ⟨_, rfl⟩
        rw [← hy] at hst
        have HY : Hid (y = num (G ++ bN z.toNat 8)) := hy
        have hor := hst.1
        have hy64 := hst.2
        clear hy hst
        go_wp2
        go_region
        have hp1 : ((wr.setCell ⟨b, 0, none⟩ (.int .u64 (y : Int))).drew).heap[b]? = some (.cells #[.int .u64 (y : Int), .int .i64 (G.length : Int), .int .i64 (t : Int)] 165 (0, 0)) := three_set0 hp _
        have hk1 : Kp (fun j => j = b) wr ((wr.setCell ⟨b, 0, none⟩ (.int .u64 (y : Int))).drew) := (Kp.set (S := fun j => j = b) rfl _).drew
        generalize (wr.setCell ⟨b, 0, none⟩ (.int .u64 (y : Int))).drew = w2 at *
        have hd1 := three_cell1 hp1
        have hdf := three_free hp1
        clear hc0 hc1 hf hp hor
        go_wp2
        go_roundw
        case rel =>
          refine ⟨i + 1, by omega, by go_num, ⟨?_, ?_⟩, hk.trans (hk1.trans (Kp.set (S := fun j => j = b) rfl _) (fun _ _ e => e)) (fun _ _ e => e)⟩
          · rw [three_set1 hp1 _, HN.out, ← HY.out]
            rw [show (G ++ bN z.toNat 8).length = G.length + 8 by rw [List.length_append, bN_len]]
            rfl
          · rw [HN.out, List.length_append, bN_len]; omega
        case measure => simp [intOf]; omega
      · have HI : Hid (i = sp) := by show _ = _; omega
        have hge : (sp : Int) ≤ (i : Int) := by omega
        clear hlt hi
        go_wp2
        go_ret
        rw [HI.out] at hr
        exact ⟨rfl, hr, hk⟩
  · obtain rfl : m = p.length := by omega
    clear hmn
    go_enter Tryz.func130, Tryz.ntmps130
    go_wp2_with fail
    refine C.mono ?_
    rintro e w1 ⟨rfl, hw1⟩
    subst w1
    go_wp2
    go_loopw [19] (fun ti wr => ∃ i : Nat, i ≤ p.length ∧ ti = .int .i64 (i : Int) ∧ Rd wr b (H ++ bB (p.take i)) t ∧ Kp (fun k => k = b) w wr) (fun ti _ => p.length - (intOf ti).toNat)
    case atStart => exact ⟨0, Nat.zero_le _, rfl, by simpa [bB] using h, Kp.refl _ _⟩
    case round =>
      obtain ⟨i, hi, rfl, hr, hk⟩ := hrel
      by_cases hlt : i < p.length
      · have hlt2 : (i : Int) < (p.length : Int) := by omega
        have hsr : Seg wr pa p := hs.kp hk (fun g off e hp => hfar g off e hp)
        obtain ⟨g, off, rfl, hcell⟩ := hsr.at_ i (by omega)
        have hz := hs.bd i
        have HT : Hid (bB (p.take (i + 1)) = bB (p.take i) ++ bN (p.getD i 0).toNat 8) := by
          show _ = _
          rw [List.take_succ_eq_append_getElem (by omega), bB_append, bB_one]
          simp [List.getD, show i < p.length by omega]
        have hlen : (H ++ bB (p.take i)).length = H.length + 8 * i := by rw [List.length_append, bB_len, List.length_take]; omega
        have hst := feed_step (H := H ++ bB (p.take i)) hz.1 hz.2 (by omega)
        have hp := hr.hp
        have hc0 := three_cell0 hr.hp
        have hc1 := three_cell1 hr.hp
        have hf := three_free hr.hp
        have hfit := hr.fits
        have hh56 : (H ++ bB (p.take i)).length ≤ 56 := by omega
        have HL : Hid ((H ++ bB (p.take i)).length = H.length + 8 * i) := hlen
        clear hlen hsr
        generalize p.getD i 0 = z at *
        have HN : Hid (H ++ bB (p.take (i + 1)) = (H ++ bB (p.take i)) ++ bN z.toNat 8) := by show _ = _; rw [HT.out, List.append_assoc]
        generalize H ++ bB (p.take i) = G at *
        obtain ⟨y, hy⟩ : ∃ y, y = num (G ++ bN z.toNat 8) := ⟨_, rfl⟩
        rw [← hy] at hst
        have HY : Hid (y = num (G ++ bN z.toNat 8)) := hy
        have hor := hst.1
        have hy64 := hst.2
        clear hy hst
        go_wp2
        go_region
        have hp1 : ((wr.setCell ⟨b, 0, none⟩ (.int .u64 (y : Int))).drew).heap[b]? = some (.cells #[.int .u64 (y : Int), .int .i64 (G.length : Int), .int .i64 (t : Int)] 165 (0, 0)) := three_set0 hp _
        have hk1 : Kp (fun j => j = b) wr ((wr.setCell ⟨b, 0, none⟩ (.int .u64 (y : Int))).drew) := (Kp.set (S := fun j => j = b) rfl _).drew
        generalize (wr.setCell ⟨b, 0, none⟩ (.int .u64 (y : Int))).drew = w2 at *
        have hd1 := three_cell1 hp1
        have hdf := three_free hp1
        clear hc0 hc1 hf hp hor
        go_wp2
        go_roundw
        case rel =>
          refine ⟨i + 1, by omega, by go_num, ⟨?_, ?_⟩, hk.trans (hk1.trans (Kp.set (S := fun j => j = b) rfl _) (fun _ _ e => e)) (fun _ _ e => e)⟩
          · rw [three_set1 hp1 _, HN.out, ← HY.out]
            rw [show (G ++ bN z.toNat 8).length = G.length + 8 by rw [List.length_append, bN_len]]
            rfl
          · rw [HN.out, List.length_append, bN_len]; omega
        case measure => simp [intOf]; omega
      · have HI : Hid (i = p.length) := by show _ = _; omega
        have hge : (p.length : Int) ≤ (i : Int) := by omega
        clear hlt hi
        go_wp2
        go_ret
        rw [HI.out] at hr
        exact ⟨rfl, hr, hk⟩
end Go.Proofs.YtiankbopnjhhaaaGreatDoor

namespace Go.Proofs.YtiankbopnjhhaaaGreatDoor
open Go.RowKit
set_option linter.unusedVariables false

/-- The first bits as a code: the first the highest. -/
def vB (H : List Bool) (l : Nat) : Nat := num (H.take l).reverse
theorem vB_zero (H : List Bool) : vB H 0 = 0 := by simp [vB, num]
theorem take_succ_b {H : List Bool} {l : Nat} (h : l < H.length) : H.take (l + 1) = H.take l ++ [H.getD l false] := by
  rw [List.take_add_one, List.getElem?_eq_getElem h]
  simp [List.getD, h]
theorem vB_succ {H : List Bool} {l : Nat} (h : l < H.length) : vB H (l + 1) = 2 * vB H l + (H.getD l false).toNat := by
  unfold vB
  rw [take_succ_b h, List.reverse_append, List.reverse_cons, List.reverse_nil, List.nil_append, List.singleton_append]
  simp only [num]
  omega
theorem vB_lt (H : List Bool) (l : Nat) : vB H l < 2 ^ l := by
  unfold vB
  have h1 := num_lt (H.take l).reverse
  have h2 : 2 ^ (H.take l).reverse.length ≤ 2 ^ l := Nat.pow_le_pow_right (by decide) (by simp; omega)
  omega
/-- The bits begin with this symbol's code. -/
def Beg (zs : List Int) (H : List Bool) (s : Nat) : Prop := s < zs.length ∧ zs.getD s 0 ≠ 0 ∧ ln zs s ≤ H.length ∧ vB H (ln zs s) = cd zs s
/-- The bits are the beginning of some code, and not the whole of it. -/
def May (zs : List Int) (H : List Bool) : Prop := ∃ s, s < zs.length ∧ zs.getD s 0 ≠ 0 ∧ H.length < ln zs s ∧ cd zs s / 2 ^ (ln zs s - H.length) = vB H H.length
theorem cd_top {zs : List Int} (h : LOk zs) {s : Nat} (hs : s < zs.length) (h0 : zs.getD s 0 ≠ 0) : cF zs (ln zs s) ≤ cd zs s ∧ cd zs s < cF zs (ln zs s) + cC zs (ln zs s) := by
  have := rk_lt_c h hs h0
  unfold cd
  rw [if_neg h0]
  omega
/-- A prefix of a prefix. -/
theorem vB_div (H : List Bool) {a b : Nat} (h : a ≤ b) (hb : b ≤ H.length) : vB H b / 2 ^ (b - a) = vB H a := by
  obtain ⟨d, rfl⟩ : ∃ d, b = a + d := ⟨b - a, by omega⟩
  clear h
  induction d with
  | zero => simp
  | succ d ih =>
    have h1 := ih (by omega)
    have h2 := vB_succ (H := H) (l := a + d) (by omega)
    have h3 : (H.getD (a + d) false).toNat < 2 := Bool.toNat_lt _
    rw [show a + (d + 1) = a + d + 1 by omega, h2, show a + d + 1 - a = d + 1 by omega, Nat.pow_succ, Nat.mul_comm (2 ^ d) 2, ← Nat.div_div_eq_div_mul]
    rw [show (2 * vB H (a + d) + (H.getD (a + d) false).toNat) / 2 = vB H (a + d) by omega]
    rw [show a + d - a = d by omega] at h1
    exact h1
theorem beg_one {zs : List Int} {H : List Bool} (h : LOk zs) {s t : Nat} (hs : Beg zs H s) (ht : Beg zs H t) : s = t := by
  obtain ⟨a1, a2, a3, a4⟩ := hs
  obtain ⟨b1, b2, b3, b4⟩ := ht
  rcases Nat.le_total (ln zs s) (ln zs t) with c | c
  · exact cd_apart h a1 b1 a2 c (by rw [← b4, vB_div H c b3, a4])
  · exact (cd_apart h b1 a1 b2 c (by rw [← a4, vB_div H c a3, b4])).symm
/-- Passed by up to and with length l. -/
def Past (zs : List Int) (H : List Bool) (l : Nat) : Prop := ∀ j, j ≤ l → cF zs j + cC zs j ≤ vB H j
theorem past_none {zs : List Int} {H : List Bool} {l : Nat} (h : LOk zs) (hp : Past zs H l) {s : Nat} (hb : Beg zs H s) : l < ln zs s := by
  rcases Nat.lt_or_ge l (ln zs s) with c | c
  · exact c
  · exfalso
    obtain ⟨a1, a2, a3, a4⟩ := hb
    have := hp (ln zs s) c
    have := (cd_top h a1 a2).2
    omega
theorem used_le {zs : List Int} (h : LOk zs) {s l : Nat} (hs : s < zs.length) (h0 : zs.getD s 0 ≠ 0) (ht : cS zs (l + 1) = tot zs) : ln zs s ≤ l := by
  rcases Nat.lt_or_ge l (ln zs s) with c | c
  · exfalso
    have h1 := cS_mono zs (a := l + 1) (b := ln zs s) c
    have h2 : cS zs (ln zs s + 1) ≤ cS zs 16 := cS_mono zs (by have := (h.ln s).2; omega)
    rw [cS_succ] at h2
    have h3 := rk_lt_c h hs h0
    unfold tot at ht
    omega
  · exact c
/-- All codes have been passed by: there is none. -/
theorem end_none {zs : List Int} {H : List Bool} {l : Nat} (h : LOk zs) (hl : l ≤ H.length) (hp : Past zs H l) (ht : cS zs (l + 1) = tot zs) : (∀ s, ¬ Beg zs H s) ∧ ¬ May zs H := by
  refine ⟨fun s hb => ?_, fun ⟨s, h1, h2, h3, _⟩ => ?_⟩
  · have h1 := past_none h hp hb
    have h2 := used_le h hb.1 hb.2.1 ht
    omega
  · have := used_le h h1 h2 ht
    omega
/-- All bits have been looked at, and codes are left: one begins so. -/
theorem end_may {zs : List Int} {H : List Bool} (h : LOk zs) (hw : spc zs = 32768 ∨ tot zs = 0 ∨ (tot zs = 1 ∧ cC zs 1 = 1)) (hl : H.length ≤ 15) (hp : Past zs H H.length) (ht : cS zs (H.length + 1) ≠ tot zs) : (∀ s, ¬ Beg zs H s) ∧ May zs H := by
  refine ⟨fun s hb => ?_, ?_⟩
  · have := past_none h hp hb
    have := hb.2.2.1
    omega
  · have hn15 : H.length < 15 := by
      rcases Nat.lt_or_ge H.length 15 with c | c
      · exact c
      · exfalso
        apply ht
        rw [show H.length = 15 by omega]
        rfl
    rcases hw with hw | hw | ⟨hw, h1⟩
    · have hv := vB_lt H H.length
      have e15 : (2 : Nat) ^ H.length * 2 ^ (15 - H.length) = 32768 := by
        rw [← Nat.pow_add, show H.length + (15 - H.length) = 15 by omega]
      have hlt : vB H H.length * 2 ^ (15 - H.length) < spc zs := by
        rw [hw, ← e15]
        exact Nat.mul_lt_mul_of_pos_right hv (Nat.two_pow_pos _)
      obtain ⟨s, hs, s0, hlo, hhi⟩ := cover h hlt
      have hgt : H.length < ln zs s := by
        rcases Nat.lt_or_ge H.length (ln zs s) with c | c
        · exact c
        · exfalso
          have h1 := hi_le h hs s0
          have h2 := cP_mono zs (a := ln zs s + 1) (b := H.length + 1) (by omega)
          have h3 : cP zs (H.length + 1) = (cF zs H.length + cC zs H.length) * 2 ^ (15 - H.length) := by
            rw [cP_succ, Nat.add_mul, cF_cP zs _ hl]
          have h4 := Nat.mul_le_mul_right (2 ^ (15 - H.length)) (hp H.length (Nat.le_refl _))
          omega
      refine ⟨s, hs, s0, hgt, ?_⟩
      have hsl := (h.ln s).2
      have e2 : vB H H.length * 2 ^ (15 - H.length) = vB H H.length * 2 ^ (ln zs s - H.length) * 2 ^ (15 - ln zs s) := by
        rw [Nat.mul_assoc, ← Nat.pow_add, show ln zs s - H.length + (15 - ln zs s) = 15 - H.length by omega]
      rw [e2] at hlo hhi
      have k1 := Nat.le_of_mul_le_mul_right hlo (Nat.two_pow_pos _)
      have k2 := Nat.lt_of_mul_lt_mul_right hhi
      have k3 : cd zs s = vB H H.length * 2 ^ (ln zs s - H.length) := by omega
      rw [k3, Nat.mul_div_cancel _ (Nat.two_pow_pos _)]
    · exfalso
      apply ht
      have h1 : cS zs (H.length + 1) ≤ cS zs 16 := cS_mono zs (by omega)
      unfold tot at hw ⊢
      omega
    · have hn0 : H.length = 0 := by
        rcases Nat.eq_zero_or_pos H.length with c | c
        · exact c
        · exfalso
          apply ht
          have h2 : cS zs 2 ≤ cS zs (H.length + 1) := cS_mono zs (by omega)
          have h3 : cS zs (H.length + 1) ≤ cS zs 16 := cS_mono zs (by omega)
          have h4 : cS zs 2 = cC zs 1 := by rw [cS_succ, cS_succ, cC_zero]; simp [cS]
          unfold tot at hw ⊢
          omega
      rw [cC_pos zs (by decide)] at h1
      obtain ⟨s, hs, e, er⟩ := rk_has zs ((1 : Nat) : Int) 0 (by omega)
      have hln : ln zs s = 1 := by unfold ln; rw [e]; rfl
      have s0 : zs.getD s 0 ≠ 0 := by rw [e]; decide
      refine ⟨s, hs, s0, by omega, ?_⟩
      have hcd : cd zs s = 0 := by
        unfold cd
        rw [if_neg s0, hln, er, cF_succ, cC_zero]
        rfl
      rw [hcd, hn0, vB_zero]
      simp
/-- What looking a code up tells. -/
def FindQ (zs : List Int) (H : List Bool) (sy le er : Int) : Prop :=
  (∃ s, Beg zs H s ∧ sy = (s : Int) ∧ le = (ln zs s : Int) ∧ er = 0) ∨ ((∀ s, ¬ Beg zs H s) ∧ May zs H ∧ sy = 0 ∧ le = 0 ∧ er = 0) ∨ ((∀ s, ¬ Beg zs H s) ∧ ¬ May zs H ∧ sy = 0 ∧ le = 0 ∧ er = 54)
end Go.Proofs.YtiankbopnjhhaaaGreatDoor

namespace Go.Proofs.YtiankbopnjhhaaaGreatDoor
open Go.RowKit
set_option linter.unusedVariables false

theorem i64_or_nat (a b : Nat) (ha : a < 4611686018427387904) (hb : b < 4611686018427387904) : bits .or .i64 (a : Int) (b : Int) = ((a ||| b : Nat) : Int) := by
  have hx : a ||| b < 2 ^ 62 := Nat.or_lt_two_pow (by omega) (by omega)
  show IntKind.i64.wrap ((BitVec.ofInt 64 (a : Int) ||| BitVec.ofInt 64 (b : Int)).toNat : Int) = _
  rw [BitVec.toNat_or, ofInt_u64 a (by omega), ofInt_u64 b (by omega)]
  exact IntWalk.i64_in _ (by omega)
theorem or_bit64 {x b : Nat} (h : b < 2) (hx : x ≤ 1000000) : bits .or .i64 ((x : Int) * 2) (b : Int) = ((2 * x + b : Nat) : Int) := by
  rw [show ((x : Int) * 2) = ((2 ^ 1 * x : Nat) : Int) by simp; omega, i64_or_nat _ _ (by omega) (by omega), ← Nat.two_pow_add_eq_or_of_lt (by omega : b < 2 ^ 1)]
theorem bit_at {L : List Bool} {l : Nat} (h : l < L.length) : num L / 2 ^ l % 2 = (L.getD l false).toNat := by
  rw [← num_drop L l (by omega), List.drop_eq_getElem_cons h]
  have hb : (L[l]).toNat < 2 := Bool.toNat_lt _
  simp only [num]
  simp [List.getD, h]
  omega

set_option maxRecDepth 100000 in
set_option maxHeartbeats 1000000 in
theorem find_any (b most : Nat) (zs : List Int) (H : List Bool) (n : Nat) (hn : Hid (n = min H.length 15)) (w : World) (hD : De w b most zs) :
    Calls Tryz.prog 162 #[.pointer (some ⟨b, 1, none⟩), .int .u64 (num (H.take n) : Int), .int .i64 (n : Int)] w fun e w' => ∃ sy le er, e = .returned (.tuple #[.int .i64 sy, .int .i64 le, .int .i64 er]) ∧ FindQ zs H sy le er ∧ w' = w := by
  obtain ⟨S, hS, hY, hb⟩ := hD.row
  have HL := errS_zero (errC_zero hD.ok).1
  have HLK : Hid (LOk zs) := HL.2
  go_enter Tryz.func162, Tryz.ntmps162
  go_wp2_with fail
  go_step3
  go_wp2_with fail
  go_step3
  go_wp2_with fail
  have hn15 : n ≤ 15 := by have := hn.out; omega
  have HNH : Hid (n ≤ H.length ∧ (n < 15 → n = H.length)) := ⟨by have := hn.out; omega, by have := hn.out; omega⟩
  have HW : Hid (spc zs = 32768 ∨ tot zs = 0 ∨ (tot zs = 1 ∧ cC zs 1 = 1)) := by
    have h1 := (errC_zero hD.ok).2
    unfold errR at h1
    by_cases c1 : 32768 < spc zs
    · rw [if_pos c1] at h1; cases h1
    · rw [if_neg c1] at h1
      by_cases c2 : spc zs = 32768 ∨ tot zs = 0 ∨ (tot zs = 1 ∧ cC zs 1 = 1)
      · exact c2
      · rw [if_neg c2] at h1; cases h1
  have hbnd := cC_288 (errC_zero hD.ok).1
  have HTT : Hid (tot zs ≤ 288) := Nat.le_trans (tot_le zs HL.2) HL.1
  have ct := arr_cell hb (i := 1 + 304) (by simp [dl, tbl_len hS])
  rw [dl_get, tbl_tot hS, show 1 + 304 = 305 from rfl] at ct
  have HY : Hid (SymOk zs S zs.length) := hY
  have htt := HTT.out
  clear HL hY
  go_loopw [9, 10, 11, 12, 13, 16] (fun t9 t10 t11 tb tsh tl wr => ∃ l d : Nat, l ≤ 16 ∧ t9 = .int .i64 0 ∧ t10 = .int .i64 0 ∧ t11 = .int .i64 0 ∧ tb = .int .i64 (d : Int) ∧ tsh = .int .i64 (cS zs l : Int) ∧ tl = .int .i64 (l : Int) ∧ wr = w ∧ Hid (l ≤ n ∧ d + cF zs l = vB H l ∧ ∀ j, j < l → cF zs j + cC zs j ≤ vB H j)) (fun _ _ _ _ _ tl _ => 16 - (intOf tl).toNat)
  case atStart => exact ⟨0, 0, by omega, rfl, rfl, rfl, rfl, rfl, rfl, rfl, (⟨by omega, by rw [vB_zero]; rfl, fun j hj => by omega⟩ : _ ∧ _)⟩
  case round =>
    obtain ⟨l, d, hl16, rfl, rfl, rfl, rfl, rfl, rfl, hwr, HQ⟩ := hrel
    subst hwr
    have hln : l ≤ n := HQ.out.1
    have hl15 : l ≤ 15 := by omega
    have hli : (l : Int) < 16 := by omega
    have cc := arr_cell hb (i := 1 + l) (by simp [dl, tbl_len hS]; omega)
    rw [dl_get, tbl_cnt (by omega)] at cc
    have hvl : vB H l < 32768 := Nat.lt_of_lt_of_le (vB_lt H l) (Nat.pow_le_pow_right (n := 2) (j := 15) (by decide) hl15)
    have hdb : d ≤ 32768 := by have := HQ.out.2.1; omega
    have hcb := hbnd l
    have hsb : cS zs l ≤ 288 := Nat.le_trans (cS_mono zs (b := 16) (by omega)) htt
    have HSS : Hid (cS zs (l + 1) = cS zs l + cC zs l) := cS_succ zs l
    have HCF : Hid (cF zs (l + 1) = 2 * (cF zs l + cC zs l)) := cF_succ zs l
    by_cases hdc : d < cC zs l
    · have hl0 : 0 < l := by
        rcases Nat.eq_zero_or_pos l with rfl | h
        · rw [cC_zero] at hdc; omega
        · exact h
      have HRK : Hid (∃ s, s < zs.length ∧ zs.getD s 0 = (l : Int) ∧ rk zs s = d) := rk_has zs (l : Int) d (by rw [← cC_pos zs hl0]; exact hdc)
      obtain ⟨s, hs1, hs2, hs3⟩ := HRK.out
      have HSF : Hid (Beg zs H s ∧ ln zs s = l ∧ S.getD (cS zs l + d) 0 = (s : Int)) := by
        have hln : ln zs s = l := by unfold ln; rw [hs2]; simp
        have s0 : zs.getD s 0 ≠ 0 := by rw [hs2]; omega
        refine ⟨⟨hs1, s0, ?_, ?_⟩, hln, ?_⟩
        · rw [hln]; have := HNH.out.1; omega
        · rw [hln]; unfold cd; rw [if_neg s0, hln, hs3]; have := HQ.out.2.1; omega
        · have := HY.out s hs1 s0
          rw [hln, hs3] at this
          exact this
      have hpb : cS zs l + d < 288 := by
        have h1 : cS zs (l + 1) ≤ cS zs 16 := cS_mono zs (by omega)
        have h2 := HSS.out
        have h3 := HTT.out
        unfold tot at h3
        omega
      have cs := arr_cell hb (i := 1 + (16 + (cS zs l + d))) (by simp [dl, tbl_len hS]; omega)
      rw [dl_get, tbl_sym hS (by omega), HSF.out.2.2, show 1 + (16 + (cS zs l + d)) = 17 + (cS zs l + d) by omega] at cs
      clear HRK hs1 hs2 hs3
      generalize cC zs l = c at *
      generalize cS zs l = f at *
      obtain ⟨p, hp⟩ : ∃ p, p = f + d := ⟨_, rfl⟩
      have r1 : (f : Int) + (d : Int) = (p : Int) := by omega
      have hpi : (p : Int) < 288 := by omega
      rw [← hp] at cs
      have hpb2 : p < 288 := by omega
      clear hp hpb
      have hdci : (d : Int) < (c : Int) := by omega
      go_wp2_with fail
      try rw [Exit.noGoto_ret]
      go_ret3
      exact ⟨s, l, 0, rfl, .inl ⟨s, HSF.out.1, rfl, by rw [HSF.out.2.1], rfl⟩, rfl⟩
    · have HPA : Hid (Past zs H l) := fun j hj => by
        rcases Nat.lt_or_ge j l with c | c
        · exact HQ.out.2.2 j c
        · obtain rfl : j = l := by omega
          have := HQ.out.2.1
          omega
      have hln2 := HNH.out.1
      by_cases hft : cS zs l + cC zs l = tot zs
      · have HFT : Hid _ := end_none HLK.out (show l ≤ H.length by omega) HPA.out (HSS.out.trans hft)
        have hfti : (cS zs l : Int) + (cC zs l : Int) = (tot zs : Int) := by omega
        clear hft
        generalize cC zs l = c at *
        generalize cS zs l = f at *
        generalize tot zs = T at *
        have hdci : ¬ (d : Int) < (c : Int) := by omega
        go_wp2_with fail
        try rw [Exit.noGoto_ret]
        go_ret3
        exact ⟨0, 0, 54, rfl, .inr (.inr ⟨HFT.out.1, HFT.out.2, rfl, rfl, rfl⟩), rfl⟩
      · have hfti : ¬ (cS zs l : Int) + (cC zs l : Int) = (tot zs : Int) := by omega
        by_cases hlen : l = n
        · have HFM : Hid ((∀ s, ¬ Beg zs H s) ∧ May zs H) := by
            have hl14 : l < 15 := by
              rcases Nat.lt_or_ge l 15 with c | c
              · exact c
              · exfalso
                apply hft
                rw [← HSS.out, show l = 15 by omega]
                rfl
            have e : H.length = l := by have := HNH.out.2 (by omega); omega
            have h1 := HPA.out
            rw [← e] at h1
            exact end_may HLK.out HW.out (by omega) h1 (by rw [e, HSS.out]; exact hft)
          subst hlen
          clear hft
          generalize cC zs l = c at *
          generalize cS zs l = f at *
          generalize tot zs = T at *
          have hdci : ¬ (d : Int) < (c : Int) := by omega
          go_wp2_with fail
          try rw [Exit.noGoto_ret]
          go_ret3
          exact ⟨0, 0, 0, rfl, .inr (.inl ⟨HFM.out.1, HFM.out.2, rfl, rfl, rfl⟩), rfl⟩
        · have hlnlt : l < n := by omega
          have hlni : ¬ (l : Int) = (n : Int) := by omega
          have HBT := bit_at (L := H.take n) (l := l) (by simp; omega)
          have eg : (H.take n).getD l false = H.getD l false := by simp [List.getD, hlnlt]
          rw [eg] at HBT
          have HVS : Hid (vB H (l + 1) = 2 * vB H l + (H.getD l false).toNat) := vB_succ (by omega)
          have hbt2 : (H.getD l false).toNat < 2 := Bool.toNat_lt _
          generalize (H.getD l false).toNat = bt at *
          have hrow : num (H.take n) < 32768 := Nat.lt_of_lt_of_le (num_lt _) (Nat.pow_le_pow_right (n := 2) (j := 15) (by decide) (by simp; omega))
          have hsh := shr_nat (num (H.take n)) l
          generalize num (H.take n) = row at *
          have hrd : row / 2 ^ l ≤ row := Nat.div_le_self _ _
          obtain ⟨rd, hrde⟩ : ∃ rd, rd = row / 2 ^ l := ⟨_, rfl⟩
          rw [← hrde] at hsh HBT hrd
          have hand : bits .and .u64 (rd : Int) 1 = (bt : Int) := by rw [and_one' rd (by omega), HBT]
          obtain ⟨e, he⟩ : ∃ e, e = d - cC zs l := ⟨_, rfl⟩
          have HE : Hid (e + cC zs l = d) := by show _ = _; omega
          have re : (d : Int) - (cC zs l : Int) = (e : Int) := by have := HE.out; omega
          have hor := or_bit64 (x := e) hbt2 (by omega)
          obtain ⟨y, hy⟩ : ∃ y, y = 2 * e + bt := ⟨_, rfl⟩
          rw [← hy] at hor
          have HYY : Hid (y = 2 * e + bt) := hy
          have heb : e ≤ 32768 := by omega
          have hyb : y ≤ 100000 := by omega
          clear hy he hrde HBT eg hft
          have hdci : ¬ (d : Int) < (cC zs l : Int) := by omega
          have HNX : Hid (y + cF zs (l + 1) = vB H (l + 1)) := by
            have h1 := HQ.out.2.1
            have h2 := HCF.out
            have h3 := HVS.out
            have h4 := HE.out
            have h5 := HYY.out
            show _ = _
            omega
          generalize cC zs l = c at *
          have rf : (cS zs l : Int) + (c : Int) = (cS zs (l + 1) : Int) := by have := HSS.out; omega
          have hsb2 : cS zs (l + 1) ≤ 1000 := by have := HSS.out; omega
          obtain ⟨f2, hf2⟩ : ∃ f2, f2 = cS zs (l + 1) := ⟨_, rfl⟩
          have HF2 : Hid (f2 = cS zs (l + 1)) := hf2
          rw [← hf2] at rf hsb2
          clear hf2
          generalize cS zs l = f at *
          generalize tot zs = T at *
          rw [rf] at hfti
          go_wp2_with fail
          go_roundw
          case rel => exact ⟨l + 1, y, by omega, rfl, rfl, rfl, rfl, by rw [HF2.out], by go_num, trivial, (⟨by omega, HNX.out, fun j hj => HPA.out j (by omega)⟩ : _ ∧ _)⟩
          case measure => simp [intOf]; omega
end Go.Proofs.YtiankbopnjhhaaaGreatDoor

namespace Go.Proofs.YtiankbopnjhhaaaGreatDoor
open Go.RowKit
set_option linter.unusedVariables false

/-! The landed block: within. -/
/-- Spans lie there, and a closure's two variables. -/
structure Sp9 (w : World) (P q1 q2 n : Nat) (S : List Int) (v : Int) : Prop where
  c1 : w.cell? ⟨q1, 0, none⟩ = some (.slice (some ⟨P, 0, none⟩) n n)
  c2 : w.cell? ⟨q2, 0, none⟩ = some (.int .i64 v)
  at_ : ∀ i, i < n → w.cell? ⟨P, i * 2, none⟩ = some (.int .i64 (S.getD (i * 2) 0))
set_option maxRecDepth 100000 in
set_option maxHeartbeats 1000000 in
theorem pcl9 (P q1 q2 n : Nat) (S : List Int) (v : Int) (i : Nat) (w : World) (h : Sp9 w P q1 q2 n S v) (hi : i < n) (hn : n ≤ 100) :
    Calls Tryz.prog 65 #[.int .i64 (i : Int), .pointer (some ⟨q1, 0, none⟩), .pointer (some ⟨q2, 0, none⟩)] w fun e w' => e = .returned (.bool (decide (v < S.getD (i * 2) 0))) ∧ w' = w.drew := by
  have c1 := h.c1
  have c2 := h.c2
  have c3 := h.at_ i hi
  have hii : (i : Int) < (n : Int) := by omega
  have hi0 : (0 : Int) ≤ (i : Int) := by omega
  generalize S.getD (i * 2) 0 = z at *
  clear h
  go_enter Tryz.func65, Tryz.ntmps65
  go_wp2_with fail
  go_region_held3 (fun w' => w'.cell? ⟨q1, 0, none⟩ = some (.slice (some ⟨P, 0, none⟩) n n) ∧ w'.cell? ⟨q2, 0, none⟩ = some (.int .i64 v) ∧ w'.cell? ⟨P, i * 2, none⟩ = some (.int .i64 z)) (exact ⟨c1, c2, c3⟩) (fail)
  go_wp2_with fail
  go_ret
  exact ⟨rfl, rfl⟩
set_option maxRecDepth 100000 in
set_option maxHeartbeats 2000000 in
theorem psrch9 (P q1 q2 n : Nat) (S : List Int) (v : Int) (w : World) (h : Sp9 w P q1 q2 n S v) (hn : n ≤ 100) (hm : ∀ a b, a ≤ b → b < n → S.getD (a * 2) 0 ≤ S.getD (b * 2) 0) :
    Calls Tryz.prog 64 #[.int .i64 (n : Int), .func (.func 65) #[] #[.pointer (some ⟨q1, 0, none⟩), .pointer (some ⟨q2, 0, none⟩)]] w fun e w' => ∃ r : Nat, r ≤ n ∧ (∀ k, k < r → S.getD (k * 2) 0 ≤ v) ∧ (∀ k, r ≤ k → k < n → v < S.getD (k * 2) 0) ∧ e = .returned (.int .i64 (r : Int)) ∧ Below w.heap.size w w' := by
  have HM : Hid (∀ a b, a ≤ b → b < n → S.getD (a * 2) 0 ≤ S.getD (b * 2) 0) := hm
  have HSP : Hid (Sp9 w P q1 q2 n S v) := h
  clear hm h
  go_enter Tryz.func64, Tryz.ntmps64
  go_wp2_with fail
  go_loopw [5, 6] (fun ti tj wr => ∃ i j : Nat, i ≤ j ∧ j ≤ n ∧ ti = .int .i64 (i : Int) ∧ tj = .int .i64 (j : Int) ∧ Hid (∀ k, k < i → S.getD (k * 2) 0 ≤ v) ∧ Hid (∀ k, j ≤ k → k < n → v < S.getD (k * 2) 0) ∧ Sp9 wr P q1 q2 n S v ∧ Below w.heap.size w wr) (fun ti tj _ => (intOf tj).toNat - (intOf ti).toNat)
  case atStart => exact ⟨0, n, by omega, by omega, rfl, rfl, fun k h => by omega, fun k h1 h2 => by omega, HSP.out, Below.refl _ _⟩
  case round =>
    obtain ⟨i, j, hij, hjn, rfl, rfl, H1, H2, SP, BR⟩ := hrel
    by_cases hlt : i < j
    · have hlti : (i : Int) < (j : Int) := by omega
      obtain ⟨m, hm⟩ : ∃ m, m = (i + j) / 2 := ⟨_, rfl⟩
      have hmi : ((i : Int) + (j : Int)) / 2 = (m : Int) := by omega
      have him : i ≤ m ∧ m < j := by omega
      have CC := pcl9 P q1 q2 n S v m wr SP (by omega) hn
      have i1 : IntKind.i64.wrap ((i : Int) + (j : Int)) = (i : Int) + (j : Int) := IntWalk.i64_in _ (by omega)
      have HSR : Hid (Sp9 wr P q1 q2 n S v) := SP
      clear SP hm
      go_wp2_with fail
      refine CC.mono ?_
      rintro e w2 ⟨rfl, hw2⟩
      have SP2 : Sp9 w2 P q1 q2 n S v := by rw [hw2]; exact ⟨HSR.out.c1, HSR.out.c2, HSR.out.at_⟩
      have B2 : Below w.heap.size w w2 := by rw [hw2]; exact BR.drew
      clear CC hw2
      by_cases hz : v < S.getD (m * 2) 0
      · rw [decide_eq_true hz]
        have HG : Hid (∀ k, m ≤ k → k < n → v < S.getD (k * 2) 0) := fun k h1 h2 => by have := HM.out m k h1 h2; omega
        clear hz
        go_wp2_with fail
        go_roundw
        case rel => exact ⟨i, m, by omega, by omega, rfl, rfl, H1, HG, SP2, B2⟩
        case measure => simp [intOf]; omega
      · rw [decide_eq_false hz]
        have HG : Hid (∀ k, k < m + 1 → S.getD (k * 2) 0 ≤ v) := fun k h1 => by have := HM.out k m (by omega) (by omega); omega
        have i2 : IntKind.i64.wrap ((m : Int) + 1) = (m : Int) + 1 := IntWalk.i64_in _ (by omega)
        clear hz
        go_wp2_with fail
        go_roundw
        case rel => exact ⟨m + 1, j, by omega, by omega, rfl, rfl, HG, H2, SP2, B2⟩
        case measure => simp [intOf]; omega
    · have hlti : ¬ (i : Int) < (j : Int) := by omega
      obtain rfl : i = j := by omega
      go_wp2_with fail
      go_ret
      exact ⟨i, by omega, H1.out, H2.out, rfl, BR⟩
set_option maxRecDepth 100000 in
set_option maxHeartbeats 2000000 in
theorem pwith9 (P n : Nat) (S : List Int) (v : Int) (w : World) (hS : ∀ i, i < n → w.cell? ⟨P, i * 2, none⟩ = some (.int .i64 (S.getD (i * 2) 0))) (hn : n ≤ 100) (hn1 : 1 ≤ n) (hm : ∀ a b, a ≤ b → b < n → S.getD (a * 2) 0 ≤ S.getD (b * 2) 0) (hv : S.getD 0 0 ≤ v) :
    Calls Tryz.prog 43 #[.slice (some ⟨P, 0, none⟩) n n, .int .i64 v] w fun e w' => ∃ r : Nat, r < n ∧ S.getD (r * 2) 0 ≤ v ∧ (∀ k, r < k → k < n → v < S.getD (k * 2) 0) ∧ e = .returned (.int .i64 (r : Int)) ∧ Below w.heap.size w w' := by
  have hPl : P < w.heap.size := World.block_lt_of_cell? w _ (hS 0 (by omega))
  have hmf : ∀ (fn : Fn) (first cap : Array Value) (w : World), (Instr.makeFunc fn first cap).run Tryz.prog w = .ok (.func fn first cap) w := fun _ _ _ _ => rfl
  have HS : Hid (∀ i, i < n → w.cell? ⟨P, i * 2, none⟩ = some (.int .i64 (S.getD (i * 2) 0))) := hS
  have HM : Hid (∀ a b, a ≤ b → b < n → S.getD (a * 2) 0 ≤ S.getD (b * 2) 0) := hm
  have HV : Hid (S.getD 0 0 ≤ v) := hv
  clear hS hm hv
  go_enter Tryz.func43, Tryz.ntmps43
  go_wp2_with fail
  obtain ⟨W, hW⟩ : ∃ W, W = (w.alloc (.cells #[.slice (some ⟨P, 0, none⟩) n n] 92)).alloc (.cells #[.int .i64 v] 3) := ⟨_, rfl⟩
  rw [← hW]
  have BW : Below w.heap.size w W := by rw [hW]; exact (below_box8 w _).trans ((below_box8 _ _).mono (by simp))
  have g0 : W.heap[w.heap.size]? = some (.cells #[.slice (some ⟨P, 0, none⟩) n n] 92 (0, 0)) := by
    rw [hW, heap_alloc_old _ _ (by simp)]
    exact heap_alloc_new _ _
  have g1 : W.heap[w.heap.size + 1]? = some (.cells #[.int .i64 v] 3 (0, 0)) := by
    have := heap_alloc_new (w.alloc (.cells #[.slice (some ⟨P, 0, none⟩) n n] 92)) (.cells #[.int .i64 v] 3)
    rw [show (w.alloc (.cells #[.slice (some ⟨P, 0, none⟩) n n] 92)).heap.size = w.heap.size + 1 by simp, ← hW] at this
    exact this
  have SP : Sp9 W P w.heap.size (w.heap.size + 1) n S v := ⟨(cell_of_row W _ 0 _ _ _ g0).trans rfl, (cell_of_row W _ 0 _ _ _ g1).trans rfl, fun i hi => (BW.cell (p := ⟨P, i * 2, none⟩) hPl).trans (HS.out i hi)⟩
  have CS := psrch9 P w.heap.size (w.heap.size + 1) n S v W SP hn HM.out
  clear hW g0 g1 SP hmf
  refine CS.mono ?_
  rintro e w2 ⟨r0, hr0, h1, h2, rfl, b2⟩
  have hr1 : 1 ≤ r0 := by
    by_cases h : r0 = 0
    · have := h2 0 (by omega) (by omega)
      have hv := HV.out
      rw [Nat.zero_mul] at this
      omega
    · omega
  have HA : Hid (∃ r : Nat, r < n ∧ S.getD (r * 2) 0 ≤ v ∧ (∀ k, r < k → k < n → v < S.getD (k * 2) 0) ∧ (r0 : Int) - 1 = (r : Int)) := ⟨r0 - 1, by omega, h1 (r0 - 1) (by omega), fun k q1 q2 => h2 k (by omega) q2, by omega⟩
  have B2 : Below w.heap.size w w2 := BW.trans (b2.mono BW.size)
  have i1 : IntKind.i64.wrap ((r0 : Int) - 1) = (r0 : Int) - 1 := IntWalk.i64_in _ (by omega)
  clear CS h1 h2 b2 BW
  go_wp2_with fail
  go_ret
  obtain ⟨r, q1, q2, q3, q4⟩ := HA.out
  exact ⟨r, q1, q2, q3, by rw [← q4]; rfl, B2⟩
end Go.Proofs.YtiankbopnjhhaaaGreatDoor

namespace Go.Proofs.YtiankbopnjhhaaaGreatDoor
open Go.RowKit
set_option linter.unusedVariables false

/-! The landed block: symbols. -/
theorem results_tmp49 {P : Program} {fn : Func} {t u v x : Tmp} (h : fn.results = #[.tmp t, .tmp u, .tmp v, .tmp x]) (tmps : Array Value) (w : World) : (results fn tmps).run P w = .ok (.tuple #[tmps.getD t undef, tmps.getD u undef, tmps.getD v undef, tmps.getD x undef]) w := by
  simp [results, h, go_sem]
set_option maxRecDepth 100000 in
theorem mono_plsy9 : ∀ b a : Fin 29, a.val ≤ b.val → lnS9.getD (a.val * 2) 0 ≤ lnS9.getD (b.val * 2) 0 := by decide
set_option maxRecDepth 100000 in
theorem bd_plsy9 : ∀ a : Fin 29, (0 ≤ lnS9.getD (a.val * 2) 0 ∧ lnS9.getD (a.val * 2) 0 ≤ 32768) ∧ 0 ≤ lnS9.getD (a.val * 2 + 1) 0 ∧ lnS9.getD (a.val * 2 + 1) 0 ≤ 13 := by decide
set_option maxRecDepth 100000 in
set_option maxHeartbeats 4000000 in
theorem plsy9_no (x : Int) (h : x < 3 ∨ 258 < x) (w : World) :
    Calls Tryz.prog 9 #[.int .i64 x] w fun e w' => e = .returned (.tuple #[.int .i64 0, .int .i64 0, .int .i64 0, .int .i64 1]) ∧ w' = w := by
  by_cases h1 : x < 3
  · go_enter Tryz.func9, Tryz.ntmps9
    go_wp2_with fail
    refine bodyPost_ret (results_tmp49 rfl _ _) rfl ?_
    exact ⟨rfl, rfl⟩
  · have h2 : 258 < x := by omega
    go_enter Tryz.func9, Tryz.ntmps9
    go_wp2_with fail
    refine bodyPost_ret (results_tmp49 rfl _ _) rfl ?_
    exact ⟨rfl, rfl⟩
set_option maxRecDepth 100000 in
set_option maxHeartbeats 4000000 in
theorem plsy9_ok (x : Int) (h1 : 3 ≤ x) (h2 : x ≤ 258) (w : World) :
    Calls Tryz.prog 9 #[.int .i64 x] w fun e w' => ∃ i : Nat, i < 29 ∧ lnS9.getD (i * 2) 0 ≤ x ∧ (∀ k, i < k → k < 29 → x < lnS9.getD (k * 2) 0) ∧ e = .returned (.tuple #[.int .i64 (257 + (i : Int)), .int .i64 (lnS9.getD (i * 2 + 1) 0), .int .i64 (x - lnS9.getD (i * 2) 0), .int .i64 0]) ∧ Below w.heap.size w w' := by
  have j1 : ¬ x < 3 := by omega
  have j2 : ¬ (258 : Int) < x := by omega
  go_enter Tryz.func9, Tryz.ntmps9
  go_wp2_with fail
  refine (plnsp9 w).mono ?_
  rintro e w1 ⟨rfl, b1⟩
  go_wp2_with (refine wpList_store_row rfl 89 (.tmp 6) (.tmp 14) rfl w1.heap.size (arr lnS9) rfl rfl _ _ (heap_alloc_new w1 _) info_plnsp99 (by kernel_rfl) (arr_one _) ?_)
  have q0 := setRow_heap _ w1.heap.size _ (arr lnS9) _ _ (heap_alloc_new w1 (.cells (Array.replicate 58 (.int .i64 0)) 89))
  have B0 : Below w1.heap.size w1 ((w1.alloc (.cells (Array.replicate 58 (.int .i64 0)) 89)).setRow w1.heap.size (arr lnS9)) := ((Below.refl w1.heap.size w1).alloc (Nat.le_refl _) _).grown (grown_setRow _ _ _) (by simp) (fun j e => by cases e; exact Nat.le_refl _)
  have HW : Hid (∃ W2, W2 = (w1.alloc (.cells (Array.replicate 58 (.int .i64 0)) 89)).setRow w1.heap.size (arr lnS9)) := ⟨_, rfl⟩
  obtain ⟨W2, hW2⟩ := HW.out
  rw [← hW2] at q0 B0
  show Calls Tryz.prog 43 _ ((w1.alloc (.cells (Array.replicate 58 (.int .i64 0)) 89)).setRow w1.heap.size (arr lnS9)) _
  rw [← hW2]
  clear HW hW2
  have cells : ∀ i, i < 58 → W2.cell? ⟨w1.heap.size, i, none⟩ = some (.int .i64 (lnS9.getD i 0)) := fun i hi => by
    have hl : i < lnS9.length := hi
    refine (cell_of_row W2 _ i _ _ _ q0).trans ?_
    simp [arr, List.getD, hl]
  obtain ⟨P, hP⟩ : ∃ P, P = w1.heap.size := ⟨_, rfl⟩
  rw [← hP] at q0 cells
  rw [← hP]
  have HPW : Hid (P = w1.heap.size) := hP
  clear hP
  have HB : Hid (Below w.heap.size w W2) := b1.trans (B0.mono b1.size)
  have hPW : P < W2.heap.size := (Array.getElem?_eq_some_iff.1 q0).1
  have HCE : Hid (∀ i, i < 58 → W2.cell? ⟨P, i, none⟩ = some (.int .i64 (lnS9.getD i 0))) := cells
  have CW := pwith9 P 29 lnS9 x W2 (fun i hi => cells (i * 2) (by omega)) (by omega) (by omega) (fun a b h1 h2 => mono_plsy9 ⟨b, h2⟩ ⟨a, by omega⟩ h1) (by show 3 ≤ x; omega)
  clear q0 B0 b1 cells
  refine CW.mono ?_
  rintro e w3 ⟨i, hi, s1, s2, rfl, b3⟩
  have d0 := (b3.cell (p := ⟨P, i * 2, none⟩) hPW).trans (HCE.out (i * 2) (by omega))
  have d1 := (b3.cell (p := ⟨P, i * 2 + 1, none⟩) hPW).trans (HCE.out (i * 2 + 1) (by omega))
  have bb := bd_plsy9 ⟨i, hi⟩
  simp only at bb
  have HA : Hid (lnS9.getD (i * 2) 0 ≤ x ∧ (∀ k, i < k → k < 29 → x < lnS9.getD (k * 2) 0)) := ⟨s1, s2⟩
  have B3 : Below w.heap.size w w3 := HB.out.trans (b3.mono HB.out.size)
  obtain ⟨z0, hz0⟩ : ∃ z, z = lnS9.getD (i * 2) 0 := ⟨_, rfl⟩
  obtain ⟨z1, hz1⟩ : ∃ z, z = lnS9.getD (i * 2 + 1) 0 := ⟨_, rfl⟩
  have HZ : Hid (z0 = lnS9.getD (i * 2) 0 ∧ z1 = lnS9.getD (i * 2 + 1) 0) := ⟨hz0, hz1⟩
  rw [← hz0] at d0 bb s1
  rw [← hz1] at d1 bb
  have hii : (i : Int) < 29 := by omega
  have hi0 : (0 : Int) ≤ (i : Int) := by omega
  have i2 : IntKind.i64.wrap (x - z0) = x - z0 := IntWalk.i64_in _ (by omega)
  have i3 : IntKind.i64.wrap (257 + (i : Int)) = 257 + (i : Int) := IntWalk.i64_in _ (by omega)
  clear CW s2 b3 hz0 hz1
  go_wp2_with fail
  try rw [← HPW.out]
  go_region_held3 (fun w' => w'.cell? ⟨P, i * 2, none⟩ = some (.int .i64 z0) ∧ w'.cell? ⟨P, i * 2 + 1, none⟩ = some (.int .i64 z1)) (exact ⟨d0, d1⟩) (fail)
  go_wp2_with fail
  refine bodyPost_ret (results_tmp49 rfl _ _) rfl ?_
  refine ⟨i, hi, HA.out.1, HA.out.2, ?_, B3.drew⟩
  rw [← HZ.out.1, ← HZ.out.2]
  rfl
set_option maxRecDepth 100000 in
theorem mono_pdsy9 : ∀ b a : Fin 30, a.val ≤ b.val → dsS9.getD (a.val * 2) 0 ≤ dsS9.getD (b.val * 2) 0 := by decide
set_option maxRecDepth 100000 in
theorem bd_pdsy9 : ∀ a : Fin 30, (0 ≤ dsS9.getD (a.val * 2) 0 ∧ dsS9.getD (a.val * 2) 0 ≤ 32768) ∧ 0 ≤ dsS9.getD (a.val * 2 + 1) 0 ∧ dsS9.getD (a.val * 2 + 1) 0 ≤ 13 := by decide
set_option maxRecDepth 100000 in
set_option maxHeartbeats 4000000 in
theorem pdsy9_no (x : Int) (h : x < 1 ∨ 32768 < x) (w : World) :
    Calls Tryz.prog 11 #[.int .i64 x] w fun e w' => e = .returned (.tuple #[.int .i64 0, .int .i64 0, .int .i64 0, .int .i64 1]) ∧ w' = w := by
  by_cases h1 : x < 1
  · go_enter Tryz.func11, Tryz.ntmps11
    go_wp2_with fail
    refine bodyPost_ret (results_tmp49 rfl _ _) rfl ?_
    exact ⟨rfl, rfl⟩
  · have h2 : 32768 < x := by omega
    go_enter Tryz.func11, Tryz.ntmps11
    go_wp2_with fail
    refine bodyPost_ret (results_tmp49 rfl _ _) rfl ?_
    exact ⟨rfl, rfl⟩
set_option maxRecDepth 100000 in
set_option maxHeartbeats 4000000 in
theorem pdsy9_ok (x : Int) (h1 : 1 ≤ x) (h2 : x ≤ 32768) (w : World) :
    Calls Tryz.prog 11 #[.int .i64 x] w fun e w' => ∃ i : Nat, i < 30 ∧ dsS9.getD (i * 2) 0 ≤ x ∧ (∀ k, i < k → k < 30 → x < dsS9.getD (k * 2) 0) ∧ e = .returned (.tuple #[.int .i64 ((i : Int)), .int .i64 (dsS9.getD (i * 2 + 1) 0), .int .i64 (x - dsS9.getD (i * 2) 0), .int .i64 0]) ∧ Below w.heap.size w w' := by
  have j1 : ¬ x < 1 := by omega
  have j2 : ¬ (32768 : Int) < x := by omega
  go_enter Tryz.func11, Tryz.ntmps11
  go_wp2_with fail
  refine (pdssp9 w).mono ?_
  rintro e w1 ⟨rfl, b1⟩
  go_wp2_with (refine wpList_store_row rfl 94 (.tmp 6) (.tmp 14) rfl w1.heap.size (arr dsS9) rfl rfl _ _ (heap_alloc_new w1 _) info_pdssp99 (by kernel_rfl) (arr_one _) ?_)
  have q0 := setRow_heap _ w1.heap.size _ (arr dsS9) _ _ (heap_alloc_new w1 (.cells (Array.replicate 60 (.int .i64 0)) 94))
  have B0 : Below w1.heap.size w1 ((w1.alloc (.cells (Array.replicate 60 (.int .i64 0)) 94)).setRow w1.heap.size (arr dsS9)) := ((Below.refl w1.heap.size w1).alloc (Nat.le_refl _) _).grown (grown_setRow _ _ _) (by simp) (fun j e => by cases e; exact Nat.le_refl _)
  have HW : Hid (∃ W2, W2 = (w1.alloc (.cells (Array.replicate 60 (.int .i64 0)) 94)).setRow w1.heap.size (arr dsS9)) := ⟨_, rfl⟩
  obtain ⟨W2, hW2⟩ := HW.out
  rw [← hW2] at q0 B0
  show Calls Tryz.prog 43 _ ((w1.alloc (.cells (Array.replicate 60 (.int .i64 0)) 94)).setRow w1.heap.size (arr dsS9)) _
  rw [← hW2]
  clear HW hW2
  have cells : ∀ i, i < 60 → W2.cell? ⟨w1.heap.size, i, none⟩ = some (.int .i64 (dsS9.getD i 0)) := fun i hi => by
    have hl : i < dsS9.length := hi
    refine (cell_of_row W2 _ i _ _ _ q0).trans ?_
    simp [arr, List.getD, hl]
  obtain ⟨P, hP⟩ : ∃ P, P = w1.heap.size := ⟨_, rfl⟩
  rw [← hP] at q0 cells
  rw [← hP]
  have HPW : Hid (P = w1.heap.size) := hP
  clear hP
  have HB : Hid (Below w.heap.size w W2) := b1.trans (B0.mono b1.size)
  have hPW : P < W2.heap.size := (Array.getElem?_eq_some_iff.1 q0).1
  have HCE : Hid (∀ i, i < 60 → W2.cell? ⟨P, i, none⟩ = some (.int .i64 (dsS9.getD i 0))) := cells
  have CW := pwith9 P 30 dsS9 x W2 (fun i hi => cells (i * 2) (by omega)) (by omega) (by omega) (fun a b h1 h2 => mono_pdsy9 ⟨b, h2⟩ ⟨a, by omega⟩ h1) (by show 1 ≤ x; omega)
  clear q0 B0 b1 cells
  refine CW.mono ?_
  rintro e w3 ⟨i, hi, s1, s2, rfl, b3⟩
  have d0 := (b3.cell (p := ⟨P, i * 2, none⟩) hPW).trans (HCE.out (i * 2) (by omega))
  have d1 := (b3.cell (p := ⟨P, i * 2 + 1, none⟩) hPW).trans (HCE.out (i * 2 + 1) (by omega))
  have bb := bd_pdsy9 ⟨i, hi⟩
  simp only at bb
  have HA : Hid (dsS9.getD (i * 2) 0 ≤ x ∧ (∀ k, i < k → k < 30 → x < dsS9.getD (k * 2) 0)) := ⟨s1, s2⟩
  have B3 : Below w.heap.size w w3 := HB.out.trans (b3.mono HB.out.size)
  obtain ⟨z0, hz0⟩ : ∃ z, z = dsS9.getD (i * 2) 0 := ⟨_, rfl⟩
  obtain ⟨z1, hz1⟩ : ∃ z, z = dsS9.getD (i * 2 + 1) 0 := ⟨_, rfl⟩
  have HZ : Hid (z0 = dsS9.getD (i * 2) 0 ∧ z1 = dsS9.getD (i * 2 + 1) 0) := ⟨hz0, hz1⟩
  rw [← hz0] at d0 bb s1
  rw [← hz1] at d1 bb
  have hii : (i : Int) < 30 := by omega
  have hi0 : (0 : Int) ≤ (i : Int) := by omega
  have i2 : IntKind.i64.wrap (x - z0) = x - z0 := IntWalk.i64_in _ (by omega)
  clear CW s2 b3 hz0 hz1
  go_wp2_with fail
  try rw [← HPW.out]
  go_region_held3 (fun w' => w'.cell? ⟨P, i * 2, none⟩ = some (.int .i64 z0) ∧ w'.cell? ⟨P, i * 2 + 1, none⟩ = some (.int .i64 z1)) (exact ⟨d0, d1⟩) (fail)
  go_wp2_with fail
  refine bodyPost_ret (results_tmp49 rfl _ _) rfl ?_
  refine ⟨i, hi, HA.out.1, HA.out.2, ?_, B3.drew⟩
  rw [← HZ.out.1, ← HZ.out.2]
  rfl
end Go.Proofs.YtiankbopnjhhaaaGreatDoor

namespace Go.Proofs.YtiankbopnjhhaaaGreatDoor
open Go.RowKit
set_option linter.unusedVariables false

/-! The landed block: what symbols stand for. -/
theorem ext29 (L : List Int) (i : Nat) (h : i * 2 + 1 < L.length) : (arr L).extract (i * 2) (i * 2 + 2) = #[.int .i64 (L.getD (i * 2) 0), .int .i64 (L.getD (i * 2 + 1) 0)] := by
  refine Array.ext (by simp [arr]; omega) fun j h1 h2 => ?_
  have hj : j < 2 := by simpa using h2
  obtain rfl | rfl : j = 0 ∨ j = 1 := by omega
  · simp [arr, List.getD, show i * 2 < L.length by omega]
  · simp [arr, List.getD, h]
set_option maxRecDepth 100000 in
set_option maxHeartbeats 4000000 in
theorem plof9_no (x : Int) (h : x < 257 ∨ 286 ≤ x) (w : World) :
    Calls Tryz.prog 13 #[.int .i64 x] w fun e w' => e = .returned (.tuple #[.int .i64 0, .int .i64 0, .int .i64 1]) ∧ w' = w := by
  by_cases h1 : x < 257
  · go_enter Tryz.func13, Tryz.ntmps13
    go_wp2_with fail
    go_ret3
    exact ⟨rfl, rfl⟩
  · have h2 : (286 : Int) ≤ x := by omega
    go_enter Tryz.func13, Tryz.ntmps13
    go_wp2_with fail
    go_ret3
    exact ⟨rfl, rfl⟩
set_option maxRecDepth 100000 in
set_option maxHeartbeats 4000000 in
theorem plof9_ok (x : Int) (i : Nat) (hi : (i : Int) = x - 257) (h : i < 29) (w : World) :
    Calls Tryz.prog 13 #[.int .i64 x] w fun e w' => e = .returned (.tuple #[.int .i64 (lnS9.getD (i * 2) 0), .int .i64 (lnS9.getD (i * 2 + 1) 0), .int .i64 0]) ∧ Below w.heap.size w w' := by
  have j1 : ¬ x < 257 := by omega
  have j2 : ¬ (286 : Int) ≤ x := by omega
  have hix : ∀ W, (Instr.index 89 (.agg (arr lnS9)) (.int .i64 (x - 257))).run Tryz.prog W = .ok (.agg #[.int .i64 (lnS9.getD (i * 2) 0), .int .i64 (lnS9.getD (i * 2 + 1) 0)]) W := fun W => by
    rw [← hi, ← ext29 lnS9 i (by show i * 2 + 1 < 58; omega)]
    exact run_index9 W 89 88 29 2 _ _ i .i64 h Tryz.underlying89 Tryz.underlying88 (by kernel_rfl)
  generalize lnS9.getD (i * 2) 0 = z0 at *
  generalize lnS9.getD (i * 2 + 1) 0 = z1 at *
  go_enter Tryz.func13, Tryz.ntmps13
  go_wp2_with fail
  refine (plnsp9 w).mono ?_
  rintro e w1 ⟨rfl, b1⟩
  go_wp2_with fail
  have g0 := heap_alloc_new w1 (.cells #[.int .i64 z0, .int .i64 z1] 88)
  have B1 : Below w.heap.size w (w1.alloc (.cells #[.int .i64 z0, .int .i64 z1] 88)) := b1.alloc b1.size _
  generalize w1.alloc (.cells #[.int .i64 z0, .int .i64 z1] 88) = w2 at *
  have d0 : w2.cell? ⟨w1.heap.size, 0, none⟩ = some (.int .i64 z0) := (cell_of_row w2 _ 0 _ _ _ g0).trans rfl
  have d1 : w2.cell? ⟨w1.heap.size, 1, none⟩ = some (.int .i64 z1) := (cell_of_row w2 _ 1 _ _ _ g0).trans rfl
  clear hix g0
  go_region_held3 (fun w' => w'.cell? ⟨w1.heap.size, 0, none⟩ = some (.int .i64 z0) ∧ w'.cell? ⟨w1.heap.size, 1, none⟩ = some (.int .i64 z1)) (exact ⟨d0, d1⟩) (fail)
  go_wp2_with fail
  go_ret3
  exact ⟨rfl, B1.drew⟩
set_option maxRecDepth 100000 in
set_option maxHeartbeats 4000000 in
theorem pdof9_no (x : Int) (h : x < 0 ∨ 30 ≤ x) (w : World) :
    Calls Tryz.prog 15 #[.int .i64 x] w fun e w' => e = .returned (.tuple #[.int .i64 0, .int .i64 0, .int .i64 1]) ∧ w' = w := by
  by_cases h1 : x < 0
  · go_enter Tryz.func15, Tryz.ntmps15
    go_wp2_with fail
    go_ret3
    exact ⟨rfl, rfl⟩
  · have h2 : (30 : Int) ≤ x := by omega
    go_enter Tryz.func15, Tryz.ntmps15
    go_wp2_with fail
    go_ret3
    exact ⟨rfl, rfl⟩
set_option maxRecDepth 100000 in
set_option maxHeartbeats 4000000 in
theorem pdof9_ok (x : Int) (i : Nat) (hi : (i : Int) = x) (h : i < 30) (w : World) :
    Calls Tryz.prog 15 #[.int .i64 x] w fun e w' => e = .returned (.tuple #[.int .i64 (dsS9.getD (i * 2) 0), .int .i64 (dsS9.getD (i * 2 + 1) 0), .int .i64 0]) ∧ Below w.heap.size w w' := by
  have j1 : ¬ x < 0 := by omega
  have j2 : ¬ (30 : Int) ≤ x := by omega
  have hix : ∀ W, (Instr.index 94 (.agg (arr dsS9)) (.int .i64 (x))).run Tryz.prog W = .ok (.agg #[.int .i64 (dsS9.getD (i * 2) 0), .int .i64 (dsS9.getD (i * 2 + 1) 0)]) W := fun W => by
    rw [← hi, ← ext29 dsS9 i (by show i * 2 + 1 < 60; omega)]
    exact run_index9 W 94 88 30 2 _ _ i .i64 h Tryz.underlying94 Tryz.underlying88 (by kernel_rfl)
  generalize dsS9.getD (i * 2) 0 = z0 at *
  generalize dsS9.getD (i * 2 + 1) 0 = z1 at *
  go_enter Tryz.func15, Tryz.ntmps15
  go_wp2_with fail
  refine (pdssp9 w).mono ?_
  rintro e w1 ⟨rfl, b1⟩
  go_wp2_with fail
  have g0 := heap_alloc_new w1 (.cells #[.int .i64 z0, .int .i64 z1] 88)
  have B1 : Below w.heap.size w (w1.alloc (.cells #[.int .i64 z0, .int .i64 z1] 88)) := b1.alloc b1.size _
  generalize w1.alloc (.cells #[.int .i64 z0, .int .i64 z1] 88) = w2 at *
  have d0 : w2.cell? ⟨w1.heap.size, 0, none⟩ = some (.int .i64 z0) := (cell_of_row w2 _ 0 _ _ _ g0).trans rfl
  have d1 : w2.cell? ⟨w1.heap.size, 1, none⟩ = some (.int .i64 z1) := (cell_of_row w2 _ 1 _ _ _ g0).trans rfl
  clear hix g0
  go_region_held3 (fun w' => w'.cell? ⟨w1.heap.size, 0, none⟩ = some (.int .i64 z0) ∧ w'.cell? ⟨w1.heap.size, 1, none⟩ = some (.int .i64 z1)) (exact ⟨d0, d1⟩) (fail)
  go_wp2_with fail
  go_ret3
  exact ⟨rfl, B1.drew⟩
end Go.Proofs.YtiankbopnjhhaaaGreatDoor
