import Derived.Test.YtbjjddoeilhomaaPs
import Derived.Test.YtbjjddoeilhomaaPh
import Derived.Test.YtbjjddoeilhomaaPt
namespace Go.Proofs.Ytbjjddoeilhomaa
open Go.RowKit
set_option linter.unusedVariables false

/-! The landed scan: longest, by sort.Search. -/
/-- The closure's variables: the index, the text, and the longest so far. -/
structure LS15 (w W : World) (b : Nat) (pa : Option Addr) (m pc q1 q2 q3 v : Nat) : Prop where
  bl : Below w.heap.size w W
  c1 : W.cell? ⟨q1, 0, none⟩ = some (.pointer (some ⟨b, 0, none⟩))
  c2 : W.cell? ⟨q2, 0, none⟩ = some (.slice pa m pc)
  c3 : W.heap[q3]? = some (.cells #[.int .i64 (v : Int)] 3 (0, 0))
  q0 : w.heap.size ≤ q3
  n1 : q1 ≠ q3
  n2 : q2 ≠ q3
section
variable {w W W' : World} {b : Nat} {pa : Option Addr} {m pc q1 q2 q3 v : Nat}
theorem LS15.old (h : LS15 w W b pa m pc q1 q2 q3 v) (hb : Below W.heap.size W W') : LS15 w W' b pa m pc q1 q2 q3 v :=
  ⟨h.bl.trans (hb.mono h.bl.size), (hb.cell (p := ⟨q1, 0, none⟩) (World.block_lt_of_cell? W _ h.c1)).trans h.c1, (hb.cell (p := ⟨q2, 0, none⟩) (World.block_lt_of_cell? W _ h.c2)).trans h.c2, (hb.block q3 (Array.getElem?_eq_some_iff.1 h.c3).1).trans h.c3, h.q0, h.n1, h.n2⟩
theorem LS15.set (h : LS15 w W b pa m pc q1 q2 q3 v) (u : Nat) : LS15 w (W.setCell ⟨q3, 0, none⟩ (.int .i64 (u : Int))) b pa m pc q1 q2 q3 u :=
  ⟨below_set14 h.bl h.q0, (World.cell?_setCell_other _ _ _ _ (by intro e; simp only [Addr.mk.injEq] at e; exact h.n1 e.1.symm)).trans h.c1, (World.cell?_setCell_other _ _ _ _ (by intro e; simp only [Addr.mk.injEq] at e; exact h.n2 e.1.symm)).trans h.c2, by rw [heap_setCell_same _ _ _ _ _ _ h.c3]; rfl, h.q0, h.n1, h.n2⟩
theorem LS15.cell (h : LS15 w W b pa m pc q1 q2 q3 v) : W.cell? ⟨q3, 0, none⟩ = some (.int .i64 (v : Int)) := by simp [World.cell?, h.c3]
theorem LS15.free (h : LS15 w W b pa m pc q1 q2 q3 v) : W.frozen? ⟨q3, 0, none⟩ = false := by simp [World.frozen?, h.c3]
end
set_option maxRecDepth 100000 in
set_option maxHeartbeats 2000000 in
theorem pcls15 (b n : Nat) (z : List Int) (A : List Nat) (pa : Option Addr) (p : List Int) (m pc q1 q2 q3 v r : Nat) (w W : World) (h : IX14 w b n z A) (hp : Seg w pa p) (hm : Hid (p.length = m)) (hmb : m ≤ 140737488351232) (hv : v ≤ m) (L : LS15 w W b pa m pc q1 q2 q3 v) (hr : r < n) :
    Calls Try.prog 65 #[.int .i64 (r : Int), .pointer (some ⟨q1, 0, none⟩), .pointer (some ⟨q2, 0, none⟩), .pointer (some ⟨q3, 0, none⟩)] W fun e w' => e = .returned (.bool (decide (0 ≤ cv13 (z.drop (A.getD r 0)) p))) ∧ LS15 w w' b pa m pc q1 q2 q3 (max v (lc13 (z.drop (A.getD r 0)) p)) := by
  have HA := (h.old L.bl).at_ hr
  have hat := h.ar.get hr
  have HC : Hid (∀ W', Below W.heap.size W W' → Calls Try.prog 66 #[.pointer (some ⟨b, 0, none⟩), .int .i64 ((A.getD r 0 : Nat) : Int), .slice pa m pc] W' fun e w' => e = .returned (.tuple #[.int .i64 (cv13 (z.drop (A.getD r 0)) p), .int .i64 ((lc13 (z.drop (A.getD r 0)) p : Nat) : Int), .int .i64 0]) ∧ Below W.heap.size W w') := fun W' hb => ((h.old (L.bl.trans (hb.mono L.bl.size))).cmp (hp.old (L.bl.trans (hb.mono L.bl.size))) hm (by omega) hat).mono fun e w' ⟨he, hB⟩ => ⟨he, hb.trans (hB.mono hb.size)⟩
  have hlb : lc13 (z.drop (A.getD r 0)) p ≤ m := by rw [← hm.out]; exact lc13_le' _ _
  have hbd := cv13_bd (z.drop (A.getD r 0)) p
  have HLS : Hid (∀ W', Below W.heap.size W W' → LS15 w W' b pa m pc q1 q2 q3 v) := fun W' hb => L.old hb
  have c1 := L.c1
  have c2 := L.c2
  clear h hp L
  generalize cv13 (z.drop (A.getD r 0)) p = cv at *
  generalize lc13 (z.drop (A.getD r 0)) p = l at *
  generalize A.getD r 0 = at0 at *
  by_cases hvl : v < l
  · have hvli : (v : Int) < (l : Int) := by omega
    have e0 : max v l = l := by omega
    rw [e0]
    clear e0
    go_enter Try.func65, Try.ntmps65
    go_wp2_with (first
      | (go_at_call 24; refine HA.mono ?_; rintro e1 w1 ⟨rfl, B1⟩; have L1 := HLS.out w1 B1; have k1 := L1.c1; have k2 := L1.c2; clear L1)
      | (go_at_call 66; refine (HC.out w1 B1).mono ?_; rintro e2 w2 ⟨rfl, B2⟩; have L2 := HLS.out w2 B2; have k3 := L2.cell; have k4 := L2.free; have L3 : Hid (LS15 w (w2.setCell ⟨q3, 0, none⟩ (.int .i64 (l : Int))) b pa m pc q1 q2 q3 l) := L2.set l; clear L2))
    go_ret
    exact ⟨rfl, L3.out⟩
  · have hvli : ¬ (v : Int) < (l : Int) := by omega
    have e0 : max v l = v := by omega
    rw [e0]
    clear e0
    go_enter Try.func65, Try.ntmps65
    go_wp2_with (first
      | (go_at_call 24; refine HA.mono ?_; rintro e1 w1 ⟨rfl, B1⟩; have L1 := HLS.out w1 B1; have k1 := L1.c1; have k2 := L1.c2; clear L1)
      | (go_at_call 66; refine (HC.out w1 B1).mono ?_; rintro e2 w2 ⟨rfl, B2⟩; have L2 := HLS.out w2 B2; have k3 := L2.cell; have k4 := L2.free; have L3 : Hid (LS15 w (w2.setCell ⟨q3, 0, none⟩ (.int .i64 (v : Int))) b pa m pc q1 q2 q3 v) := L2.set v; clear L2))
    go_ret
    exact ⟨rfl, L3.out⟩
/-- What the search knows: between i and j the text would stand, and the longest so far has both neighbours. -/
structure Sr15 (z : List Int) (A : List Nat) (p : List Int) (n i j v : Nat) : Prop where
  lo : i ≤ lo14 z p ∧ lo14 z p ≤ j
  le : v ≤ mx14 z p
  bl : i = 0 ∨ lc13 (z.drop (A.getD (i - 1) 0)) p ≤ v
  ab : j = n ∨ lc13 (z.drop (A.getD j 0)) p ≤ v
theorem Sr15.start {z : List Int} {A : List Nat} {p : List Int} {n : Nat} (hn : z.length = n) : Sr15 z A p n 0 n 0 := ⟨⟨Nat.zero_le _, by rw [← hn]; exact lo14_le z p⟩, Nat.zero_le _, Or.inl rfl, Or.inl rfl⟩
theorem mx_ge15 {z : List Int} {A : List Nat} (hA : Ar12 z.length (S12 z) A) {p : List Int} {r : Nat} (hr : r < z.length) : lc13 (z.drop (A.getD r 0)) p ≤ mx14 z p := mp14_ge z p (hA.get hr)
theorem Sr15.up {z : List Int} {A : List Nat} {p : List Int} {n i j v h : Nat} (s : Sr15 z A p n i j v) (hn : z.length = n) (hA : Ar12 n (S12 z) A) (h1 : i ≤ h) (h2 : h < j) (h3 : j ≤ n) (hc : ¬ 0 ≤ cv13 (z.drop (A.getD h 0)) p) : Sr15 z A p n (h + 1) j (max v (lc13 (z.drop (A.getD h 0)) p)) := by
  subst hn
  have k := (lo14_iff hA p (r := h) (by omega)).1 (by omega)
  have g := mx_ge15 hA (p := p) (r := h) (by omega)
  have := s.le
  refine ⟨⟨by omega, s.lo.2⟩, by omega, Or.inr (by rw [Nat.add_sub_cancel]; omega), ?_⟩
  rcases s.ab with c | c
  · exact Or.inl c
  · exact Or.inr (by omega)
theorem Sr15.down {z : List Int} {A : List Nat} {p : List Int} {n i j v h : Nat} (s : Sr15 z A p n i j v) (hn : z.length = n) (hA : Ar12 n (S12 z) A) (h1 : i ≤ h) (h2 : h < j) (h3 : j ≤ n) (hc : 0 ≤ cv13 (z.drop (A.getD h 0)) p) : Sr15 z A p n i h (max v (lc13 (z.drop (A.getD h 0)) p)) := by
  subst hn
  have k : ¬ h < lo14 z p := fun k => by have := (lo14_iff hA p (r := h) (by omega)).2 k; omega
  have g := mx_ge15 hA (p := p) (r := h) (by omega)
  have := s.le
  refine ⟨⟨s.lo.1, by omega⟩, by omega, ?_, Or.inr (by omega)⟩
  rcases s.bl with c | c
  · exact Or.inl c
  · exact Or.inr (by omega)
theorem Sr15.fin {z : List Int} {A : List Nat} {p : List Int} {n i v : Nat} (s : Sr15 z A p n i i v) (hn : z.length = n) (hA : Ar12 n (S12 z) A) : v = mx14 z p := by
  subst hn
  have h1 := s.lo
  have hi : i = lo14 z p := by omega
  have h2 := mx14_near hA p
  have h3 := s.le
  have h4 := s.bl
  have h5 := s.ab
  rw [hi] at h4 h5
  have h6 := lo14_le z p
  have h7 : (if lo14 z p = 0 then 0 else lc13 (z.drop (A.getD (lo14 z p - 1) 0)) p) ≤ v := by
    split
    · omega
    · rcases h4 with c | c
      · omega
      · exact c
  have h8 : (if lo14 z p < z.length then lc13 (z.drop (A.getD (lo14 z p) 0)) p else 0) ≤ v := by
    split
    · rcases h5 with c | c
      · omega
      · exact c
    · omega
  omega
set_option maxRecDepth 100000 in
set_option maxHeartbeats 4000000 in
theorem psrch15 (b n : Nat) (z : List Int) (A : List Nat) (pa : Option Addr) (p : List Int) (m pc q1 q2 q3 : Nat) (w W : World) (h : IX14 w b n z A) (hp : Seg w pa p) (hm : Hid (p.length = m)) (hmb : m ≤ 140737488351232) (L : LS15 w W b pa m pc q1 q2 q3 0) :
    Calls Try.prog 63 #[.int .i64 (n : Int), .func (.func 65) #[] #[.pointer (some ⟨q1, 0, none⟩), .pointer (some ⟨q2, 0, none⟩), .pointer (some ⟨q3, 0, none⟩)]] W fun e w' => (∃ r : Nat, e = .returned (.int .i64 (r : Int))) ∧ LS15 w w' b pa m pc q1 q2 q3 (mx14 z p) := by
  have hn24 := h.n24
  have HLN : Hid (z.length = n) := h.len
  have HAR : Hid (Ar12 n (S12 z) A) := h.ar
  have HMX : Hid (mx14 z p ≤ m) := by show _ ≤ _; rw [← hm.out]; exact mx14_le z p
  have HK : Hid (∀ (r v : Nat) (W' : World), r < n → v ≤ m → LS15 w W' b pa m pc q1 q2 q3 v → Calls Try.prog 65 #[.int .i64 (r : Int), .pointer (some ⟨q1, 0, none⟩), .pointer (some ⟨q2, 0, none⟩), .pointer (some ⟨q3, 0, none⟩)] W' fun e w' => e = .returned (.bool (decide (0 ≤ cv13 (z.drop (A.getD r 0)) p))) ∧ LS15 w w' b pa m pc q1 q2 q3 (max v (lc13 (z.drop (A.getD r 0)) p))) := fun r v W' hr hv hL => pcls15 b n z A pa p m pc q1 q2 q3 v r w W' h hp hm hmb hv hL hr
  have HL0 : Hid (LS15 w W b pa m pc q1 q2 q3 0) := L
  clear h hp L
  go_enter Try.func63, Try.ntmps63
  go_wp2_with fail
  go_loopw [5, 6] (fun ti tj wr => ∃ i j v : Nat, i ≤ j ∧ j ≤ n ∧ ti = .int .i64 (i : Int) ∧ tj = .int .i64 (j : Int) ∧ Hid (Sr15 z A p n i j v) ∧ Hid (LS15 w wr b pa m pc q1 q2 q3 v)) (fun ti tj _ => (intOf tj).toNat - (intOf ti).toNat)
  case atStart => exact ⟨0, n, 0, by omega, by omega, rfl, rfl, Sr15.start HLN.out, HL0.out⟩
  case round =>
    obtain ⟨i, j, v, hij, hjn, rfl, rfl, HSR, HLS⟩ := hrel
    by_cases hlt : i < j
    · have hlti : (i : Int) < (j : Int) := by omega
      obtain ⟨h, hh⟩ : ∃ h, h = (i + j) / 2 := ⟨_, rfl⟩
      have hmi : ((i : Int) + (j : Int)) / 2 = (h : Int) := by omega
      have him : i ≤ h ∧ h < j := by omega
      have CC := HK.out h v wr (by omega) (Nat.le_trans HSR.out.le HMX.out) HLS.out
      have i1 : IntKind.i64.wrap ((i : Int) + (j : Int)) = (i : Int) + (j : Int) := IntWalk.i64_in _ (by omega)
      clear hh
      go_wp2_with fail
      refine CC.mono ?_
      rintro e w2 ⟨rfl, L2⟩
      clear CC
      have HL2 : Hid (LS15 w w2 b pa m pc q1 q2 q3 (max v (lc13 (z.drop (A.getD h 0)) p))) := L2
      clear L2
      by_cases hz : 0 ≤ cv13 (z.drop (A.getD h 0)) p
      · have HG : Hid (Sr15 z A p n i h (max v (lc13 (z.drop (A.getD h 0)) p))) := HSR.out.down HLN.out HAR.out him.1 him.2 hjn hz
        rw [decide_eq_true hz]
        clear hz
        go_wp2_with fail
        go_roundw
        case rel => exact ⟨i, h, _, by omega, by omega, rfl, rfl, HG, HL2⟩
        case measure => simp [intOf]; omega
      · have HG : Hid (Sr15 z A p n (h + 1) j (max v (lc13 (z.drop (A.getD h 0)) p))) := HSR.out.up HLN.out HAR.out him.1 him.2 hjn hz
        have i2 : IntKind.i64.wrap ((h : Int) + 1) = (h : Int) + 1 := IntWalk.i64_in _ (by omega)
        rw [decide_eq_false hz]
        clear hz
        go_wp2_with fail
        go_roundw
        case rel => exact ⟨h + 1, j, _, by omega, by omega, rfl, rfl, HG, HL2⟩
        case measure => simp [intOf]; omega
    · have hlti : ¬ (i : Int) < (j : Int) := by omega
      obtain rfl : i = j := by omega
      have HF : Hid (LS15 w wr b pa m pc q1 q2 q3 (mx14 z p)) := by show LS15 _ _ _ _ _ _ _ _ _ _; rw [← HSR.out.fin HLN.out HAR.out]; exact HLS.out
      go_wp2_with fail
      go_ret
      exact ⟨⟨i, rfl⟩, HF.out⟩
set_option maxRecDepth 100000 in
set_option maxHeartbeats 4000000 in
theorem plng15 (b n : Nat) (z : List Int) (A : List Nat) (pa : Option Addr) (p : List Int) (m pc : Nat) (w : World) (h : IX14 w b n z A) (hp : Seg w pa p) (hm : Hid (p.length = m)) (hmb : m ≤ 140737488351232) :
    Calls Try.prog 54 #[.pointer (some ⟨b, 0, none⟩), .slice pa m pc] w fun e w' => e = .returned (.int .i64 ((mx14 z p : Nat) : Int)) ∧ Below w.heap.size w w' := by
  have hmf : ∀ (fn : Fn) (first cap : Array Value) (w : World), (Instr.makeFunc fn first cap).run Try.prog w = .ok (.func fn first cap) w := fun _ _ _ _ => rfl
  obtain ⟨W, hW⟩ : ∃ W, W = ((w.alloc (.cells #[.pointer (some ⟨b, 0, none⟩)] 24)).alloc (.cells #[.slice pa m pc] 23)).alloc (.cells #[.int .i64 0] 3) := ⟨_, rfl⟩
  have HW : Hid (W = ((w.alloc (.cells #[.pointer (some ⟨b, 0, none⟩)] 24)).alloc (.cells #[.slice pa m pc] 23)).alloc (.cells #[.int .i64 0] 3)) := hW
  have BW : Below w.heap.size w W := by rw [hW]; exact (((Below.refl _ _).alloc (Nat.le_refl _) _).alloc (by simp <;> omega) _).alloc (by simp <;> omega) _
  have L0 : LS15 w W b pa m pc w.heap.size (w.heap.size + 1) (w.heap.size + 1 + 1) 0 := ⟨BW, by rw [hW]; exact cell_more15 _ (cell_more15 _ (cell_new15 _ _ _ rfl)), by rw [hW]; exact cell_more15 _ (cell_new15 _ _ _ (by simp only [size_alloc15])), by rw [hW]; exact heap_new15 _ _ (by simp only [size_alloc15]), by omega, by omega, by omega⟩
  have HLN : Hid (∀ W', Below w.heap.size w W' → Calls Try.prog 64 #[.pointer (some ⟨b, 0, none⟩)] W' fun e w' => e = .returned (.int .i64 (n : Int)) ∧ w' = W') := fun W' hb => (h.old hb).len_
  have HS : Hid (∀ W', LS15 w W' b pa m pc w.heap.size (w.heap.size + 1) (w.heap.size + 1 + 1) 0 → Calls Try.prog 63 #[.int .i64 (n : Int), .func (.func 65) #[] #[.pointer (some ⟨w.heap.size, 0, none⟩), .pointer (some ⟨w.heap.size + 1, 0, none⟩), .pointer (some ⟨w.heap.size + 1 + 1, 0, none⟩)]] W' fun e w' => (∃ r : Nat, e = .returned (.int .i64 (r : Int))) ∧ LS15 w w' b pa m pc w.heap.size (w.heap.size + 1) (w.heap.size + 1 + 1) (mx14 z p)) := fun W' hL => psrch15 b n z A pa p m pc _ _ _ w W' h hp hm hmb hL
  clear h hp hW
  generalize mx14 z p = M at *
  go_enter Try.func54, Try.ntmps54
  go_wp2_with (first
    | (go_at_call 64; fail))
  rw [← HW.out]
  refine (HLN.out W BW).mono ?_
  rintro e1 w1 ⟨rfl, hw1⟩
  subst hw1
  have CS := HS.out _ L0
  clear HS HLN L0
  go_wp2_with (first
    | (go_at_call 63; refine CS.mono ?_; rintro e2 w2 ⟨⟨r, rfl⟩, L2⟩; have k3 := L2.cell; have BF := L2.bl; clear L2 CS))
  go_ret
  exact ⟨rfl, BF⟩
end Go.Proofs.Ytbjjddoeilhomaa
