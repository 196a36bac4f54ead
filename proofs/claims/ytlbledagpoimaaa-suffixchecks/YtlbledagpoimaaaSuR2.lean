
import Derived.Test.YtlbledagpoimaaaSuR1
import Derived.Deep.RegionHeld3
namespace Go.Proofs.Ytlbledagpoimaaa
open Go.RowKit
set_option linter.unusedVariables false

/-! Check: the document's, the program's; Load. -/
def ca13 (n : Nat) (A : List Nat) (X : List Int) : Nat := if lc13 (nz12 A) X < n then lc13 (nz12 A) X else if n < X.length then n else 0
def ce13 (n : Nat) (A : List Nat) (X : List Int) : Int := if lc13 (nz12 A) X < n ∨ n < X.length then 131 else 0
theorem ca13_le (n : Nat) (A : List Nat) (X : List Int) : ca13 n A X ≤ n := by unfold ca13; split <;> (try split) <;> omega
theorem ck13_at {n : Nat} {A : List Nat} {X : List Int} {r : Nat} (hr : r < n) (h : lc13 (nz12 A) X = r) : ca13 n A X = r ∧ ce13 n A X = 131 := by
  unfold ca13 ce13
  rw [h, if_pos hr, if_pos (Or.inl hr)]
  exact ⟨rfl, rfl⟩
theorem ck13_long {n : Nat} {A : List Nat} {X : List Int} (h : lc13 (nz12 A) X = n) (hx : n < X.length) : ca13 n A X = n ∧ ce13 n A X = 131 := by
  unfold ca13 ce13
  rw [h, if_neg (by omega), if_pos hx, if_pos (Or.inr hx)]
  exact ⟨rfl, rfl⟩
theorem ck13_ok {n : Nat} {A : List Nat} {X : List Int} (h : lc13 (nz12 A) X = n) (hx : ¬ n < X.length) : ca13 n A X = 0 ∧ ce13 n A X = 0 := by
  unfold ca13 ce13
  rw [h, if_neg (by omega), if_neg hx, if_neg (by omega)]
  exact ⟨rfl, rfl⟩
theorem ck13_is {n : Nat} {A : List Nat} {X : List Int} (hA : A.length = n) (h : ce13 n A X = 0) : X = nz12 A := by
  unfold ce13 at h
  split at h
  · omega
  · rename_i hn
    have h1 : ¬ lc13 (nz12 A) X < n := fun k => hn (Or.inl k)
    have h2 : ¬ n < X.length := fun k => hn (Or.inr k)
    have h3 := lc13_le (nz12 A) X
    have h4 := lc13_le' (nz12 A) X
    have h5 := lc13_take (nz12 A) X
    rw [nz12_len13, hA] at h3
    have e : lc13 (nz12 A) X = n := by omega
    rw [e, List.take_of_length_le (by rw [nz12_len13]; omega), List.take_of_length_le (by omega)] at h5
    exact h5.symm
theorem ce13_eq (n : Nat) (A : List Nat) (X : List Int) : ce13 n A X = 0 ∨ ce13 n A X = 131 := by unfold ce13; split <;> simp
set_option maxRecDepth 100000 in
set_option maxHeartbeats 4000000 in
theorem rchk13 (a : Option Addr) (z : List Int) (n ca : Nat) (xa : Option Addr) (X : List Int) (m xc : Nat) (A : List Nat) (w : World) (hs : Seg w a z) (hc : n ≤ ca) (hn : Hid (z.length = n)) (hx : SegZ w xa X) (hm : Hid (X.length = m)) (hmb : m ≤ 9223372036854775807) (hA : Ar12 n (S12 z) A) (hb : n ≤ 16777216) :
    Calls Try.prog 15 #[.slice a n ca, .slice xa m xc] w fun e w' => e = .returned (.tuple #[.int .i64 ((ca13 n A X : Nat) : Int), .int .i64 (ce13 n A X)]) ∧ Below w.heap.size w w' := by
  have HAR := rarr13 a z n ca A w hs hc hn hA hb
  have h24 : ¬ (16777216 : Int) < (n : Int) := by omega
  have HSX : Hid (∀ W, Below w.heap.size w W → SegZ W xa X) := fun W h => hx.old h
  have hAl := hA.len
  have HAG : Hid (∀ r, r < n → A.getD r 0 < n ∧ (nz12 A).getD r 0 = ((A.getD r 0 : Nat) : Int)) := fun r hr => ⟨hA.get hr, nz12_get13 (by rw [hAl]; exact hr)⟩
  have HLn : Hid ((nz12 A).length = n) := by show _ = _; rw [nz12_len13, hAl]
  have HLL : Hid (lc13 (nz12 A) X ≤ n ∧ lc13 (nz12 A) X ≤ m) := ⟨by rw [← HLn.out]; exact lc13_le _ _, by rw [← hm.out]; exact lc13_le' _ _⟩
  clear hs hx hA hAl
  go_enter Try.func15, Try.ntmps15
  go_wp2_with (first
    | (go_at_call 20; refine HAR.mono ?_; rintro e1 w1 ⟨rfl, R1, B1⟩; clear HAR))
  go_loopw [14] (fun ti wr => ∃ r : Nat, ti = .int .i64 r ∧ Hid (r ≤ lc13 (nz12 A) X) ∧ wr = w1) (fun ti _ => n - (intOf ti).toNat)
  case atStart => exact ⟨0, rfl, Nat.zero_le _, by first | trivial | rfl⟩
  case round =>
    obtain ⟨r, rfl, HR, hw⟩ := hrel
    subst hw
    have hrn : r ≤ n := by have := HR.out; have := HLL.out; omega
    have hrm : r ≤ m := by have := HR.out; have := HLL.out; omega
    by_cases h1 : r < n
    · have h1i : (r : Int) < (n : Int) := by omega
      obtain ⟨g1, g2⟩ := HAG.out r h1
      have c1 := R1.cell (i := r) (by rw [HLn.out]; exact h1)
      rw [g2] at c1
      by_cases h2 : r < m
      · have h2i : (r : Int) < (m : Int) := by omega
        have h3i : ¬ (m : Int) ≤ (r : Int) := by omega
        have h4i : ¬ m ≤ r := by omega
        obtain ⟨xb, off, rfl, c2⟩ := (HSX.out wr B1).at_ r (by rw [hm.out]; exact h2)
        have bx := (HSX.out wr B1).bd r
        have HEQ : Hid ((nz12 A).getD r 0 = X.getD r 0 → r + 1 ≤ lc13 (nz12 A) X) := lc13_more HR.out (by rw [HLn.out]; exact h1) (by rw [hm.out]; exact h2)
        have HNE : Hid (¬ (nz12 A).getD r 0 = X.getD r 0 → lc13 (nz12 A) X = r) := lc13_stop HR.out
        rw [g2] at HEQ HNE
        generalize A.getD r 0 = u at *
        generalize X.getD r 0 = v at *
        by_cases hv : v = (u : Int)
        · subst hv
          have HEQ2 : Hid (r + 1 ≤ lc13 (nz12 A) X) := HEQ.out rfl
          clear HEQ HNE g2
          go_wp2_with fail
          go_roundw
          case rel => exact ⟨r + 1, by go_num, HEQ2, by first | trivial | rfl⟩
          case measure => simp [intOf]; omega
        · have HK : Hid (ca13 n A X = r ∧ ce13 n A X = 131) := ck13_at h1 (HNE.out (fun e => hv e.symm))
          clear HEQ HNE g2
          have hvb : (v != (u : Int)) = true := bne_iff_ne.2 hv
          go_wp2_with fail
          refine bodyPost_ret (results_tmp2 rfl _ _ _) rfl ?_
          refine ⟨?_, B1⟩
          rw [HK.out.1, HK.out.2]
          rfl
      · have h2i : ¬ (r : Int) < (m : Int) := by omega
        have h3i : (m : Int) ≤ (r : Int) := by omega
        have h4i : m ≤ r := by omega
        have HK : Hid (ca13 n A X = r ∧ ce13 n A X = 131) := ck13_at h1 (by have := HR.out; have := HLL.out; omega)
        clear g2
        go_wp2_with fail
        refine bodyPost_ret (results_tmp2 rfl _ _ _) rfl ?_
        refine ⟨?_, B1⟩
        rw [HK.out.1, HK.out.2]
        rfl
    · have h1i : ¬ (r : Int) < (n : Int) := by omega
      have HE : Hid (lc13 (nz12 A) X = n) := by show _ = _; have := HR.out; have := HLL.out; omega
      by_cases h5 : n < m
      · have h5i : (n : Int) < (m : Int) := by omega
        have HK : Hid (ca13 n A X = n ∧ ce13 n A X = 131) := ck13_long HE.out (by rw [hm.out]; exact h5)
        go_wp2_with fail
        refine bodyPost_ret (results_tmp2 rfl _ _ _) rfl ?_
        refine ⟨?_, B1⟩
        rw [HK.out.1, HK.out.2]
        rfl
      · have h5i : ¬ (n : Int) < (m : Int) := by omega
        have HK : Hid (ca13 n A X = 0 ∧ ce13 n A X = 0) := ck13_ok HE.out (by rw [hm.out]; exact h5)
        go_wp2_with fail
        refine bodyPost_ret (results_tmp2 rfl _ _ _) rfl ?_
        refine ⟨?_, B1⟩
        rw [HK.out.1, HK.out.2]
        rfl
set_option maxRecDepth 100000 in
theorem rchkn13 (a : Option Addr) (n ca : Nat) (xa : Option Addr) (m xc : Nat) (w : World) (hb : 16777216 < n) (hb2 : n ≤ 9223372036854775807) :
    Calls Try.prog 15 #[.slice a n ca, .slice xa m xc] w fun e w' => e = .returned (.tuple #[.int .i64 0, .int .i64 130]) ∧ w' = w := by
  have h24 : (16777216 : Int) < (n : Int) := by omega
  go_enter Try.func15, Try.ntmps15
  go_wp2_with fail
  refine bodyPost_ret (results_tmp2 rfl _ _ _) rfl ?_
  exact ⟨rfl, rfl⟩
def CkQ13 (w : World) (z : List Int) (n : Nat) (X : List Int) (e : Ending) (w' : World) : Prop := ∃ A, Ar12 n (S12 z) A ∧ e = .returned (.tuple #[.int .i64 ((ca13 n A X : Nat) : Int), .int .i64 (ce13 n A X)]) ∧ Below w.heap.size w w'
set_option maxRecDepth 100000 in
set_option maxHeartbeats 4000000 in
theorem pchk13 (a : Option Addr) (z : List Int) (n ca : Nat) (xa : Option Addr) (X : List Int) (m xc : Nat) (w : World) (hs : Seg w a z) (hn : Hid (z.length = n)) (hx : SegZ w xa X) (hm : Hid (X.length = m)) (hmb : m ≤ 9223372036854775807) (hb : n ≤ 16777216) :
    Calls Try.prog 14 #[.slice a n ca, .slice xa m xc] w (CkQ13 w z n X) := by
  have HS := psort13 a z n ca w hs hn hb
  have HSX : Hid (∀ W, Below w.heap.size w W → SegZ W xa X) := fun W h => hx.old h
  clear hs hx
  go_enter Try.func14, Try.ntmps14
  go_wp2_with (first
    | (go_at_call 31; refine HS.mono ?_; rintro e1 w1 ⟨g, A, rfl, R1, hg, hA, B1⟩; clear HS))
  have hAl := hA.len
  have HA : Hid (Ar12 n (S12 z) A) := hA
  have HAG : Hid (∀ r, r < n → A.getD r 0 < n ∧ (nz12 A).getD r 0 = ((A.getD r 0 : Nat) : Int)) := fun r hr => ⟨hA.get hr, nz12_get13 (by rw [hAl]; exact hr)⟩
  have HLn : Hid ((nz12 A).length = n) := by show _ = _; rw [nz12_len13, hAl]
  have HLL : Hid (lc13 (nz12 A) X ≤ n ∧ lc13 (nz12 A) X ≤ m) := ⟨by rw [← HLn.out]; exact lc13_le _ _, by rw [← hm.out]; exact lc13_le' _ _⟩
  clear hAl hA hg
  go_loopw [20] (fun ti wr => ∃ r : Nat, ti = .int .i64 r ∧ Hid (r ≤ lc13 (nz12 A) X) ∧ wr = w1) (fun ti _ => n - (intOf ti).toNat)
  case atStart => exact ⟨0, rfl, Nat.zero_le _, by first | trivial | rfl⟩
  case round =>
    obtain ⟨r, rfl, HR, hw⟩ := hrel
    subst hw
    have hrn : r ≤ n := by have := HR.out; have := HLL.out; omega
    have hrm : r ≤ m := by have := HR.out; have := HLL.out; omega
    by_cases h1 : r < n
    · have h1i : (r : Int) < (n : Int) := by omega
      obtain ⟨g1, g2⟩ := HAG.out r h1
      have c1 := R1.cell (i := r) (by rw [HLn.out]; exact h1)
      rw [g2] at c1
      by_cases h2 : r < m
      · have h2i : (r : Int) < (m : Int) := by omega
        have h3i : ¬ (r : Int) = (m : Int) := by omega
        have h4i : ¬ r = m := by omega
        obtain ⟨xb, off, rfl, c2⟩ := (HSX.out wr B1).at_ r (by rw [hm.out]; exact h2)
        have bx := (HSX.out wr B1).bd r
        have HEQ : Hid ((nz12 A).getD r 0 = X.getD r 0 → r + 1 ≤ lc13 (nz12 A) X) := lc13_more HR.out (by rw [HLn.out]; exact h1) (by rw [hm.out]; exact h2)
        have HNE : Hid (¬ (nz12 A).getD r 0 = X.getD r 0 → lc13 (nz12 A) X = r) := lc13_stop HR.out
        rw [g2] at HEQ HNE
        generalize A.getD r 0 = u at *
        generalize X.getD r 0 = v at *
        by_cases hv : v = (u : Int)
        · subst hv
          have HEQ2 : Hid (r + 1 ≤ lc13 (nz12 A) X) := HEQ.out rfl
          clear HEQ HNE g2
          go_wp2_with fail
          go_roundw
          case rel => exact ⟨r + 1, by go_num, HEQ2, by first | trivial | rfl⟩
          case measure => simp [intOf]; omega
        · have HK : Hid (ca13 n A X = r ∧ ce13 n A X = 131) := ck13_at h1 (HNE.out (fun e => hv e.symm))
          clear HEQ HNE g2
          have hvb : (v != (u : Int)) = true := bne_iff_ne.2 hv
          go_wp2_with fail
          refine bodyPost_ret (results_tmp2 rfl _ _ _) rfl ?_
          refine ⟨A, HA.out, ?_, B1⟩
          rw [HK.out.1, HK.out.2]
          rfl
      · obtain rfl : r = m := by omega
        have HK : Hid (ca13 n A X = r ∧ ce13 n A X = 131) := ck13_at h1 (by have := HR.out; have := HLL.out; omega)
        clear g2
        go_wp2_with fail
        refine bodyPost_ret (results_tmp2 rfl _ _ _) rfl ?_
        refine ⟨A, HA.out, ?_, B1⟩
        rw [HK.out.1, HK.out.2]
        rfl
    · have h1i : ¬ (r : Int) < (n : Int) := by omega
      have HE : Hid (lc13 (nz12 A) X = n) := by show _ = _; have := HR.out; have := HLL.out; omega
      by_cases h5 : n < m
      · have h5i : (n : Int) < (m : Int) := by omega
        have HK : Hid (ca13 n A X = n ∧ ce13 n A X = 131) := ck13_long HE.out (by rw [hm.out]; exact h5)
        go_wp2_with fail
        refine bodyPost_ret (results_tmp2 rfl _ _ _) rfl ?_
        refine ⟨A, HA.out, ?_, B1⟩
        rw [HK.out.1, HK.out.2]
        rfl
      · have h5i : ¬ (n : Int) < (m : Int) := by omega
        have HK : Hid (ca13 n A X = 0 ∧ ce13 n A X = 0) := ck13_ok HE.out (by rw [hm.out]; exact h5)
        go_wp2_with fail
        refine bodyPost_ret (results_tmp2 rfl _ _ _) rfl ?_
        refine ⟨A, HA.out, ?_, B1⟩
        rw [HK.out.1, HK.out.2]
        rfl
set_option maxRecDepth 100000 in
theorem pchkn13 (a : Option Addr) (n ca : Nat) (xa : Option Addr) (m xc : Nat) (w : World) (hb : 16777216 < n) (hb2 : n ≤ 9223372036854775807) :
    Calls Try.prog 14 #[.slice a n ca, .slice xa m xc] w fun e w' => e = .returned (.tuple #[.int .i64 0, .int .i64 130]) ∧ w' = w := by
  have HS := psortn13 a n ca w hb hb2
  go_enter Try.func14, Try.ntmps14
  go_wp2_with (first
    | (go_at_call 31; refine HS.mono ?_; rintro e1 w1 ⟨rfl, hw1⟩; subst hw1))
  refine bodyPost_ret (results_tmp2 rfl _ _ _) rfl ?_
  exact ⟨rfl, rfl⟩
set_option maxRecDepth 100000 in
theorem ploadn13 (a : Option Addr) (n ca : Nat) (xa : Option Addr) (m xc : Nat) (w : World) (hb : 16777216 < n) (hb2 : n ≤ 9223372036854775807) :
    Calls Try.prog 16 #[.slice a n ca, .slice xa m xc] w fun e w' => e = .returned (.tuple #[.pointer none, .int .i64 130]) ∧ w' = w := by
  have HS := pchkn13 a n ca xa m xc w hb hb2
  go_enter Try.func16, Try.ntmps16
  go_wp2_with (first
    | (go_at_call 14; refine HS.mono ?_; rintro e1 w1 ⟨rfl, hw1⟩; subst hw1))
  refine bodyPost_ret (results_tmp2 rfl _ _ _) rfl ?_
  exact ⟨rfl, rfl⟩
/-- Load: an error, or an index. -/
def LdQ13 (w : World) (z : List Int) (n : Nat) (X : List Int) (e : Ending) (w' : World) : Prop := ∃ A, Ar12 n (S12 z) A ∧ Below w.heap.size w w' ∧ ((ce13 n A X = 131 ∧ e = .returned (.tuple #[.pointer none, .int .i64 131])) ∨ (ce13 n A X = 0 ∧ ∃ b da dc aa ac gb gr, e = .returned (.tuple #[.pointer (some ⟨b, 0, none⟩), .int .i64 0]) ∧ Ix13 w' b da dc aa ac gb gr n z A ∧ w.heap.size ≤ b ∧ w.heap.size ≤ gb ∧ w.heap.size ≤ gr ∧ (∀ x off, da = some ⟨x, off, none⟩ → w.heap.size ≤ x) ∧ (∀ x off, aa = some ⟨x, off, none⟩ → w.heap.size ≤ x)))
set_option maxRecDepth 100000 in
set_option maxHeartbeats 4000000 in
theorem pload13 (a : Option Addr) (z : List Int) (n ca : Nat) (xa : Option Addr) (X : List Int) (m xc : Nat) (w : World) (hs : Seg w a z) (hnil : a = none → ca = 0) (hn : Hid (z.length = n)) (hx : SegZ w xa X) (hxn : xa = none → xc = 0) (hm : Hid (X.length = m)) (hmb : m ≤ 9223372036854775807) (hb : n ≤ 16777216) :
    Calls Try.prog 16 #[.slice a n ca, .slice xa m xc] w (LdQ13 w z n X) := by
  have HC := pchk13 a z n ca xa X m xc w hs hn hx hm hmb hb
  have HCL : Hid (∀ w1, m = n → Below w.heap.size w w1 → Calls Try.prog 35 #[.slice xa m xc] w1 fun e w' => ∃ ra rc, e = .returned (.slice ra m rc) ∧ (ra = none → rc = 0 ∧ xa = none) ∧ w'.ownsRow w1.heap.size 3 1 (.slice ra m rc) m (X.map (Value.int .i64)) ∧ Below w1.heap.size w1 w') := fun w1 he b1 => pcli13 xa X m xc w1 (hx.old b1) hm hxn (by omega)
  have HX : Hid (∀ w1 ra rc A, Below w.heap.size w w1 → SegZ w1 ra (nz12 A) → (ra = none → rc = 0) → n ≤ rc → Ar12 n (S12 z) A → Calls Try.prog 32 #[.slice a n ca, .slice ra n rc] w1 (NixQ13 w1 ra rc z A n)) :=
    fun w1 ra rc A b1 sg hr1 hr2 hA => pnix13 a ca ra rc n z A w1 (hs.old b1) hnil sg hr1 hr2 hn hA hb
  clear hs hx
  go_enter Try.func16, Try.ntmps16
  go_wp2_with fail
  refine HC.mono ?_
  rintro e1 w1 ⟨A, hA, rfl, B1⟩
  clear HC
  rcases ce13_eq n A X with he | he
  · have hX := ck13_is hA.len he
    have hmn : m = n := by rw [← hm.out, hX, nz12_len13, hA.len]
    rw [he]
    have HE : Hid (ce13 n A X = 0) := he
    have HXE : Hid (X = nz12 A) := hX
    have HA : Hid (Ar12 n (S12 z) A) := hA
    have HCL2 := HCL.out w1 hmn B1
    subst hmn
    clear HCL he hX hA
    go_wp2_with (first
      | (go_at_call 35; refine HCL2.mono ?_; rintro e2 w2 ⟨ra, rc, rfl, hr1, hown, B2⟩; clear HCL2; have B12 := B1.trans (B2.mono B1.size); rw [HXE.out] at hown)
      | (go_at_call 32; refine (HX.out w2 ra rc A B12 (own_segZ hown (nz12_bd13 HA.out.lt hb)) (fun h => (hr1 h).1) (own_le13 hown) HA.out).mono ?_; rintro e3 w3 ⟨b, da, dc, gb, gr, rfl, hI, B3, q1, q2, q3, q4⟩))
    refine bodyPost_ret (results_tmp2 rfl _ _ _) rfl ?_
    have S1 := B1.size
    have S2 := B2.size
    refine ⟨A, HA.out, B12.trans (B3.mono B12.size), Or.inr ⟨HE.out, b, da, dc, ra, rc, gb, gr, rfl, hI, by omega, by omega, by omega, fun x off h => by have := q4 x off h; omega, fun x off h => ?_⟩⟩
    subst h
    rcases hown.2 with ⟨h1, _⟩ | ⟨g, cp, cur, hv, hg, _⟩
    · cases h1
    · simp only [Value.slice.injEq, Option.some.injEq] at hv
      obtain ⟨h1, _⟩ := hv
      cases h1
      omega
  · rw [he]
    have HE : Hid (ce13 n A X = 131) := he
    have HA : Hid (Ar12 n (S12 z) A) := hA
    clear he hA
    go_wp2_with fail
    refine bodyPost_ret (results_tmp2 rfl _ _ _) rfl ?_
    exact ⟨A, HA.out, B1, Or.inl ⟨HE.out, rfl⟩⟩
end Go.Proofs.Ytlbledagpoimaaa
