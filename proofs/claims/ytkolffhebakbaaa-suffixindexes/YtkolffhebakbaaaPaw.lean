import Derived.Test.YtkolffhebakbaaaPau
import Derived.Test.YtkolffhebakbaaaPav
namespace Go.Proofs.Ytkolffhebakbaaa
set_option linter.unusedVariables false

/-! Repeat (layer 13), as mathematics. -/
theorem lc13_self : ∀ X : List Int, lc13 X X = X.length
  | [] => rfl
  | x :: X => by unfold lc13; rw [if_pos rfl, lc13_self X]; rfl
theorem lm13_ge {z : List Int} {A : List Nat} {r m : Nat} : ∀ d, (∀ e, e ≤ d → m ≤ lv13 z A (r + 1 + e)) → m ≤ lm13 z A r d
  | 0, h => h 0 (Nat.le_refl _)
  | d + 1, h => by
    unfold lm13
    have h1 := lm13_ge d (fun e he => h e (by omega))
    have h2 := h (d + 1) (Nat.le_refl _)
    omega
theorem lm13_lt {z : List Int} {A : List Nat} {r m : Nat} : ∀ d e, e ≤ d → lv13 z A (r + 1 + e) < m → lm13 z A r d < m
  | 0, e, he, h => by
    have : e = 0 := by omega
    subst this
    exact h
  | d + 1, e, he, h => by
    unfold lm13
    by_cases c : e = d + 1
    · subst c; omega
    · have := lm13_lt d e (by omega) h
      omega
/-- The greatest so far, and where it is first. -/
structure Mk13 (z : List Int) (A : List Nat) (k m r : Nat) : Prop where
  le : ∀ q, q < k → lv13 z A q ≤ m
  at_ : 0 < m → r < k ∧ lv13 z A r = m ∧ ∀ q, q < r → lv13 z A q < m
  no : m = 0 → r = 0
theorem Mk13.zero (z : List Int) (A : List Nat) : Mk13 z A 0 0 0 := ⟨fun q h => by omega, fun h => by omega, fun _ => rfl⟩
theorem Mk13.more {z : List Int} {A : List Nat} {k m r : Nat} (h : Mk13 z A k m r) (hk : m < lv13 z A k) : Mk13 z A (k + 1) (lv13 z A k) k :=
  ⟨fun q hq => by
    by_cases c : q = k
    · subst c; exact Nat.le_refl _
    · have := h.le q (by omega); omega, fun _ => ⟨by omega, rfl, fun q hq => by have := h.le q hq; omega⟩, fun c => by omega⟩
theorem Mk13.same {z : List Int} {A : List Nat} {k m r : Nat} (h : Mk13 z A k m r) (hk : ¬ m < lv13 z A k) : Mk13 z A (k + 1) m r :=
  ⟨fun q hq => by
    by_cases c : q = k
    · subst c; omega
    · exact h.le q (by omega), fun c => ⟨by have := (h.at_ c).1; omega, (h.at_ c).2⟩, h.no⟩
theorem Mk13.unique {z : List Int} {A : List Nat} {k m r m' r' : Nat} (h : Mk13 z A k m r) (h' : Mk13 z A k m' r') : m = m' ∧ r = r' := by
  have e : m = m' := by
    rcases Nat.lt_trichotomy m m' with c | c | c
    · obtain ⟨a, b, _⟩ := h'.at_ (by omega)
      have := h.le r' a
      omega
    · exact c
    · obtain ⟨a, b, _⟩ := h.at_ (by omega)
      have := h'.le r a
      omega
  subst e
  refine ⟨rfl, ?_⟩
  by_cases c : m = 0
  · rw [h.no c, h'.no c]
  · obtain ⟨a1, a2, a3⟩ := h.at_ (by omega)
    obtain ⟨b1, b2, b3⟩ := h'.at_ (by omega)
    rcases Nat.lt_trichotomy r r' with d | d | d
    · have := b3 r d; omega
    · exact d
    · have := a3 r' d; omega
/-- The least place with so many bytes of that suffix. -/
structure Lp13 (z : List Int) (a m i : Nat) : Prop where
  lt : i < z.length
  ge : m ≤ lc13 (z.drop i) (z.drop a)
  least : ∀ j, j < i → lc13 (z.drop j) (z.drop a) < m
theorem Lp13.unique {z : List Int} {a m i i' : Nat} (h : Lp13 z a m i) (h' : Lp13 z a m i') : i = i' := by
  rcases Nat.lt_trichotomy i i' with c | c | c
  · have := h'.least i c; have := h.ge; omega
  · exact c
  · have := h.least i' c; have := h'.ge; omega
structure Sp13 (z : List Int) (A : List Nat) (m r lo hi : Nat) : Prop where
  lo1 : lo ≤ r
  hi1 : r < hi
  hi2 : hi ≤ z.length
  dn : ∀ q, lo < q → q ≤ r → m ≤ lv13 z A q
  up : ∀ q, r < q → q < hi → m ≤ lv13 z A q
  stop : lv13 z A lo < m
  top : hi = z.length ∨ lv13 z A hi < m
theorem Sp13.iff {z : List Int} {A : List Nat} {m r lo hi : Nat} (hA : Ar12 z.length (S12 z) A) (h : Sp13 z A m r lo hi) (hm : lv13 z A r = m) {q : Nat} (hq : q < z.length) : m ≤ lc13 (z.drop (A.getD q 0)) (z.drop (A.getD r 0)) ↔ (lo ≤ q ∧ q < hi) := by
  have hr : r < z.length := Nat.lt_of_lt_of_le h.hi1 h.hi2
  rcases Nat.lt_trichotomy q r with c | c | c
  · have e := lm13_is hA q (r - q - 1) (by omega)
    rw [show q + 1 + (r - q - 1) = r by omega] at e
    rw [e]
    by_cases d : lo ≤ q
    · refine ⟨fun _ => ⟨d, by have := h.hi1; omega⟩, fun _ => lm13_ge _ fun e he => h.dn _ (by omega) (by omega)⟩
    · refine ⟨fun k => ?_, fun k => absurd k.1 d⟩
      have := lm13_lt (z := z) (A := A) (r := q) (m := m) (r - q - 1) (lo - q - 1) (by have := h.lo1; omega) (by rw [show q + 1 + (lo - q - 1) = lo by omega]; exact h.stop)
      omega
  · subst c
    rw [lc13_self, List.length_drop]
    have h1 := (lv13_le hA hr).1
    exact ⟨fun _ => ⟨h.lo1, h.hi1⟩, fun _ => by omega⟩
  · have e := lm13_is hA r (q - r - 1) (by omega)
    rw [show r + 1 + (q - r - 1) = q by omega] at e
    rw [lc13_comm, e]
    by_cases d : q < hi
    · refine ⟨fun _ => ⟨by have := h.lo1; omega, d⟩, fun _ => lm13_ge _ fun e he => h.up _ (by omega) (by omega)⟩
    · refine ⟨fun k => ?_, fun k => absurd k.2 d⟩
      rcases h.top with t | t
      · omega
      · have := lm13_lt (z := z) (A := A) (r := r) (m := m) (q - r - 1) (hi - r - 1) (by have := h.hi1; omega) (by rw [show r + 1 + (hi - r - 1) = hi by have := h.hi1; omega]; exact t)
        omega
theorem Sp13.place {z : List Int} {A : List Nat} {m r lo hi i : Nat} (hA : Ar12 z.length (S12 z) A) (h : Sp13 z A m r lo hi) (hm : lv13 z A r = m) (h1 : ∃ q, lo ≤ q ∧ q < hi ∧ A.getD q 0 = i) (h2 : ∀ q, lo ≤ q → q < hi → i ≤ A.getD q 0) : Lp13 z (A.getD r 0) m i := by
  obtain ⟨q, q1, q2, rfl⟩ := h1
  have hq : q < z.length := Nat.lt_of_lt_of_le q2 h.hi2
  refine ⟨hA.get hq, (h.iff hA hm hq).2 ⟨q1, q2⟩, fun j hj => ?_⟩
  have hjl : j < z.length := Nat.lt_trans hj (hA.get hq)
  obtain ⟨g1, g2⟩ := hA.rk hjl
  rcases Nat.lt_or_ge (lc13 (z.drop j) (z.drop (A.getD r 0))) m with c | c
  · exact c
  · rw [← g2] at c
    have := (h.iff hA hm g1).1 c
    have := h2 _ this.1 this.2
    omega
end Go.Proofs.Ytkolffhebakbaaa

namespace Go.Proofs.Ytkolffhebakbaaa
open Go.RowKit
set_option linter.unusedVariables false

/-! Repeat: span, Min, the landed Repeat; Compare refused. -/
set_option maxRecDepth 100000 in
set_option maxHeartbeats 1000000 in
theorem pcmpn13 (b : Nat) (da : Option Addr) (dc : Nat) (aa : Option Addr) (ac gb gr n : Nat) (z : List Int) (A : List Nat) (r : Int) (pa : Option Addr) (m pc : Nat) (w : World) (h : Ix13 w b da dc aa ac gb gr n z A) (hb : -9223372036854775808 ≤ r ∧ r ≤ 9223372036854775807) (hr : ¬ (0 ≤ r ∧ r < (n : Int))) :
    Calls Try.prog 23 #[.pointer (some ⟨b, 0, none⟩), .int .i64 r, .slice pa m pc] w fun e w' => e = .returned (.tuple #[.int .i64 0, .int .i64 0, .int .i64 132]) ∧ Below w.heap.size w w' := by
  have B1 : Below w.heap.size w (w.alloc (.cells #[.int .i64 r] 3)) := (Below.refl _ _).alloc (Nat.le_refl _) _
  have HR := pref13 b da dc aa ac gb gr n z A (some ⟨w.heap.size, 0, none⟩) [r] 1 1 _ (h.old B1) (segZ_lit13 w _ hb) (rfl : _ = _) (by omega)
  rw [er13_one, if_neg hr] at HR
  clear h hr
  go_enter Try.func23, Try.ntmps23
  go_wp2_with (first
    | (go_at_call 42; refine HR.mono ?_; rintro e1 w2 ⟨rfl, hw1⟩; rw [← hw1] at B1; clear hw1))
  go_ret3
  exact ⟨rfl, B1⟩
def SpQ13 (w : World) (z : List Int) (A : List Nat) (m r : Nat) (e : Ending) (w' : World) : Prop := ∃ lo hi : Nat, e = .returned (.tuple #[.int .i64 (lo : Int), .int .i64 (hi : Int)]) ∧ Sp13 z A m r lo hi ∧ w' = w
set_option maxRecDepth 100000 in
set_option maxHeartbeats 2000000 in
theorem pspan13 (g n : Nat) (z : List Int) (A : List Nat) (m r : Nat) (w : World) (R : Rz12 w g (lp13 z A)) (hn : Hid (z.length = n)) (hA : Ar12 z.length (S12 z) A) (hb : n ≤ 16777216) (hm : 0 < m) (hmb : m ≤ 16777216) (hr : r < n) :
    Calls Try.prog 40 #[.slice (some ⟨g, 0, none⟩) n n, .int .i64 (r : Int), .int .i64 (m : Int)] w (SpQ13 w z A m r) := by
  have HC : Hid (∀ q, q < n → w.cell? ⟨g, q, none⟩ = some (.int .i64 ((lv13 z A q : Nat) : Int))) := fun q hq => by
    have := R.cell (i := q) (by rw [lp13_len, hn.out]; exact hq)
    rw [lp13_get (by rw [hn.out]; exact hq)] at this
    exact this
  have HLB : Hid (∀ q, q < n → lv13 z A q ≤ 16777216) := fun q hq => by
    have h7 := (lv13_le hA (r := q) (by rw [hn.out]; exact hq)).1
    rw [hn.out] at h7
    omega
  have HZ : Hid (lv13 z A 0 = 0) := rfl
  clear R hA
  go_enter Try.func40, Try.ntmps40
  go_wp2_with fail
  go_loopw [8] (fun ti wr => ∃ lo : Nat, lo ≤ r ∧ ti = .int .i64 lo ∧ Hid (∀ q, lo < q → q ≤ r → m ≤ lv13 z A q) ∧ wr = w) (fun ti _ => (intOf ti).toNat)
  case atStart => exact ⟨r, Nat.le_refl _, rfl, (fun q h1 h2 => by omega : ∀ q, r < q → q ≤ r → m ≤ lv13 z A q), by first | trivial | rfl⟩
  case round =>
    obtain ⟨lo, hlo, rfl, HD, hw⟩ := hrel
    subst hw
    rename World => w
    have hloi : (lo : Int) < (n : Int) := by omega
    have c1 := HC.out lo (by omega)
    have lb := HLB.out lo (by omega)
    have HD2 : Hid (m ≤ lv13 z A lo → ∀ q, lo - 1 < q → q ≤ r → m ≤ lv13 z A q) := fun h q h1 h2 => by
      by_cases c : q = lo
      · rw [c]; exact h
      · exact HD.out q (by omega) h2
    have HL0 : Hid (m ≤ lv13 z A lo → 0 < lo) := fun h => by
      rcases Nat.eq_zero_or_pos lo with c | c
      · rw [c] at h; have := HZ.out; omega
      · exact c
    have HST : Hid (¬ m ≤ lv13 z A lo → lv13 z A lo < m) := fun h => by omega
    by_cases h1 : m ≤ lv13 z A lo
    · have h0 := HL0.out h1
      have HD3 : Hid (∀ q, lo - 1 < q → q ≤ r → m ≤ lv13 z A q) := HD2.out h1
      clear HD2 HL0 HST
      generalize lv13 z A lo = v at *
      have h1i : (m : Int) ≤ (v : Int) := by omega
      have e1 : (lo : Int) - 1 = ((lo - 1 : Nat) : Int) := by omega
      go_wp2_with fail
      go_roundw
      case rel => exact ⟨lo - 1, by omega, by first | rfl | (rw [e1]) | go_num, HD3, by first | trivial | rfl⟩
      case measure => simp [intOf]; omega
    · have hst := HST.out h1
      have HSP : Hid (lv13 z A lo < m) := hst
      clear HD2 HL0 HST hst
      generalize lv13 z A lo = v at c1 lb h1
      have h1i : ¬ (m : Int) ≤ (v : Int) := by omega
      go_wp2_with fail
      go_loopw [9] (fun ti wr => ∃ hi : Nat, r < hi ∧ hi ≤ n ∧ ti = .int .i64 hi ∧ Hid (∀ q, r < q → q < hi → m ≤ lv13 z A q) ∧ wr = w) (fun ti _ => n - (intOf ti).toNat)
      case atStart => exact ⟨r + 1, by omega, by omega, by go_num, (fun q h1 h2 => by omega : ∀ q, r < q → q < r + 1 → m ≤ lv13 z A q), by first | trivial | rfl⟩
      case round =>
        obtain ⟨hi, hi1, hi2, rfl, HU, hw⟩ := hrel
        subst hw
        rename World => w
        by_cases h2 : hi < n
        · have h2i : (hi : Int) < (n : Int) := by omega
          have c2 := HC.out hi h2
          have lb2 := HLB.out hi h2
          have HU2 : Hid (m ≤ lv13 z A hi → ∀ q, r < q → q < hi + 1 → m ≤ lv13 z A q) := fun h q h1 h2 => by
            by_cases c : q = hi
            · rw [c]; exact h
            · exact HU.out q h1 (by omega)
          have HT : Hid (¬ m ≤ lv13 z A hi → lv13 z A hi < m) := fun h => by omega
          by_cases h3 : m ≤ lv13 z A hi
          · have HU3 : Hid (∀ q, r < q → q < hi + 1 → m ≤ lv13 z A q) := HU2.out h3
            clear HU2 HT
            generalize lv13 z A hi = u at c2 lb2 h3
            have h3i : (m : Int) ≤ (u : Int) := by omega
            go_wp2_with fail
            go_roundw
            case rel => exact ⟨hi + 1, by omega, by omega, by go_num, HU3, by first | trivial | rfl⟩
            case measure => simp [intOf]; omega
          · have HT2 : Hid (lv13 z A hi < m) := HT.out h3
            have HSS : Hid (Sp13 z A m r lo hi) := ⟨hlo, hi1, by rw [hn.out]; omega, HD.out, HU.out, HSP.out, Or.inr HT2.out⟩
            clear HU2 HT HT2
            generalize lv13 z A hi = u at c2 lb2 h3
            have h3i : ¬ (m : Int) ≤ (u : Int) := by omega
            go_wp2_with fail
            refine bodyPost_ret (results_tmp2 rfl _ _ _) rfl ?_
            exact ⟨lo, hi, rfl, HSS.out, rfl⟩
        · have h2i : ¬ (hi : Int) < (n : Int) := by omega
          have HSS : Hid (Sp13 z A m r lo hi) := ⟨hlo, hi1, by rw [hn.out]; omega, HD.out, HU.out, HSP.out, Or.inl (by rw [hn.out]; omega)⟩
          go_wp2_with fail
          refine bodyPost_ret (results_tmp2 rfl _ _ _) rfl ?_
          exact ⟨lo, hi, rfl, HSS.out, rfl⟩
/-- The least of some numbers. -/
def MnQ13 (w : World) (L : List Int) (e : Ending) (w' : World) : Prop := ∃ v : Int, e = .returned (.int .i64 v) ∧ v ∈ L ∧ (∀ y ∈ L, v ≤ y) ∧ w' = w
structure Mn13 (L : List Int) (k : Nat) (v : Int) : Prop where
  mem : v ∈ L
  le : ∀ i, i < k → v ≤ L.getD i 0
set_option maxRecDepth 100000 in
set_option maxHeartbeats 2000000 in
theorem pmin13 (a : Option Addr) (L : List Int) (n cap : Nat) (w : World) (hs : SegZ w a L) (hn : Hid (L.length = n)) (h1 : 1 ≤ n) (hb : n ≤ 16777216) :
    Calls Try.prog 41 #[.slice a n cap] w (MnQ13 w L) := by
  have hn1 : ¬ (n : Int) < 1 := by omega
  have hn2 : (0 : Int) < (n : Int) := by omega
  obtain ⟨ab, ao, rfl, c0⟩ := hs.at_ 0 (by rw [hn.out]; omega)
  have hbd := hs.bd
  have HBD : Hid (∀ i, -9223372036854775808 ≤ L.getD i 0 ∧ L.getD i 0 ≤ 9223372036854775807) := hbd
  have b0 := hbd 0
  have HC : Hid (∀ i, i < n → w.cell? ⟨ab, ao + i, none⟩ = some (.int .i64 (L.getD i 0))) := fun i hi => by
    obtain ⟨b', o', q1, q2⟩ := hs.at_ i (by rw [hn.out]; exact hi)
    cases q1
    exact q2
  have HM0 : Hid (Mn13 L 1 (L.getD 0 0)) := ⟨by
    have hl : 0 < L.length := by rw [hn.out]; omega
    have : L.getD 0 0 = L[0] := by simp [List.getD, hl]
    rw [this]; exact List.getElem_mem hl, fun i hi => by
    have : i = 0 := by omega
    subst this; exact Int.le_refl _⟩
  have HST : Hid (∀ k v, k < n → Mn13 L k v → (L.getD k 0 < v → Mn13 L (k + 1) (L.getD k 0)) ∧ (¬ L.getD k 0 < v → Mn13 L (k + 1) v)) := fun k v hk hM => by
    have hl : k < L.length := by rw [hn.out]; exact hk
    have hg : L.getD k 0 = L[k] := by simp [List.getD, hl]
    refine ⟨fun h => ⟨by rw [hg]; exact List.getElem_mem hl, fun i hi => ?_⟩, fun h => ⟨hM.mem, fun i hi => ?_⟩⟩
    · by_cases c : i = k
      · subst c; exact Int.le_refl _
      · have := hM.le i (by omega); omega
    · by_cases c : i = k
      · subst c; omega
      · exact hM.le i (by omega)
  clear hs hbd
  rw [Nat.add_zero] at c0
  generalize L.getD 0 0 = v0 at *
  go_enter Try.func41, Try.ntmps41
  go_wp2_with fail
  go_loopw [3, 4] (fun tm ti wr => ∃ (i : Nat) (v : Int), 1 ≤ i ∧ i ≤ n ∧ tm = .int .i64 v ∧ ti = .int .i64 i ∧ Hid (Mn13 L i v) ∧ (-9223372036854775808 ≤ v ∧ v ≤ 9223372036854775807) ∧ wr = w) (fun _ ti _ => n - (intOf ti).toNat)
  case atStart => exact ⟨1, v0, Nat.le_refl _, h1, rfl, rfl, HM0, b0, by first | trivial | rfl⟩
  case round =>
    obtain ⟨i, v, hi1, hi2, rfl, rfl, HM, vb, hw⟩ := hrel
    subst hw
    rename World => w
    by_cases h2 : i < n
    · have h2i : (i : Int) < (n : Int) := by omega
      have c1 := HC.out i h2
      have yb := HBD.out i
      obtain ⟨s1, s2⟩ := HST.out i v h2 HM.out
      have HS1 : Hid (L.getD i 0 < v → Mn13 L (i + 1) (L.getD i 0)) := s1
      have HS2 : Hid (¬ L.getD i 0 < v → Mn13 L (i + 1) v) := fun h => s2 (by omega)
      clear s1 s2
      generalize L.getD i 0 = y at *
      by_cases h3 : y < v
      · have HN : Hid (Mn13 L (i + 1) y) := HS1.out h3
        clear HS1 HS2
        go_wp2_with fail
        go_roundw
        case rel => exact ⟨i + 1, y, by omega, by omega, by go_num, by go_num, HN, yb, by first | trivial | rfl⟩
        case measure => simp [intOf]; omega
      · have HN : Hid (Mn13 L (i + 1) v) := HS2.out h3
        clear HS1 HS2
        go_wp2_with fail
        go_roundw
        case rel => exact ⟨i + 1, v, by omega, by omega, by go_num, by go_num, HN, vb, by first | trivial | rfl⟩
        case measure => simp [intOf]; omega
    · have h2i : ¬ (i : Int) < (n : Int) := by omega
      obtain rfl : i = n := by omega
      have HF : Hid (v ∈ L ∧ ∀ y ∈ L, v ≤ y) := ⟨HM.out.mem, fun y hy => by
        obtain ⟨q, hq, rfl⟩ := List.mem_iff_getElem.1 hy
        have h5 := HM.out.le q (by rw [← hn.out]; exact hq)
        have hg : L.getD q 0 = L[q] := by simp [List.getD, hq]
        rw [hg] at h5
        exact h5⟩
      go_wp2_with fail
      go_ret
      exact ⟨v, rfl, HF.out.1, HF.out.2, rfl⟩
end Go.Proofs.Ytkolffhebakbaaa
