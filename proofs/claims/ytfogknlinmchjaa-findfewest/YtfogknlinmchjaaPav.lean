import Derived.Test.YtfogknlinmchjaaPan
import Derived.Test.YtfogknlinmchjaaPau
namespace Go.Proofs.Ytfogknlinmchjaa
open Go.RowKit
set_option linter.unusedVariables false

/-! slices.Min (split off SuI2). -/
def MnQ13 (w : World) (L : List Int) (e : Ending) (w' : World) : Prop := ∃ v : Int, e = .returned (.int .i64 v) ∧ v ∈ L ∧ (∀ y ∈ L, v ≤ y) ∧ w' = w
structure Mn13 (L : List Int) (k : Nat) (v : Int) : Prop where
  mem : v ∈ L
  le : ∀ i, i < k → v ≤ L.getD i 0
set_option maxRecDepth 100000 in
set_option maxHeartbeats 2000000 in
theorem pmin13 (a : Option Addr) (L : List Int) (n cap : Nat) (w : World) (hs : SegZ w a L) (hn : Hid (L.length = n)) (h1 : 1 ≤ n) (hb : n ≤ 16777216) :
    Calls Try.prog 59 #[.slice a n cap] w (MnQ13 w L) := by
  have hn1 : ¬ (n : Int) < 1 := by omega
  have hn2 : (0 : Int) < (n : Int) := by omega
  obtain ⟨ab, ao, rfl, c0⟩ := hs.at_ 0 (by rw [hn.out]; omega)
  have hbd := hs.bd
  have HBD : Hid (∀ i, -9223372036854775808 ≤ L.getD i 0 ∧ L.getD i 0 ≤ 9223372036854775807) := hbd
  have b0 := hbd 0
  have HC : Hid (∀ i, i < n → w.cell? ⟨ab, ao + i, none⟩ = some (.int .i64 (L.getD i 0))) := fun i hi => by
    obtain ⟨b', o', q1, q2⟩ := hs.at_ i (by rw [hn.out]; exact hi)
    cases q1
    exact q2
  have HM0 : Hid (Mn13 L 1 (L.getD 0 0)) := ⟨by
    have hl : 0 < L.length := by rw [hn.out]; omega
    have : L.getD 0 0 = L[0] := by simp [List.getD, hl]
    rw [this]; exact List.getElem_mem hl, fun i hi => by
    have : i = 0 := by omega
    subst this; exact Int.le_refl _⟩
  have HST : Hid (∀ k v, k < n → Mn13 L k v → (L.getD k 0 < v → Mn13 L (k + 1) (L.getD k 0)) ∧ (¬ L.getD k 0 < v → Mn13 L (k + 1) v)) := fun k v hk hM => by
    have hl : k < L.length := by rw [hn.out]; exact hk
    have hg : L.getD k 0 = L[k] := by simp [List.getD, hl]
    refine ⟨fun h => ⟨by rw [hg]; exact List.getElem_mem hl, fun i hi => ?_⟩, fun h => ⟨hM.mem, fun i hi => ?_⟩⟩
    · by_cases c : i = k
      · subst c; exact Int.le_refl _
      · have := hM.le i (by omega); omega
    · by_cases c : i = k
      · subst c; omega
      · exact hM.le i (by omega)
  clear hs hbd
  rw [Nat.add_zero] at c0
  generalize L.getD 0 0 = v0 at *
  go_enter Try.func59, Try.ntmps59
  go_wp2_with fail
  go_loopw [3, 4] (fun tm ti wr => ∃ (i : Nat) (v : Int), 1 ≤ i ∧ i ≤ n ∧ tm = .int .i64 v ∧ ti = .int .i64 i ∧ Hid (Mn13 L i v) ∧ (-9223372036854775808 ≤ v ∧ v ≤ 9223372036854775807) ∧ wr = w) (fun _ ti _ => n - (intOf ti).toNat)
  case atStart => exact ⟨1, v0, Nat.le_refl _, h1, rfl, rfl, HM0, b0, by first | trivial | rfl⟩
  case round =>
    obtain ⟨i, v, hi1, hi2, rfl, rfl, HM, vb, hw⟩ := hrel
    subst hw
    rename World => w
    by_cases h2 : i < n
    · have h2i : (i : Int) < (n : Int) := by omega
      have c1 := HC.out i h2
      have yb := HBD.out i
      obtain ⟨s1, s2⟩ := HST.out i v h2 HM.out
      have HS1 : Hid (L.getD i 0 < v → Mn13 L (i + 1) (L.getD i 0)) := s1
      have HS2 : Hid (¬ L.getD i 0 < v → Mn13 L (i + 1) v) := fun h => s2 (by omega)
      clear s1 s2
      generalize L.getD i 0 = y at *
      by_cases h3 : y < v
      · have HN : Hid (Mn13 L (i + 1) y) := HS1.out h3
        clear HS1 HS2
        go_wp2_with fail
        go_roundw
        case rel => exact ⟨i + 1, y, by omega, by omega, by go_num, by go_num, HN, yb, by first | trivial | rfl⟩
        case measure => simp [intOf]; omega
      · have HN : Hid (Mn13 L (i + 1) v) := HS2.out h3
        clear HS1 HS2
        go_wp2_with fail
        go_roundw
        case rel => exact ⟨i + 1, v, by omega, by omega, by go_num, by go_num, HN, vb, by first | trivial | rfl⟩
        case measure => simp [intOf]; omega
    · have h2i : ¬ (i : Int) < (n : Int) := by omega
      obtain rfl : i = n := by omega
      have HF : Hid (v ∈ L ∧ ∀ y ∈ L, v ≤ y) := ⟨HM.out.mem, fun y hy => by
        obtain ⟨q, hq, rfl⟩ := List.mem_iff_getElem.1 hy
        have h5 := HM.out.le q (by rw [← hn.out]; exact hq)
        have hg : L.getD q 0 = L[q] := by simp [List.getD, hq]
        rw [hg] at h5
        exact h5⟩
      go_wp2_with fail
      go_ret
      exact ⟨v, rfl, HF.out.1, HF.out.2, rfl⟩
end Go.Proofs.Ytfogknlinmchjaa

namespace Go.Proofs.Ytfogknlinmchjaa
open Go.RowKit
set_option linter.unusedVariables false

/-! Rows of least places: mathematics, and the landed rowsOf. -/
structure Row14 (A : List Nat) (u : Nat) (R : List Nat) : Prop where
  len : R.length * u ≤ A.length
  is : ∀ i, i < R.length → Le14 A (u * i) (u * (i + 1)) (R.getD i 0)
theorem Row14.one (A : List Nat) : Row14 A 1 A :=
  ⟨by omega, fun i hi => ⟨⟨i, by omega, by omega, rfl⟩, fun r h1 h2 => by rw [show r = i by omega]; exact Nat.le_refl _⟩⟩
theorem Row14.up {A : List Nat} {u : Nat} {R : List Nat} (h : Row14 A u R) (hu : 0 < u) {i v : Nat} (hi : 16 * (i + 1) ≤ R.length) (hv : Le14 R (16 * i) (16 * (i + 1)) v) : Le14 A (u * 16 * i) (u * 16 * (i + 1)) v := by
  have m1 : ∀ a b, a ≤ b → u * a ≤ u * b := fun a b hab => Nat.mul_le_mul_left u hab
  have e1 : u * 16 * i = u * (16 * i) := Nat.mul_assoc _ _ _
  have e2 : u * 16 * (i + 1) = u * (16 * (i + 1)) := Nat.mul_assoc _ _ _
  rw [e1, e2]
  refine ⟨?_, fun q h1 h2 => ?_⟩
  · obtain ⟨r, r1, r2, r3⟩ := hv.is
    obtain ⟨q, q1, q2, q3⟩ := (h.is r (by omega)).is
    have := m1 _ _ r1
    have := m1 (r + 1) (16 * (i + 1)) r2
    exact ⟨q, by omega, by omega, by rw [q3, r3]⟩
  · have d1 : u * (q / u) ≤ q := Nat.mul_div_le q u
    have d2 : q < u * (q / u + 1) := Nat.lt_mul_div_succ q hu
    have a1 : 16 * i ≤ q / u := (Nat.le_div_iff_mul_le hu).2 (by rw [Nat.mul_comm]; exact h1)
    have a2 : q / u < 16 * (i + 1) := (Nat.div_lt_iff_lt_mul hu).2 (by rw [Nat.mul_comm]; exact h2)
    have b1 := hv.le (q / u) a1 a2
    have b2 := (h.is (q / u) (by omega)).le q d1 d2
    omega
theorem Row14.next {A : List Nat} {u : Nat} {R R' : List Nat} (h : Row14 A u R) (hu : 0 < u) (hl : R'.length = R.length / 16) (hR : ∀ i, i < R'.length → Le14 R (16 * i) (16 * (i + 1)) (R'.getD i 0)) : Row14 A (u * 16) R' := by
  refine ⟨?_, fun i hi => h.up hu (by omega) (hR i hi)⟩
  have h1 := h.len
  have h2 : R'.length * 16 ≤ R.length := by omega
  have h3 : R'.length * 16 * u ≤ R.length * u := Nat.mul_le_mul_right u h2
  rw [show R'.length * (u * 16) = R'.length * 16 * u by rw [Nat.mul_assoc, Nat.mul_comm 16 u]]
  omega
/-- What is left to be looked at, and the least of the rest. -/
structure Lf14 (A : List Nat) (lo0 hi0 u lo hi v : Nat) : Prop where
  le : lo ≤ hi
  has : ∃ r, lo0 ≤ r ∧ r < hi0 ∧ A.getD r 0 = v
  out : ∀ r, lo0 ≤ r → r < hi0 → v ≤ A.getD r 0 ∨ (u * lo ≤ r ∧ r < u * hi)
  inn : lo < hi → lo0 ≤ u * lo ∧ u * hi ≤ hi0
theorem Lf14.start (A : List Nat) {lo hi : Nat} (h : lo < hi) : Lf14 A lo hi 1 lo hi (A.getD lo 0) :=
  ⟨by omega, ⟨lo, by omega, h, rfl⟩, fun r h1 h2 => Or.inr ⟨by omega, by omega⟩, fun _ => ⟨by omega, by omega⟩⟩
theorem Lf14.lo1 {A : List Nat} {u : Nat} {R : List Nat} {lo0 hi0 lo hi v : Nat} (hR : Row14 A u R) (h : Lf14 A lo0 hi0 u lo hi v) (hlt : lo < hi) (hhi : hi ≤ R.length) : Lf14 A lo0 hi0 u (lo + 1) hi (min v (R.getD lo 0)) := by
  have hr := hR.is lo (by omega)
  obtain ⟨i1, i2⟩ := h.inn hlt
  have m1 : u * (lo + 1) ≤ u * hi := Nat.mul_le_mul_left u hlt
  have m2 : u * (lo + 1) = u * lo + u := by rw [Nat.mul_add, Nat.mul_one]
  refine ⟨by omega, ?_, fun r h1 h2 => ?_, fun _ => ⟨by omega, i2⟩⟩
  · by_cases c : v ≤ R.getD lo 0
    · obtain ⟨r, r1, r2, r3⟩ := h.has
      exact ⟨r, r1, r2, by omega⟩
    · obtain ⟨r, r1, r2, r3⟩ := hr.is
      exact ⟨r, by omega, by omega, by omega⟩
  · rcases h.out r h1 h2 with c | ⟨c1, c2⟩
    · left; omega
    · by_cases d : r < u * (lo + 1)
      · have := hr.le r c1 d
        left; omega
      · right; exact ⟨by omega, c2⟩
theorem Lf14.hi1 {A : List Nat} {u : Nat} {R : List Nat} {lo0 hi0 lo hi v : Nat} (hR : Row14 A u R) (h : Lf14 A lo0 hi0 u lo hi v) (hlt : lo < hi) (hhi : hi ≤ R.length) : Lf14 A lo0 hi0 u lo (hi - 1) (min v (R.getD (hi - 1) 0)) := by
  have hr := hR.is (hi - 1) (by omega)
  rw [show hi - 1 + 1 = hi by omega] at hr
  obtain ⟨i1, i2⟩ := h.inn hlt
  have m1 : u * lo ≤ u * (hi - 1) := Nat.mul_le_mul_left u (by omega)
  have m2 : u * (hi - 1) ≤ u * hi := Nat.mul_le_mul_left u (by omega)
  refine ⟨by omega, ?_, fun r h1 h2 => ?_, fun _ => ⟨i1, by omega⟩⟩
  · by_cases c : v ≤ R.getD (hi - 1) 0
    · obtain ⟨r, r1, r2, r3⟩ := h.has
      exact ⟨r, r1, r2, by omega⟩
    · obtain ⟨r, r1, r2, r3⟩ := hr.is
      exact ⟨r, by omega, by omega, by omega⟩
  · rcases h.out r h1 h2 with c | ⟨c1, c2⟩
    · left; omega
    · by_cases d : u * (hi - 1) ≤ r
      · have := hr.le r d c2
        left; omega
      · right; exact ⟨c1, by omega⟩
theorem Lf14.up {A : List Nat} {u lo0 hi0 lo hi v : Nat} (h : Lf14 A lo0 hi0 u lo hi v) (hc : lo = hi ∨ (lo % 16 = 0 ∧ hi % 16 = 0)) : Lf14 A lo0 hi0 (u * 16) (lo / 16) (hi / 16) v := by
  have hle := h.le
  by_cases c : lo = hi
  · subst c
    refine ⟨Nat.le_refl _, h.has, fun r h1 h2 => ?_, fun k => by omega⟩
    rcases h.out r h1 h2 with d | ⟨d1, d2⟩
    · exact Or.inl d
    · omega
  · obtain ⟨c1, c2⟩ : lo % 16 = 0 ∧ hi % 16 = 0 := by rcases hc with d | d; exact absurd d c; exact d
    have e1 : u * 16 * (lo / 16) = u * lo := by rw [Nat.mul_assoc]; congr 1; omega
    have e2 : u * 16 * (hi / 16) = u * hi := by rw [Nat.mul_assoc]; congr 1; omega
    refine ⟨by omega, h.has, fun r h1 h2 => ?_, fun k => ?_⟩
    · rw [e1, e2]; exact h.out r h1 h2
    · rw [e1, e2]; exact h.inn (by omega)
theorem Lf14.fin {A : List Nat} {u lo0 hi0 lo v : Nat} (h : Lf14 A lo0 hi0 u lo lo v) : Le14 A lo0 hi0 v :=
  ⟨h.has, fun r h1 h2 => by rcases h.out r h1 h2 with c | ⟨c1, c2⟩; exact c; omega⟩
/-! Rows in memory. -/
structure Rws14 (w : World) (go l : Nat) (A : List Nat) (Rs : List (List Nat)) : Prop where
  len : Rs.length = l
  pos : 1 ≤ l
  small : l ≤ 16777217
  at_ : ∀ t, t < l → ∃ ra rc, w.cell? ⟨go, t, none⟩ = some (.slice ra (Rs.getD t []).length rc) ∧ SegZ w ra (nz12 (Rs.getD t [])) ∧ Row14 A (16 ^ t) (Rs.getD t [])
  zero : Rs.getD 0 [] = A
  last : (Rs.getD (l - 1) []).length < 16
  nxt : ∀ t, t + 1 < l → (Rs.getD (t + 1) []).length = (Rs.getD t []).length / 16
theorem Rws14.old {w w' : World} {go l : Nat} {A : List Nat} {Rs : List (List Nat)} (h : Rws14 w go l A Rs) (hb : Below w.heap.size w w') : Rws14 w' go l A Rs :=
  ⟨h.len, h.pos, h.small, fun t ht => by
    obtain ⟨ra, rc, h1, h2, h3⟩ := h.at_ t ht
    exact ⟨ra, rc, (hb.cell (p := ⟨go, t, none⟩) (World.block_lt_of_cell? w _ h1)).trans h1, h2.old hb, h3⟩, h.zero, h.last, h.nxt⟩
def slen14 : Value → Nat
  | .slice _ n _ => n
  | _ => 0
def RowsQ14 (w : World) (A : List Nat) (e : Ending) (w' : World) : Prop := ∃ go l oc Rs, e = .returned (.slice (some ⟨go, 0, none⟩) l oc) ∧ Rws14 w' go l A Rs ∧ w.heap.size ≤ go ∧ Below w.heap.size w w'
theorem info_sl14 : (Try.prog.info? 28).map (fun i => (i.zero, i.size, i.bytes)) = some (some (.slice none 0 0), 1, 24) := by kernel_rfl
/-- The rows that are made so far. -/
structure Rp14 (w : World) (go t : Nat) (A : List Nat) (Rs : List (List Nat)) (vs : List Value) : Prop where
  len : Rs.length = t + 1
  vlen : vs.length = t + 1
  at_ : ∀ j, j ≤ t → ∃ ra rc, vs[j]? = some (.slice ra (Rs.getD j []).length rc) ∧ SegZ w ra (nz12 (Rs.getD j [])) ∧ Row14 A (16 ^ j) (Rs.getD j []) ∧ (∀ x off, ra = some ⟨x, off, none⟩ → 0 < (nz12 (Rs.getD j [])).length → x ≠ go)
  zero : Rs.getD 0 [] = A
  nxt : ∀ j, j + 1 ≤ t → (Rs.getD (j + 1) []).length = (Rs.getD j []).length / 16
theorem Rp14.old {w w' : World} {go t : Nat} {A : List Nat} {Rs : List (List Nat)} {vs : List Value} (h : Rp14 w go t A Rs vs) (hb : Below w.heap.size w w') : Rp14 w' go t A Rs vs :=
  ⟨h.len, h.vlen, fun j hj => by
    obtain ⟨ra, rc, a1, a2, a3, a4⟩ := h.at_ j hj
    exact ⟨ra, rc, a1, a2.old hb, a3, a4⟩, h.zero, h.nxt⟩
end Go.Proofs.Ytfogknlinmchjaa

namespace Go.Proofs.Ytfogknlinmchjaa
open Go.RowKit
set_option linter.unusedVariables false

/-! The landed rowsOf. -/
theorem nz_mem14 {R : List Nat} {v : Int} {i : Nat} (h : 16 * (i + 1) ≤ R.length) (hm : v ∈ ((nz12 R).drop (16 * i)).take 16) (hle : ∀ y ∈ ((nz12 R).drop (16 * i)).take 16, v ≤ y) : ∃ m : Nat, v = (m : Int) ∧ Le14 R (16 * i) (16 * (i + 1)) m := by
  have get : ∀ j, j < 16 → (((nz12 R).drop (16 * i)).take 16)[j]? = some ((R.getD (16 * i + j) 0 : Nat) : Int) := fun j hj => by
    rw [List.getElem?_take, if_pos hj, List.getElem?_drop]
    have hlt : 16 * i + j < R.length := by omega
    simp [nz12, List.getD, hlt]
  obtain ⟨j, hj, e⟩ := List.mem_iff_getElem.1 hm
  have hj16 : j < 16 := by rw [List.length_take] at hj; omega
  have g := get j hj16
  rw [List.getElem?_eq_getElem hj, e] at g
  refine ⟨R.getD (16 * i + j) 0, by simpa using g, ⟨16 * i + j, by omega, by omega, rfl⟩, fun r h1 h2 => ?_⟩
  have g2 := get (r - 16 * i) (by omega)
  rw [show 16 * i + (r - 16 * i) = r by omega] at g2
  have := hle _ (List.mem_of_getElem? g2)
  have g3 : v = ((R.getD (16 * i + j) 0 : Nat) : Int) := by simpa using g
  omega
theorem nz12_bd14 {w : World} {g : Nat} {R : List Nat} (h : Rz12 w g (nz12 R)) (hb : ∀ y ∈ R, y ≤ 9223372036854775807) : ∀ z ∈ nz12 R, -9223372036854775808 ≤ z ∧ z ≤ 9223372036854775807 := by
  intro z hz
  unfold nz12 at hz
  rw [List.mem_map] at hz
  obtain ⟨j, hj, rfl⟩ := hz
  have := hb j hj
  omega
theorem nz_set14 (R : List Nat) (i m : Nat) : (nz12 R).set i (m : Int) = nz12 (R.set i m) := by simp [nz12, List.map_set]
theorem Rp14.first {w : World} {go n ac : Nat} {aa : Option Addr} {A : List Nat} (hs : SegZ w aa (nz12 A)) (hn : A.length = n) (hx : ∀ x off, aa = some ⟨x, off, none⟩ → 0 < (nz12 A).length → x ≠ go) : Rp14 w go 0 A [A] [.slice aa n ac] :=
  ⟨rfl, rfl, fun j hj => by
    have : j = 0 := by omega
    subst this
    exact ⟨aa, ac, by simp [hn], by simpa using hs, by simpa using Row14.one A, by simpa using hx⟩, rfl, fun j hj => by omega⟩
theorem Rp14.more {w w' : World} {go go' t : Nat} {A : List Nat} {Rs : List (List Nat)} {vs : List Value} (h : Rp14 w go t A Rs vs) {R' : List Nat} {g5 : Nat} (hl : R'.length = (Rs.getD t []).length / 16) (hR : ∀ i, i < R'.length → Le14 (Rs.getD t []) (16 * i) (16 * (i + 1)) (R'.getD i 0)) (hK : ∀ (a : Option Addr) (l : List Int), SegZ w a l → (∀ x off, a = some ⟨x, off, none⟩ → 0 < l.length → x ≠ go) → SegZ w' a l ∧ (∀ x off, a = some ⟨x, off, none⟩ → 0 < l.length → x ≠ go')) (h5 : SegZ w' (some ⟨g5, 0, none⟩) (nz12 R')) (h5g : g5 ≠ go') :
    Rp14 w' go' (t + 1) A (Rs ++ [R']) (vs ++ [.slice (some ⟨g5, 0, none⟩) R'.length R'.length]) := by
  have g1 : ∀ j, j ≤ t → (Rs ++ [R']).getD j [] = Rs.getD j [] := fun j hj => by
    have : j < Rs.length := by rw [h.len]; omega
    simp [List.getD, List.getElem?_append_left this]
  have g2 : (Rs ++ [R']).getD (t + 1) [] = R' := by
    have := h.len
    simp [List.getD, this]
  refine ⟨by simp [h.len], by simp [h.vlen], fun j hj => ?_, by rw [g1 0 (by omega)]; exact h.zero, fun j hj => ?_⟩
  · by_cases c : j ≤ t
    · obtain ⟨ra, rc, a1, a2, a3, a4⟩ := h.at_ j c
      rw [g1 j c]
      have hv : j < vs.length := by rw [h.vlen]; omega
      exact ⟨ra, rc, by rw [List.getElem?_append_left hv]; exact a1, (hK ra _ a2 a4).1, a3, (hK ra _ a2 a4).2⟩
    · have : j = t + 1 := by omega
      subst this
      rw [g2]
      obtain ⟨ra, rc, a1, a2, a3, a4⟩ := h.at_ t (Nat.le_refl _)
      refine ⟨some ⟨g5, 0, none⟩, R'.length, ?_, h5, ?_, fun x off e _ => by cases e; exact h5g⟩
      · have := h.vlen
        simp [this]
      · rw [Nat.pow_succ]
        exact a3.next (Nat.pow_pos (by decide)) hl hR
  · by_cases c : j + 1 ≤ t
    · rw [g1 (j + 1) c, g1 j (by omega)]; exact h.nxt j c
    · have : j = t := by omega
      subst this
      rw [g2, g1 j (Nat.le_refl _)]; exact hl
theorem Rp14.fin {w : World} {go t oc base : Nat} {A : List Nat} {Rs : List (List Nat)} {vs : List Value} {e : TypeId} (h : Rp14 w go t A Rs vs) (ho : w.ownsRow base e 1 (.slice (some ⟨go, 0, none⟩) (t + 1) oc) (t + 1) vs) (hl : (Rs.getD t []).length < 16) (ht : t ≤ 16777216) : Rws14 w go (t + 1) A Rs :=
  ⟨h.len, by omega, by omega, fun j hj => by
    obtain ⟨ra, rc, a1, a2, a3, _⟩ := h.at_ j (by omega)
    have hadd : (⟨go, 0, none⟩ : Addr).add j = ⟨go, j, none⟩ := by unfold Addr.add; split <;> simp_all
    have := ho.cells (g := go) rfl j _ a1
    rw [hadd] at this
    exact ⟨ra, rc, this, a2, a3⟩, h.zero, by simpa using hl, fun j hj => h.nxt j (by omega)⟩
/-- Where the rows lie. -/
def Rq14 (vs : List Value) (B : Nat) : Prop := ∀ (j : Nat) (ra : Option Addr) (len rc : Nat), vs[j]? = some (.slice ra len rc) → ∀ x off : Nat, ra = some ⟨x, off, none⟩ → 0 < len → B ≤ x
theorem Rq14.one {B n ac : Nat} {aa : Option Addr} (h : ∀ x off, aa = some ⟨x, off, none⟩ → B ≤ x) : Rq14 [.slice aa n ac] B := fun j ra len rc e x off ha h0 => by
  rcases j with _ | j
  · simp at e
    exact h x off (by rw [e.1]; exact ha)
  · simp at e
theorem Rq14.app {vs : List Value} {B g5 k c : Nat} (h : Rq14 vs B) (h5 : B ≤ g5) : Rq14 (vs ++ [.slice (some ⟨g5, 0, none⟩) k c]) B := fun j ra len rc e x off ha h0 => by
  rcases Nat.lt_or_ge j vs.length with c1 | c1
  · rw [List.getElem?_append_left c1] at e
    exact h j ra len rc e x off ha h0
  · rw [List.getElem?_append_right c1] at e
    rcases hj : j - vs.length with _ | q
    · rw [hj] at e
      simp at e
      have := e.1
      rw [ha] at this
      simp at this
      omega
    · rw [hj] at e
      simp at e
def Rb14 (w : World) (go l B H : Nat) : Prop := (B ≤ go ∧ go < H) ∧ ∀ (t : Nat), t < l → ∀ (ra : Option Addr) (len rc : Nat), w.cell? ⟨go, t, none⟩ = some (.slice ra len rc) → ∀ x off : Nat, ra = some ⟨x, off, none⟩ → 0 < len → B ≤ x ∧ x < H
theorem Rp14.bnd {w : World} {go t oc base B : Nat} {A : List Nat} {Rs : List (List Nat)} {vs : List Value} {e : TypeId} (h : Rp14 w go t A Rs vs) (ho : w.ownsRow base e 1 (.slice (some ⟨go, 0, none⟩) (t + 1) oc) (t + 1) vs) (hq : Rq14 vs B) (hB : B ≤ base) : Rb14 w go (t + 1) B w.heap.size := by
  have h1 := ho.lt go rfl
  refine ⟨⟨by omega, h1.2⟩, fun j hj ra len rc hc x off ha h0 => ?_⟩
  obtain ⟨ra', rc', a1, a2, a3, _⟩ := h.at_ j (by omega)
  have hadd : (⟨go, 0, none⟩ : Addr).add j = ⟨go, j, none⟩ := by unfold Addr.add; split <;> simp_all
  have h2 := ho.cells (g := go) rfl j _ a1
  rw [hadd, hc] at h2
  have h3 := Option.some.inj h2
  injection h3 with e1 e2 e3
  refine ⟨hq j ra' _ rc' a1 x off (by rw [← e1]; exact ha) (by omega), a2.lt x off (by rw [← e1]; exact ha) (by rw [nz12_len13]; omega)⟩
def RowsR14 (w : World) (A : List Nat) (B : Nat) (e : Ending) (w' : World) : Prop := ∃ go l oc Rs, e = .returned (.slice (some ⟨go, 0, none⟩) l oc) ∧ Rws14 w' go l A Rs ∧ Rb14 w' go l B w'.heap.size ∧ w.heap.size ≤ go ∧ Below w.heap.size w w'
set_option maxRecDepth 100000 in
set_option maxHeartbeats 8000000 in
theorem prows14 (aa : Option Addr) (A : List Nat) (n ac : Nat) (w : World) (hs : SegZ w aa (nz12 A)) (hn : Hid (A.length = n)) (hac : n ≤ ac) (hn24 : n ≤ 16777216) (hlt : ∀ x off, aa = some ⟨x, off, none⟩ → x < w.heap.size) (B : Nat) (hB : ∀ x off, aa = some ⟨x, off, none⟩ → B ≤ x) (hBw : B ≤ w.heap.size) :
    Calls Try.prog 46 #[.slice aa n ac] w (RowsR14 w A B) := by
  have HQ0 : Hid (Rq14 [.slice aa n ac] B) := Rq14.one hB
  obtain ⟨i0, hi, hz0, hz1, hz2⟩ := info_parts info_sl14
  have hm0 : (w.alloc (.cells #[.slice aa n ac] 28)).ownsRow w.heap.size 28 1 (.slice (some ⟨w.heap.size, 0, none⟩) 1 1) 1 [.slice aa n ac] := ⟨by simp, .inr ⟨w.heap.size, 1, _, rfl, Nat.le_refl _, heap_alloc_new w _, Nat.le_refl _, by unfold maxLen; omega, by simp, by simp⟩⟩
  obtain ⟨w1, hw1⟩ : ∃ w1, w1 = w.alloc (.cells #[.slice aa n ac] 28) := ⟨_, rfl⟩
  have BW1 : Below w.heap.size w w1 := by rw [hw1]; exact (Below.refl _ _).alloc (Nat.le_refl _) _
  have HW1 : Hid (w1 = w.alloc (.cells #[.slice aa n ac] 28)) := hw1
  rw [← hw1] at hm0
  have P0 : Rp14 w1 w.heap.size 0 A [A] [.slice aa n ac] := Rp14.first (hs.old BW1) hn.out (fun x off e _ => by have := hlt x off e; omega)
  have sa1 := hs.old BW1
  clear hw1 hs
  have hq : w.heap.size < w1.heap.size := by have := hm0.lt w.heap.size rfl; omega
  obtain ⟨q, hqe⟩ : ∃ q, q = w.heap.size := ⟨_, rfl⟩
  have HQE : Hid (q = w.heap.size) := hqe
  rw [← hqe] at hm0 P0 BW1 hq hBw
  go_enter Try.func46, Try.ntmps46
  go_wp2_with fail
  rw [← HW1.out, ← hqe]
  clear hqe
  go_loopw [3, 4] (fun to tr wr => ∃ (t go oc rc : Nat) (ra : Option Addr) (Rs : List (List Nat)) (vs : List Value) (R : List Nat), to = .slice (some ⟨go, 0, none⟩) (t + 1) oc ∧ tr = .slice ra R.length rc ∧ R = Rs.getD t [] ∧ R.length ≤ rc ∧ t + R.length ≤ n ∧ SegZ wr ra (nz12 R) ∧ wr.ownsRow q 28 1 (.slice (some ⟨go, 0, none⟩) (t + 1) oc) (t + 1) vs ∧ Rp14 wr go t A Rs vs ∧ Hid (Rq14 vs B) ∧ Below q w wr) (fun _ tr _ => slen14 tr)
  case atStart => exact ⟨0, q, 1, ac, aa, [A], _, A, rfl, by rw [hn.out], rfl, by rw [hn.out]; exact hac, by rw [hn.out]; omega, sa1, hm0, P0, HQ0, BW1⟩
  case round =>
    obtain ⟨t, go, oc, rc, ra, Rs, vs, R, rfl, rfl, hR, hrc, htn, sr, own, RP, HRQ, BR⟩ := hrel
    clear P0 hm0 sa1
    obtain ⟨rl, hrl⟩ : ∃ rl, rl = R.length := ⟨_, rfl⟩
    have HRL : Hid (rl = R.length) := hrl
    rw [← hrl] at hrc htn ⊢
    have HR0 : Hid (R = Rs.getD t []) := hR
    by_cases h1 : 16 ≤ rl
    · have h1i : (16 : Int) ≤ (rl : Int) := by omega
      obtain ⟨k, hk⟩ : ∃ k, k = rl / 16 := ⟨_, rfl⟩
      have i1 : (rl : Int) / 16 = (k : Int) := by omega
      have i2 : (rl : Int).tdiv 16 = (k : Int) := by rw [Int.tdiv_eq_ediv_of_nonneg (by omega)]; exact i1
      have hk16 : 16 * k ≤ rl := by omega
      have hk1 : 1 ≤ k := by omega
      have HKL : Hid (k = R.length / 16) := by show _ = _; rw [hk, hrl]
      have HMK := run_make_i12 k (by omega) wr
      obtain ⟨rb, ro, rfl, -⟩ := sr.at_ 0 (by rw [nz12_len13, ← hrl]; omega)
      obtain ⟨g5, hg5⟩ : ∃ g5, g5 = wr.heap.size := ⟨_, rfl⟩
      have HG5 : Hid (g5 = wr.heap.size) := hg5
      obtain ⟨w5, hw5⟩ : ∃ w5, w5 = wr.alloc (.cells (vi12 (List.replicate k 0)) 3) := ⟨_, rfl⟩
      have HW5 : Hid (w5 = wr.alloc (.cells (vi12 (List.replicate k 0)) 3)) := hw5
      rw [← hw5, ← hg5] at HMK
      have R5 : Rz12 w5 g5 (nz12 (List.replicate k 0)) := by
        rw [hw5, hg5]
        have := Rz12.new wr (List.replicate k 0)
        rw [show nz12 (List.replicate k 0) = List.replicate k 0 by simp [nz12]]
        exact this
      have B5 : Below wr.heap.size wr w5 := by rw [hw5]; exact (Below.refl _ _).alloc (Nat.le_refl _) _
      have HSR : Hid (∀ W, Below wr.heap.size wr W → SegZ W (some ⟨rb, ro, none⟩) (nz12 R)) := fun W hb => sr.old hb
      have HMN : Hid (∀ W L i c, Below wr.heap.size wr W → 16 * (i + 1) ≤ rl → L = 16 → Calls Try.prog 59 #[.slice (some ⟨rb, ro + 16 * i, none⟩) L c] W fun e w' => ∃ m : Nat, e = .returned (.int .i64 (m : Int)) ∧ Le14 R (16 * i) (16 * (i + 1)) m ∧ w' = W) := fun W L i c hb hi hL => by
        subst hL
        refine (pmin13 _ (((nz12 R).drop (16 * i)).take 16) 16 c W (((sr.old hb).dropZ (16 * i)).take 16) (by show _ = _; rw [List.length_take, List.length_drop, nz12_len13, ← HRL.out]; omega) (by omega) (by omega)).mono ?_
        rintro e w' ⟨v, he, hm, hle, hw⟩
        obtain ⟨m, hv, hl⟩ := nz_mem14 (by rw [← HRL.out]; exact hi) hm hle
        exact ⟨m, by rw [he, hv], hl, hw⟩
      have hbq : q ≤ wr.heap.size := by have := BR.size; have := HQE.out; omega
      have HBD : Hid (∀ r, r < R.length → R.getD r 0 ≤ 9223372036854775807) := fun r hr => by
        have := sr.bd r
        rw [nz12_get13 hr] at this
        omega
      clear hk hg5 hw5 sr hrl hR
      go_wp2_with fail
      go_loopw [19] (fun ti w2 => ∃ (i : Nat) (R' : List Nat), i ≤ k ∧ ti = .int .i64 i ∧ R'.length = k ∧ Rz12 w2 g5 (nz12 R') ∧ Hid (∀ j, j < i → Le14 R (16 * j) (16 * (j + 1)) (R'.getD j 0)) ∧ Below wr.heap.size wr w2) (fun ti _ => k - (intOf ti).toNat)
      case atStart => exact ⟨0, List.replicate k 0, Nat.zero_le _, rfl, by simp, R5, (fun j hj => by omega), B5⟩
      case round =>
        clear R5 B5 HMK
        rename World => w2
        obtain ⟨i, R', hik, rfl, hR'l, RZ, HLE, B2⟩ := hrel
        by_cases h2 : i < k
        · have h2i : (i : Int) < (k : Int) := by omega
          obtain ⟨s, hs⟩ : ∃ s, s = 16 * i := ⟨_, rfl⟩
          obtain ⟨s2, hs2⟩ : ∃ s2, s2 = 16 * (i + 1) := ⟨_, rfl⟩
          have HM := HMN.out w2
          have HMI : Hid (∀ L c, L = 16 → Calls Try.prog 59 #[.slice (some ⟨rb, ro + s, none⟩) L c] w2 fun e w' => ∃ m : Nat, e = .returned (.int .i64 (m : Int)) ∧ Le14 R s s2 m ∧ w' = w2) := fun L c hL => by rw [hs, hs2]; exact HM L i c B2 (by omega) hL
          have j1 : IntKind.i64.wrap ((i : Int) * 16) = (s : Int) := by rw [show (i : Int) * 16 = (s : Int) by omega]; exact IntWalk.i64_in _ (by omega)
          have j2 : IntKind.i64.wrap (((i : Int) + 1) * 16) = (s2 : Int) := by rw [show ((i : Int) + 1) * 16 = (s2 : Int) by omega]; exact IntWalk.i64_in _ (by omega)
          have l1 : (s : Int) ≤ (s2 : Int) := by omega
          have l2 : (s2 : Int) ≤ (rc : Int) := by omega
          have l3 : ¬ rc = s := by omega
          have H4 : Hid (s2 - s = 16) := by show _ = _; omega
          have l5 : s ≤ s2 := by omega
          have c1 := RZ.cell (i := i) (by rw [nz12_len13]; omega)
          have f1 := RZ.free i
          have HSE : Hid (∀ m : Nat, Le14 R s s2 m → ∃ R2 : List Nat, R2.length = k ∧ Rz12 (w2.setCell ⟨g5, i, none⟩ (.int .i64 (m : Int))) g5 (nz12 R2) ∧ (∀ j, j < i + 1 → Le14 R (16 * j) (16 * (j + 1)) (R2.getD j 0))) := fun m hm => by
            refine ⟨R'.set i m, by rw [List.length_set]; exact hR'l, ?_, fun j hj => ?_⟩
            · rw [← nz_set14]; exact RZ.set i _
            · by_cases c : j = i
              · subst c
                rw [hs, hs2] at hm
                have : j < R'.length := by omega
                simpa [List.getD, this] using hm
              · have := HLE.out j (by omega)
                have hne : ¬ i = j := fun e => c e.symm
                simpa [List.getD, List.getElem?_set, hne] using this
          have HBS : Hid (∀ v, Below wr.heap.size wr (w2.setCell ⟨g5, i, none⟩ v)) := fun v => below_set14 B2 (by rw [HG5.out]; exact Nat.le_refl _)
          generalize (nz12 R').getD i 0 = y at *
          clear hs hs2 HM RZ HLE
          go_wp2_with (first
            | (go_at_call 59; fail))
          refine (HMI.out _ _ (by have := H4.out; omega)).mono ?_
          rintro e7 w7 ⟨m, rfl, hm, hw7⟩
          subst hw7
          obtain ⟨R2, r1, r2, r3⟩ := HSE.out m hm
          have HR3 : Hid (∀ j, j < i + 1 → Le14 R (16 * j) (16 * (j + 1)) (R2.getD j 0)) := r3
          clear r3 hm
          go_wp2_with fail
          go_roundw
          case rel => exact ⟨i + 1, R2, by omega, by go_num, r1, r2, HR3, HBS.out _⟩
          case measure => simp [intOf]; omega
        · have h2i : ¬ (i : Int) < (k : Int) := by omega
          obtain rfl : i = k := by omega
          have own2 := own_below own B2
          have RP2 := RP.old B2
          have sz2 := B2.size
          have hgo := own.lt go rfl
          have hg5 := RZ.lt
          go_wp2_with (first
            | (at_builtin; refine wpList_app1 rfl (.tmp 34) (.tmp 36) 67 rfl q 28 i0 (.slice none 0 0) 24 Try.underlying67 hi hz0 hz1 hz2 rfl w2 (.slice (some ⟨g5, 0, none⟩) i i) rfl own2 rfl rfl (by omega) (by omega) (by omega) ?_; intro go' oc' w8 own8 gr8 fr8))
          have K8 : Kp (fun x => x = go) w2 w8 := Kp.grown gr8 (fun x e => by simpa [Value.ownBlock] using e.symm)
          have hgo' : go' = go ∨ w2.heap.size ≤ go' := by
            rcases fr8 go' rfl with e | e
            · left; simpa [Value.ownBlock] using e.symm
            · right; exact e
          have hK : ∀ (a : Option Addr) (l : List Int), SegZ w2 a l → (∀ x off, a = some ⟨x, off, none⟩ → 0 < l.length → x ≠ go) → SegZ w8 a l ∧ (∀ x off, a = some ⟨x, off, none⟩ → 0 < l.length → x ≠ go') := fun a l sg hx => by
            refine ⟨sg.kp K8 (fun x off e h0 hS => hx x off e h0 hS), fun x off e h0 => ?_⟩
            obtain ⟨b', o', e1, c1⟩ := sg.at_ 0 h0
            rw [e] at e1
            cases e1
            have := World.block_lt_of_cell? w2 _ c1
            have := hx x off e h0
            rcases hgo' with c | c
            · rw [c]; exact this
            · intro e2; simp at *; omega
          have h5s : SegZ w2 (some ⟨g5, 0, none⟩) (nz12 R') := RZ.seg (nz12_bd14 RZ (fun y hy => by
            obtain ⟨j, hj, e⟩ := List.mem_iff_getElem.1 hy
            obtain ⟨r, r1, r2, r3⟩ := (HLE.out j (by omega)).is
            have h9 := HBD.out r (by have := HRL.out; omega)
            have : R'.getD j 0 = y := by simp [List.getD, hj, e]
            omega))
          have hg5go : g5 ≠ go := by have := HG5.out; omega
          have h58 := hK _ _ h5s (fun x off e _ => by cases e; exact hg5go)
          have RP8 := RP2.more (go' := go') (w' := w8) (R' := R') (g5 := g5) (by rw [hR'l, HKL.out, HR0.out]) (by rw [← HR0.out, hR'l]; exact HLE.out) hK h58.1 (h58.2 g5 0 rfl (by rw [nz12_len13]; omega))
          have B8 : Below q w w8 := (BR.trans (B2.mono hbq)).trans (K8.below (fun x e => by omega) (by omega))
          have HR8 : Hid (R' = (Rs ++ [R']).getD (t + 1) []) := by
            show _ = _
            have := RP2.len
            simp [List.getD, this]
          rw [hR'l] at RP8
          clear own RP own2 RP2 gr8 fr8 hK h58
          go_roundw
          case rel => exact ⟨t + 1, go', oc', i, some ⟨g5, 0, none⟩, Rs ++ [R'], _, R', rfl, by rw [hR'l], HR8.out, by omega, by omega, h5s.kp K8 (fun x off e _ hS => by cases e; exact hg5go hS), own8, RP8, HRQ.out.app (by have := HG5.out; omega), B8⟩
          case measure => simp [slen14]; omega
    · have h1i : ¬ (16 : Int) ≤ (rl : Int) := by omega
      have hfin : Rws14 wr go (t + 1) A Rs := RP.fin own (by rw [← hR, ← hrl]; omega) (by omega)
      have hgo := own.lt go rfl
      have HRB : Hid (Rb14 wr go (t + 1) B wr.heap.size) := RP.bnd own HRQ.out hBw
      clear hrl own RP hR
      go_wp2_with fail
      go_ret
      exact ⟨go, t + 1, oc, Rs, rfl, hfin, HRB.out, by rw [← HQE.out]; exact hgo.1, by rw [← HQE.out]; exact BR⟩
end Go.Proofs.Ytfogknlinmchjaa
