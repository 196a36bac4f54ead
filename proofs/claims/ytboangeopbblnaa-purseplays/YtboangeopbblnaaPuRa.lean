
import Derived.Test.YtboangeopbblnaaPuK
namespace Go.Proofs.Ytboangeopbblnaa
open Go.RowKit Go.Maps Go.WideMaps Go.MuLone Go.Shelf
set_option linter.unusedVariables false
set_option linter.unusedSimpArgs false
set_option maxRecDepth 100000

/-! The document's purse in memory; its Held, Most, find, Names. -/
def hc23 (h : Ho23) : List Value := [.string h.nm, .int .i64 h.mo, .int .i64 h.no]
def fl23 : List Ho23 → List Value
  | [] => []
  | h :: l => hc23 h ++ fl23 l
theorem fl23_app (a b : List Ho23) : fl23 (a ++ b) = fl23 a ++ fl23 b := by
  induction a with
  | nil => rfl
  | cons h l ih => simp only [List.cons_append, fl23, ih, List.append_assoc]
theorem fl23_len (L : List Ho23) : (fl23 L).length = L.length * 3 := by
  induction L with
  | nil => rfl
  | cons h l ih => simp only [fl23, List.length_append, ih, hc23, List.length_cons, List.length_nil]; omega
theorem fl23_get {L : List Ho23} {i : Nat} {h : Ho23} (e : L[i]? = some h) : (fl23 L)[i * 3]? = some (.string h.nm) ∧ (fl23 L)[i * 3 + 1]? = some (.int .i64 h.mo) ∧ (fl23 L)[i * 3 + 2]? = some (.int .i64 h.no) := by
  induction L generalizing i with
  | nil => simp at e
  | cons x l ih =>
    cases i with
    | zero => simp at e; subst e; exact ⟨rfl, rfl, rfl⟩
    | succ i =>
      simp only [List.getElem?_cons_succ] at e
      have := ih e
      have hl : (hc23 x).length = 3 := rfl
      simp only [fl23]
      refine ⟨?_, ?_, ?_⟩
      · rw [List.getElem?_append_right (by rw [hl]; omega), hl, show (i + 1) * 3 - 3 = i * 3 by omega]; exact this.1
      · rw [List.getElem?_append_right (by rw [hl]; omega), hl, show (i + 1) * 3 + 1 - 3 = i * 3 + 1 by omega]; exact this.2.1
      · rw [List.getElem?_append_right (by rw [hl]; omega), hl, show (i + 1) * 3 + 2 - 3 = i * 3 + 2 by omega]; exact this.2.2
theorem fl23_take (L : List Ho23) (i : Nat) : fl23 (L.take i) = (fl23 L).take (i * 3) := by
  induction L generalizing i with
  | nil => simp [fl23]
  | cons x l ih =>
    cases i with
    | zero => simp [fl23]
    | succ i =>
      simp only [List.take_succ_cons, fl23, ih]
      have hl : (hc23 x).length = 3 := rfl
      rw [List.take_append, hl, show (i + 1) * 3 - 3 = i * 3 by omega, List.take_of_length_le (l := hc23 x) (by rw [hl]; omega)]
theorem fl23_drop (L : List Ho23) (i : Nat) : fl23 (L.drop i) = (fl23 L).drop (i * 3) := by
  induction L generalizing i with
  | nil => simp [fl23]
  | cons x l ih =>
    cases i with
    | zero => simp
    | succ i =>
      have hl : (hc23 x).length = 3 := rfl
      rw [List.drop_succ_cons, ih]
      simp only [fl23]
      rw [List.drop_append, hl, show (i + 1) * 3 - 3 = i * 3 by omega, show (hc23 x).drop ((i + 1) * 3) = [] from List.drop_eq_nil_of_le (by rw [hl]; omega), List.nil_append]
theorem fl23_one (L : List Ho23) : ∀ u ∈ fl23 L, u.oneCell' = true := by
  induction L with
  | nil => intro u hu; cases hu
  | cons x l ih =>
    intro u hu
    simp only [fl23, hc23, List.mem_append, List.mem_cons, List.not_mem_nil, or_false] at hu
    rcases hu with (rfl | rfl | rfl) | hu
    · rfl
    · rfl
    · rfl
    · exact ih u hu
/-- The document's purse in block x, its row in block g (x, if there is none). -/
structure Rr23 (w : World) (x g : Nat) (S : Pu23) : Prop where
  ex : ∃ (ra : Option Addr) (rc : Nat), w.heap[x]? = some (.cells #[.slice ra S.L.length rc, .int .i64 S.pk] 28 (0, 0)) ∧ w.ownsRow 0 67 3 (.slice ra S.L.length rc) S.L.length (fl23 S.L) ∧
    (ra = none → S.L.length = 0 ∧ rc = 0) ∧ (∀ k, (Value.slice ra S.L.length rc).ownBlock = some k → k = g)
  ok : Ok23 S
  lt : x < w.heap.size ∧ g < w.heap.size
theorem Rr23.kp {w w' : World} {x g : Nat} {S : Pu23} (h : Rr23 w x g S) {F : Nat → Prop} (hk : Kp F w w') (h1 : ¬ F x) (h2 : ¬ F g) : Rr23 w' x g S := by
  obtain ⟨ra, rc, a, b, c, d⟩ := h.ex
  refine ⟨⟨ra, rc, hk.heap a h1, ?_, c, d⟩, h.ok, Nat.lt_of_lt_of_le h.lt.1 hk.size, Nat.lt_of_lt_of_le h.lt.2 hk.size⟩
  refine ⟨b.1, ?_⟩
  rcases b.2 with b | ⟨g', cp, cur, e1, e2, e3, e4⟩
  · exact .inl b
  · exact .inr ⟨g', cp, cur, e1, e2, hk.heap e3 (by rw [d g' (by rw [e1]; rfl)]; exact h2), e4⟩
theorem Rr23.below {w w' : World} {x g : Nat} {S : Pu23} (h : Rr23 w x g S) (hk : Below w.heap.size w w') : Rr23 w' x g S := h.kp (F := fun _ => False) (.of_below hk) (fun h => h) (fun h => h)
theorem Rr23.made (w : World) : Rr23 (w.alloc (.cells #[.slice none 0 0, .int .i64 0] 28)) w.heap.size w.heap.size ⟨[], 0⟩ :=
  ⟨⟨none, 0, new_blk23 w _, World.ownsRow_nil _ _ _ _, fun _ => ⟨rfl, rfl⟩, fun k e => by cases e⟩, ok23_new, by simp, by simp⟩
/-- Its cells. -/
structure Rc23 (w : World) (x : Nat) (ra : Option Addr) (n rc : Nat) (S : Pu23) : Prop where
  c0 : w.cell? ⟨x, 0, none⟩ = some (.slice ra n rc)
  c1 : w.cell? ⟨x, 1, none⟩ = some (.int .i64 S.pk)
  n : n = S.L.length
  at_ : ∀ i h, S.L[i]? = some h → ∃ g, ra = some ⟨g, 0, none⟩ ∧ g < w.heap.size ∧ w.cell? ⟨g, i * 3, none⟩ = some (.string h.nm) ∧ w.cell? ⟨g, i * 3 + 1, none⟩ = some (.int .i64 h.mo) ∧ w.cell? ⟨g, i * 3 + 2, none⟩ = some (.int .i64 h.no)
theorem rc_of23 {w : World} {x : Nat} {ra : Option Addr} {rc : Nat} {S : Pu23} (a : w.heap[x]? = some (.cells #[.slice ra S.L.length rc, .int .i64 S.pk] 28 (0, 0))) (b : w.ownsRow 0 67 3 (.slice ra S.L.length rc) S.L.length (fl23 S.L)) : Rc23 w x ra S.L.length rc S := by
  refine ⟨(two_c23 a).1, (two_c23 a).2, rfl, fun i y hy => ?_⟩
  have hg := fl23_get hy
  rcases b.2 with ⟨_, b0⟩ | ⟨g', cp, cur, e1, e2, e3, e4, e5, e6, e7⟩
  · have : i < S.L.length := (List.getElem?_eq_some_iff.1 hy).1
    omega
  · simp only [Value.slice.injEq] at e1
    obtain ⟨rfl, -, rfl⟩ := e1
    have hadd : ∀ j, (⟨g', 0, none⟩ : Addr).add j = ⟨g', j, none⟩ := by intro j; unfold Addr.add; split <;> simp_all
    have k0 := b.cells (g := g') rfl _ _ hg.1
    have k1 := b.cells (g := g') rfl _ _ hg.2.1
    have k2 := b.cells (g := g') rfl _ _ hg.2.2
    rw [hadd] at k0 k1 k2
    exact ⟨g', rfl, World.block_lt_of_cell? _ _ k0, k0, k1, k2⟩
theorem Rr23.cells {w : World} {x g : Nat} {S : Pu23} (h : Rr23 w x g S) : ∃ ra rc, Rc23 w x ra S.L.length rc S ∧ (ra = none → rc = 0) := by
  obtain ⟨ra, rc, a, b, c, d⟩ := h.ex
  exact ⟨ra, rc, rc_of23 a b, fun e => (c e).2⟩
set_option maxRecDepth 100000 in
set_option maxHeartbeats 4000000 in
theorem rhed23x {w : World} {x : Nat} {ra : Option Addr} {rc N : Nat} {S : Pu23} (hc : Rc23 w x ra N rc S) (bd : ∀ h ∈ S.L, 0 ≤ h.no ∧ h.no ≤ h.mo ∧ h.mo ≤ 1099511627776 ∧ h.nm.size ≤ 9223372036854775807) (hN24 : N ≤ 1024) :
    Calls Try.prog 13 #[.pointer (some ⟨x, 0, none⟩)] w fun e w' => e = .returned (.int .i64 (hs23 S.L)) ∧ Below w.heap.size w w' := by
  have c0 := hc.c0
  have HC : Hid (Rc23 w x ra N rc S) := hc
  have HO : Hid ((∀ h ∈ S.L, 0 ≤ h.no ∧ h.no ≤ h.mo ∧ h.mo ≤ 1099511627776 ∧ h.nm.size ≤ 9223372036854775807) ∧ N = S.L.length ∧ N ≤ 1024) := ⟨bd, hc.n, hN24⟩
  clear hc bd
  go_enter Try.func13, Try.ntmps13
  go_wp2_with fail
  go_loopw [3, 11] (fun t3 ti wr => ∃ i : Nat, i ≤ N ∧ ti = .int .i64 (i : Int) ∧ t3 = .int .i64 (hs23 (S.L.take i)) ∧ Below w.heap.size w wr) (fun _ ti _ => N - (intOf ti).toNat)
  case atStart => exact ⟨0, by omega, rfl, rfl, Below.refl _ _⟩
  case round =>
    obtain ⟨i, hin, rfl, rfl, hB⟩ := hrel
    have HB : Hid (Below w.heap.size w wr) := hB
    by_cases hi : i < N
    · have hii : (i : Int) < (N : Int) := by omega
      have hiw : IntKind.i64.wrap ((i : Int) + 1) = ((i + 1 : Nat) : Int) := by rw [IntWalk.i64_in _ (by omega)]; omega
      obtain ⟨y, hy⟩ : ∃ y, S.L[i]? = some y := ⟨_, List.getElem?_eq_getElem (by have := HO.out.2.1; omega)⟩
      obtain ⟨g', hra, hgl, e0, e1, e2⟩ := HC.out.at_ i y hy
      subst hra
      replace e0 := (hB.cell (p := ⟨g', i * 3, none⟩) hgl).trans e0
      replace e1 := (hB.cell (p := ⟨g', i * 3 + 1, none⟩) hgl).trans e1
      replace e2 := (hB.cell (p := ⟨g', i * 3 + 2, none⟩) hgl).trans e2
      have htk : hs23 (S.L.take (i + 1)) = hs23 (S.L.take i) + y.no := by
        rw [List.take_add_one, hy, hs23_app]
        simp [hs23]
      have hbd : 0 ≤ hs23 (S.L.take i) + y.no ∧ hs23 (S.L.take i) + y.no ≤ 1125899906842624 := by
        rw [← htk]
        have h1 := hs23_bd (L := S.L.take (i + 1)) (fun z hz => HO.out.1 z (List.mem_of_mem_take hz))
        have h2 : (S.L.take (i + 1)).length ≤ 1024 := by rw [List.length_take]; omega
        omega
      have hsw : IntKind.i64.wrap (hs23 (S.L.take i) + y.no) = hs23 (S.L.take i) + y.no := IntWalk.i64_in _ (by omega)
      have HT : Hid (hs23 (S.L.take (i + 1)) = hs23 (S.L.take i) + y.no) := htk
      obtain ⟨u, hu⟩ : ∃ u, u = wr.alloc (.cells #[.string y.nm, .int .i64 y.mo, .int .i64 y.no] 67) := ⟨_, rfl⟩
      have HU : Hid (wr.alloc (.cells #[.string y.nm, .int .i64 y.mo, .int .i64 y.no] 67) = u) := hu.symm
      have HBU : Hid (Below w.heap.size w u) := by rw [hu]; exact hB.alloc hB.size _
      have qu : u.heap[wr.heap.size]? = some (.cells #[.string y.nm, .int .i64 y.mo, .int .i64 y.no] 67 (0, 0)) := by rw [hu]; exact new_blk23 _ _
      have d0 := three_cell0 qu
      have d1 := three_cell1 qu
      have d2 := three_cell2 qu
      clear hbd htk hu qu hB hy hgl
      go_upto_region 5 with fail
      rw [HU.out]
      go_wp2_with fail
      go_roundw
      case rel => exact ⟨i + 1, by omega, rfl, by rw [HT.out], HBU.out⟩
      case measure => simp [intOf]; omega
    · have hii : ¬ (i : Int) < (N : Int) := by omega
      have he : S.L.take i = S.L := List.take_of_length_le (by have := HO.out.2.1; omega)
      rw [he]
      clear hB
      go_wp2_with fail
      go_ret
      exact ⟨rfl, HB.out⟩
theorem rhed23 {w : World} {x g : Nat} {S : Pu23} (h : Rr23 w x g S) :
    Calls Try.prog 13 #[.pointer (some ⟨x, 0, none⟩)] w fun e w' => e = .returned (.int .i64 (hs23 S.L)) ∧ Below w.heap.size w w' := by
  obtain ⟨ra, rc, hc, _⟩ := h.cells
  exact rhed23x hc h.ok.bd h.ok.ln
set_option maxRecDepth 100000 in
set_option maxHeartbeats 4000000 in
theorem rmst23x {w : World} {x : Nat} {ra : Option Addr} {rc N : Nat} {S : Pu23} (hc : Rc23 w x ra N rc S) (bd : ∀ h ∈ S.L, 0 ≤ h.no ∧ h.no ≤ h.mo ∧ h.mo ≤ 1099511627776 ∧ h.nm.size ≤ 9223372036854775807) (hN24 : N ≤ 1024) :
    Calls Try.prog 27 #[.pointer (some ⟨x, 0, none⟩)] w fun e w' => e = .returned (.int .i64 (ms23 S.L)) ∧ Below w.heap.size w w' := by
  have c0 := hc.c0
  have HC : Hid (Rc23 w x ra N rc S) := hc
  have HO : Hid ((∀ h ∈ S.L, 0 ≤ h.no ∧ h.no ≤ h.mo ∧ h.mo ≤ 1099511627776 ∧ h.nm.size ≤ 9223372036854775807) ∧ N = S.L.length ∧ N ≤ 1024) := ⟨bd, hc.n, hN24⟩
  clear hc bd
  go_enter Try.func27, Try.ntmps27
  go_wp2_with fail
  go_loopw [3, 11] (fun t3 ti wr => ∃ i : Nat, i ≤ N ∧ ti = .int .i64 (i : Int) ∧ t3 = .int .i64 (ms23 (S.L.take i)) ∧ Below w.heap.size w wr) (fun _ ti _ => N - (intOf ti).toNat)
  case atStart => exact ⟨0, by omega, rfl, rfl, Below.refl _ _⟩
  case round =>
    obtain ⟨i, hin, rfl, rfl, hB⟩ := hrel
    have HB : Hid (Below w.heap.size w wr) := hB
    by_cases hi : i < N
    · have hii : (i : Int) < (N : Int) := by omega
      have hiw : IntKind.i64.wrap ((i : Int) + 1) = ((i + 1 : Nat) : Int) := by rw [IntWalk.i64_in _ (by omega)]; omega
      obtain ⟨y, hy⟩ : ∃ y, S.L[i]? = some y := ⟨_, List.getElem?_eq_getElem (by have := HO.out.2.1; omega)⟩
      obtain ⟨g', hra, hgl, e0, e1, e2⟩ := HC.out.at_ i y hy
      subst hra
      replace e0 := (hB.cell (p := ⟨g', i * 3, none⟩) hgl).trans e0
      replace e1 := (hB.cell (p := ⟨g', i * 3 + 1, none⟩) hgl).trans e1
      replace e2 := (hB.cell (p := ⟨g', i * 3 + 2, none⟩) hgl).trans e2
      have htk : ms23 (S.L.take (i + 1)) = ms23 (S.L.take i) + y.mo := by
        rw [List.take_add_one, hy, ms23_app]
        simp [ms23]
      have hbd : 0 ≤ ms23 (S.L.take i) + y.mo ∧ ms23 (S.L.take i) + y.mo ≤ 1125899906842624 := by
        rw [← htk]
        have h1 := hs23_bd (L := S.L.take (i + 1)) (fun z hz => HO.out.1 z (List.mem_of_mem_take hz))
        have h2 : (S.L.take (i + 1)).length ≤ 1024 := by rw [List.length_take]; omega
        omega
      have hsw : IntKind.i64.wrap (ms23 (S.L.take i) + y.mo) = ms23 (S.L.take i) + y.mo := IntWalk.i64_in _ (by omega)
      have HT : Hid (ms23 (S.L.take (i + 1)) = ms23 (S.L.take i) + y.mo) := htk
      obtain ⟨u, hu⟩ : ∃ u, u = wr.alloc (.cells #[.string y.nm, .int .i64 y.mo, .int .i64 y.no] 67) := ⟨_, rfl⟩
      have HU : Hid (wr.alloc (.cells #[.string y.nm, .int .i64 y.mo, .int .i64 y.no] 67) = u) := hu.symm
      have HBU : Hid (Below w.heap.size w u) := by rw [hu]; exact hB.alloc hB.size _
      have qu : u.heap[wr.heap.size]? = some (.cells #[.string y.nm, .int .i64 y.mo, .int .i64 y.no] 67 (0, 0)) := by rw [hu]; exact new_blk23 _ _
      have d0 := three_cell0 qu
      have d1 := three_cell1 qu
      have d2 := three_cell2 qu
      clear hbd htk hu qu hB hy hgl
      go_upto_region 5 with fail
      rw [HU.out]
      go_wp2_with fail
      go_roundw
      case rel => exact ⟨i + 1, by omega, rfl, by rw [HT.out], HBU.out⟩
      case measure => simp [intOf]; omega
    · have hii : ¬ (i : Int) < (N : Int) := by omega
      have he : S.L.take i = S.L := List.take_of_length_le (by have := HO.out.2.1; omega)
      rw [he]
      clear hB
      go_wp2_with fail
      go_ret
      exact ⟨rfl, HB.out⟩
theorem rmst23 {w : World} {x g : Nat} {S : Pu23} (h : Rr23 w x g S) :
    Calls Try.prog 27 #[.pointer (some ⟨x, 0, none⟩)] w fun e w' => e = .returned (.int .i64 (ms23 S.L)) ∧ Below w.heap.size w w' := by
  obtain ⟨ra, rc, hc, _⟩ := h.cells
  exact rmst23x hc h.ok.bd h.ok.ln
set_option maxRecDepth 100000 in
set_option maxHeartbeats 4000000 in
theorem rfnd23 {w : World} {x g : Nat} {S : Pu23} (h : Rr23 w x g S) (s : ByteArray) :
    Calls Try.prog 42 #[.pointer (some ⟨x, 0, none⟩), .string s] w fun e w' => ∃ v : Int, e = .returned (.int .i64 v) ∧ ((fd23 S.L s = none ∧ v = -1) ∨ ∃ (i : Nat) (y : Ho23), v = (i : Int) ∧ S.L[i]? = some y ∧ y.nm = s) ∧ Below w.heap.size w w' := by
  obtain ⟨ra, rc, hc, hnil⟩ := h.cells
  obtain ⟨N, hN⟩ : ∃ N, N = S.L.length := ⟨_, rfl⟩
  rw [← hN] at hc
  have c0 := hc.c0
  have HC : Hid (Rc23 w x ra N rc S) := hc
  have HO : Hid (Ok23 S ∧ N = S.L.length ∧ N ≤ 1024) := ⟨h.ok, hN, by rw [hN]; exact h.ok.ln⟩
  have hN24 : N ≤ 1024 := HO.out.2.2
  clear h hc hN hnil
  go_enter Try.func42, Try.ntmps42
  go_wp2_with fail
  go_loopw [12] (fun ti wr => ∃ i : Nat, i ≤ N ∧ ti = .int .i64 (i : Int) ∧ (∀ y ∈ S.L.take i, y.nm ≠ s) ∧ Below w.heap.size w wr) (fun ti _ => N - (intOf ti).toNat)
  case atStart => exact ⟨0, by omega, rfl, fun y hy => by simp at hy, Below.refl _ _⟩
  case round =>
    obtain ⟨i, hin, rfl, hno, hB⟩ := hrel
    have HB : Hid (Below w.heap.size w wr) := hB
    have HN : Hid (∀ y ∈ S.L.take i, y.nm ≠ s) := hno
    clear hno
    by_cases hi : i < N
    · have hii : (i : Int) < (N : Int) := by omega
      have hiw : IntKind.i64.wrap ((i : Int) + 1) = ((i + 1 : Nat) : Int) := by rw [IntWalk.i64_in _ (by omega)]; omega
      obtain ⟨y, hy⟩ : ∃ y, S.L[i]? = some y := ⟨_, List.getElem?_eq_getElem (by have := HO.out.2.1; omega)⟩
      obtain ⟨g', hra, hgl, e0, e1, e2⟩ := HC.out.at_ i y hy
      subst hra
      replace e0 := (hB.cell (p := ⟨g', i * 3, none⟩) hgl).trans e0
      replace e1 := (hB.cell (p := ⟨g', i * 3 + 1, none⟩) hgl).trans e1
      replace e2 := (hB.cell (p := ⟨g', i * 3 + 2, none⟩) hgl).trans e2
      obtain ⟨u, hu⟩ : ∃ u, u = wr.alloc (.cells #[.string y.nm, .int .i64 y.mo, .int .i64 y.no] 67) := ⟨_, rfl⟩
      have HU : Hid (wr.alloc (.cells #[.string y.nm, .int .i64 y.mo, .int .i64 y.no] 67) = u) := hu.symm
      have HBU : Hid (Below w.heap.size w u) := by rw [hu]; exact hB.alloc hB.size _
      have qu : u.heap[wr.heap.size]? = some (.cells #[.string y.nm, .int .i64 y.mo, .int .i64 y.no] 67 (0, 0)) := by rw [hu]; exact new_blk23 _ _
      have d0 := three_cell0 qu
      have HY : Hid (S.L[i]? = some y) := hy
      clear hu qu hB hy hgl
      by_cases he : y.nm = s
      · subst he
        go_upto_region 4 with fail
        rw [HU.out]
        go_wp2_with fail
        go_ret
        exact ⟨(i : Int), rfl, .inr ⟨i, y, rfl, HY.out, rfl⟩, HBU.out⟩
      · have hne : (y.nm.toList == s.toList) = false := beq_eq_false_iff_ne.2 fun e => he (by rw [ByteArray.toList_eq, ByteArray.toList_eq] at e; exact kb23_inj e)
        have HE : Hid (¬ y.nm = s) := he
        clear he
        go_upto_region 4 with fail
        rw [HU.out]
        go_wp2_with fail
        go_roundw
        case rel =>
          refine ⟨i + 1, by omega, rfl, fun z hz => ?_, HBU.out⟩
          rw [List.take_add_one, HY.out] at hz
          rcases List.mem_append.1 hz with hz | hz
          · exact HN.out z hz
          · simp at hz; subst hz; exact HE.out
        case measure => simp [intOf]; omega
    · have hii : ¬ (i : Int) < (N : Int) := by omega
      have he : S.L.take i = S.L := List.take_of_length_le (by have := HO.out.2.1; omega)
      rw [he] at HN
      clear hB
      go_wp2_with fail
      go_ret
      refine ⟨-1, rfl, .inl ⟨?_, rfl⟩, HB.out⟩
      unfold fd23
      rw [List.find?_eq_none]
      intro z hz
      simpa using HN.out z hz
set_option maxRecDepth 100000 in
set_option maxHeartbeats 4000000 in
theorem rnam23 {w : World} {x g : Nat} {S : Pu23} (h : Rr23 w x g S) :
    Calls Try.prog 28 #[.pointer (some ⟨x, 0, none⟩)] w fun e w' => ∃ v, e = .returned v ∧ w'.ownsRow w.heap.size 9 1 v S.L.length ((S.L.map Ho23.nm).map Value.string) ∧ Below w.heap.size w w' := by
  obtain ⟨ra, rc, hc, hnil⟩ := h.cells
  obtain ⟨N, hN⟩ : ∃ N, N = S.L.length := ⟨_, rfl⟩
  rw [← hN] at hc
  have c0 := hc.c0
  have HC : Hid (Rc23 w x ra N rc S) := hc
  have HO : Hid (Ok23 S ∧ N = S.L.length ∧ N ≤ 1024) := ⟨h.ok, hN, by rw [hN]; exact h.ok.ln⟩
  have hN24 : N ≤ 1024 := HO.out.2.2
  obtain ⟨i0, hi0, hz0, hz1, hz2⟩ := info_parts info_s23
  rw [← hN]
  clear h hc hN hnil
  go_enter Try.func28, Try.ntmps28
  go_wp2_with fail
  go_loopw [3, 11] (fun t3 ti wr => ∃ (i : Nat) (v : Value), i ≤ N ∧ v = t3 ∧ ti = .int .i64 (i : Int) ∧ wr.ownsRow w.heap.size 9 1 v i (((S.L.take i).map Ho23.nm).map Value.string) ∧ Below w.heap.size w wr) (fun _ ti _ => N - (intOf ti).toNat)
  case atStart => exact ⟨0, _, by omega, rfl, rfl, World.ownsRow_nil _ _ _ _, Below.refl _ _⟩
  case round =>
    obtain ⟨i, v, hin, rfl, rfl, hown, hB⟩ := hrel
    have HB : Hid (Below w.heap.size w wr) := hB
    have HW : Hid (wr.ownsRow w.heap.size 9 1 v i (((S.L.take i).map Ho23.nm).map Value.string)) := hown
    clear hown
    by_cases hi : i < N
    · have hii : (i : Int) < (N : Int) := by omega
      have hiw : IntKind.i64.wrap ((i : Int) + 1) = ((i + 1 : Nat) : Int) := by rw [IntWalk.i64_in _ (by omega)]; omega
      obtain ⟨y, hy⟩ : ∃ y, S.L[i]? = some y := ⟨_, List.getElem?_eq_getElem (by have := HO.out.2.1; omega)⟩
      obtain ⟨g', hra, hgl, e0, e1, e2⟩ := HC.out.at_ i y hy
      subst hra
      replace e0 := (hB.cell (p := ⟨g', i * 3, none⟩) hgl).trans e0
      replace e1 := (hB.cell (p := ⟨g', i * 3 + 1, none⟩) hgl).trans e1
      replace e2 := (hB.cell (p := ⟨g', i * 3 + 2, none⟩) hgl).trans e2
      obtain ⟨u, hu⟩ : ∃ u, u = wr.alloc (.cells #[.string y.nm, .int .i64 y.mo, .int .i64 y.no] 67) := ⟨_, rfl⟩
      have HU : Hid (wr.alloc (.cells #[.string y.nm, .int .i64 y.mo, .int .i64 y.no] 67) = u) := hu.symm
      have HBU : Hid (Below w.heap.size w u) := by rw [hu]; exact hB.alloc hB.size _
      have hbu : w.heap.size ≤ u.heap.size := HBU.out.size
      have HWU : Hid (u.ownsRow w.heap.size 9 1 v i (((S.L.take i).map Ho23.nm).map Value.string)) := by rw [hu]; exact HW.out.alloc _
      have qu : u.heap[wr.heap.size]? = some (.cells #[.string y.nm, .int .i64 y.mo, .int .i64 y.no] 67 (0, 0)) := by rw [hu]; exact new_blk23 _ _
      have d0 := three_cell0 qu
      have hen : ((S.L.take (i + 1)).map Ho23.nm).map Value.string = ((S.L.take i).map Ho23.nm).map Value.string ++ [.string y.nm] := by
        rw [List.take_add_one, hy, List.map_append, List.map_append]; rfl
      have HEN : Hid (((S.L.take (i + 1)).map Ho23.nm).map Value.string = ((S.L.take i).map Ho23.nm).map Value.string ++ [.string y.nm]) := hen
      clear hu qu hB hy hgl hen
      go_upto_region 5 with fail
      rw [HU.out]
      go_wp2_with (at_builtin; refine wpList_app1 rfl (.tmp 15) (.tmp 18) 35 rfl w.heap.size 9 i0 (.string ByteArray.empty) 16 Try.underlying35 hi0 hz0 hz1 hz2 rfl u (.string y.nm) rfl HWU.out rfl rfl (by omega) (by omega) hbu ?_; intro g2 c3 w5 hown5 hg5 hf5)
      have HW5 : Hid (w5.ownsRow w.heap.size 9 1 (.slice (some ⟨g2, 0, none⟩) (i + 1) c3) (i + 1) (((S.L.take (i + 1)).map Ho23.nm).map Value.string)) := by rw [HEN.out]; exact hown5
      have HB5 : Hid (Below w.heap.size w w5) := HBU.out.grown hg5 HBU.out.size (fun j hj => (HWU.out.lt j hj).1)
      clear hown5 hg5 hf5
      go_wp2_with fail
      go_roundw
      case rel => exact ⟨i + 1, _, by omega, rfl, rfl, HW5.out, HB5.out⟩
      case measure => simp [intOf]; omega
    · obtain rfl : i = N := by omega
      have he : S.L.take i = S.L := List.take_of_length_le (by have := HO.out.2.1; omega)
      have hii : ¬ (i : Int) < (i : Int) := by omega
      rw [he] at HW
      clear hB
      go_wp2_with fail
      go_ret
      exact ⟨v, rfl, by have := HW.out; simpa using this, HB.out⟩
end Go.Proofs.Ytboangeopbblnaa
