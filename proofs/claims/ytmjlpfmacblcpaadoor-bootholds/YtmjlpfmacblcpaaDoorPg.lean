import Derived.Test.YtmjlpfmacblcpaaDoorPf
import Derived.Test.YtmjlpfmacblcpaaDoorPd
import Derived.Deep.CutRange
namespace Go.Proofs.YtmjlpfmacblcpaaDoor
open Go.RowKit Go.Shelf
set_option linter.unusedVariables false
set_option linter.unusedSimpArgs false
def mg25 : List Int := [98, 116, 48, 49]
def vs25 (r : Rc25) (k : Nat) : Int := ([r.q, r.g.s, r.g.v, r.g.z, r.g.m, r.n.s, r.n.v, r.n.z, r.n.m, r.t] : List Int).getD k 0
def be25 (r : Rc25) : Nat → List Int
  | 0 => mg25
  | n + 1 => be25 r n ++ fixL (fz25 n).toNat (vs25 r n)
/-- A record's bytes. -/
def by25 (r : Rc25) : List Int := be25 r 10 ++ sm21 (be25 r 10)
def en25 (r : Rc25) : List Int := if r.may then by25 r else []
/-- Its sums are words. -/
def Rc25.wd (r : Rc25) : Prop := (0 ≤ r.g.m ∧ r.g.m ≤ 4294967295) ∧ 0 ≤ r.n.m ∧ r.n.m ≤ 4294967295
theorem be25_len (r : Rc25) : ∀ n, n ≤ 10 → (be25 r n).length ≤ 4 + 8 * n
  | 0, _ => by simp [be25, mg25]
  | n + 1, h => by
    have ih := be25_len r n (by omega)
    have hf : (fz25 n).toNat ≤ 8 := by rcases (by omega : n = 0 ∨ n = 1 ∨ n = 2 ∨ n = 3 ∨ n = 4 ∨ n = 5 ∨ n = 6 ∨ n = 7 ∨ n = 8 ∨ n = 9) with rfl | rfl | rfl | rfl | rfl | rfl | rfl | rfl | rfl | rfl <;> decide
    rw [be25, List.length_append, fixL_len]
    omega
theorem be25_bd (r : Rc25) : ∀ n, ∀ z ∈ be25 r n, 0 ≤ z ∧ z ≤ 255
  | 0 => by intro z hz; simp [be25, mg25] at hz; omega
  | n + 1 => fun z hz => by
    rcases List.mem_append.1 hz with h | h
    · exact be25_bd r n z h
    · exact fixL_bd _ _ z h
/-- A field's number fits. -/
theorem vs25_fit {r : Rc25} (h : r.may) (hw : r.wd) (k : Nat) (hk : k < 10) : 0 ≤ vs25 r k ∧ vs25 r k ≤ 9223372036854775807 ∧ vs25 r k / 2 ^ (8 * (fz25 k).toNat) = 0 ∧ 1 ≤ (fz25 k).toNat ∧ (fz25 k).toNat ≤ 8 ∧ fz25 k = (((fz25 k).toNat : Nat) : Int) := by
  obtain ⟨q, ⟨gs, gv, gz, gm⟩, ⟨ns, nv, nz, nm⟩, t⟩ := r
  obtain ⟨hq, ht, hg, hn⟩ := h
  obtain ⟨m1, m2⟩ := hw
  simp only at hq ht hg hn m1 m2
  obtain ⟨g1, g2, g3, g4, g5⟩ := hg
  simp only at g1 g2 g3 g4 g5
  have n1 : (ns = 0 ∨ ns = 1) ∧ 0 ≤ nv ∧ nv ≤ 2147483647 ∧ 0 ≤ nz ∧ nz ≤ 16777216 := by
    rcases hn with ⟨a, _⟩ | ⟨_, ⟨a1, a2, a3, a4, a5⟩, _⟩
    · unfold no25 at a
      injection a with b1 b2 b3 b4
      omega
    · simp only at a1 a2 a3 a4 a5
      omega
  obtain ⟨n1, n2, n3, n4, n5⟩ := n1
  rcases (by omega : k = 0 ∨ k = 1 ∨ k = 2 ∨ k = 3 ∨ k = 4 ∨ k = 5 ∨ k = 6 ∨ k = 7 ∨ k = 8 ∨ k = 9) with rfl | rfl | rfl | rfl | rfl | rfl | rfl | rfl | rfl | rfl
  · refine ⟨?_, ?_, ?_, by decide, by decide, by decide⟩
    · show 0 ≤ q; omega
    · show q ≤ _; omega
    · show q / 18446744073709551616 = 0; omega
  · refine ⟨?_, ?_, ?_, by decide, by decide, by decide⟩
    · show 0 ≤ gs; omega
    · show gs ≤ _; omega
    · show gs / 256 = 0; omega
  · refine ⟨?_, ?_, ?_, by decide, by decide, by decide⟩
    · show 0 ≤ gv; omega
    · show gv ≤ _; omega
    · show gv / 4294967296 = 0; omega
  · refine ⟨?_, ?_, ?_, by decide, by decide, by decide⟩
    · show 0 ≤ gz; omega
    · show gz ≤ _; omega
    · show gz / 4294967296 = 0; omega
  · refine ⟨?_, ?_, ?_, by decide, by decide, by decide⟩
    · show 0 ≤ gm; omega
    · show gm ≤ _; omega
    · show gm / 4294967296 = 0; omega
  · refine ⟨?_, ?_, ?_, by decide, by decide, by decide⟩
    · show 0 ≤ ns; omega
    · show ns ≤ _; omega
    · show ns / 256 = 0; omega
  · refine ⟨?_, ?_, ?_, by decide, by decide, by decide⟩
    · show 0 ≤ nv; omega
    · show nv ≤ _; omega
    · show nv / 4294967296 = 0; omega
  · refine ⟨?_, ?_, ?_, by decide, by decide, by decide⟩
    · show 0 ≤ nz; omega
    · show nz ≤ _; omega
    · show nz / 4294967296 = 0; omega
  · refine ⟨?_, ?_, ?_, by decide, by decide, by decide⟩
    · show 0 ≤ nm; omega
    · show nm ≤ _; omega
    · show nm / 4294967296 = 0; omega
  · refine ⟨?_, ?_, ?_, by decide, by decide, by decide⟩
    · show 0 ≤ t; omega
    · show t ≤ _; omega
    · show t / 256 = 0; omega
theorem make43_25 (W : World) : (Instr.makeSlice 22 (.int .i64 0) (.int .i64 43)).run Tryd.prog W = .ok (.slice (some ⟨W.heap.size, 0, none⟩) 0 43) (W.alloc (.cells ((List.replicate 43 (0 : Int)).map (Value.int .u8)).toArray 5)) := by kernel_rfl
theorem own_cell25 {V : World} {M n c k : Nat} {e : TypeId} {p : Option Addr} {v : Value} {xs : List Value} (ho : V.ownsRow M e 1 (.slice p n c) n xs) (hk : k < n) (hx : xs[k]? = some v) : ∃ g, p = some ⟨g, 0, none⟩ ∧ V.cell? ⟨g, k, none⟩ = some v := by
  rcases ho.2 with ⟨_, h⟩ | ⟨g, cp, cu, h1, h2, h3, h4, h5, h6, h7⟩
  · omega
  · simp only [Value.slice.injEq] at h1
    refine ⟨g, h1.1, ?_⟩
    rw [← h7] at hx
    have hx2 : cu.toList[k]? = some v := by
      rw [List.getElem?_take] at hx
      split at hx
      · exact hx
      · cases hx
    simp only [World.cell?, h3]
    simpa using hx2
theorem own_ku25 {V W : World} {M n ob : Nat} {v : Value} {xs : List Value} {c : Array Value} {fr : Nat × Nat} (ho : V.ownsRow M 151 1 v n xs) (hk : Ku25 ob V W) (hob : V.heap[ob]? = some (.cells c 22 fr)) : W.ownsRow M 151 1 v n xs := by
  refine ⟨ho.1, ?_⟩
  rcases ho.2 with h | ⟨g, cp, cu, h1, h2, h3, h4⟩
  · exact .inl h
  · refine .inr ⟨g, cp, cu, h1, h2, (hk.2 g _ _ _ h3 (fun e => by subst e; rw [h3] at hob; injection hob with hob; injection hob with _ h _; exact absurd h (by decide)) (by decide)).trans h3, h4⟩
theorem En25.old {V W : World} {N ob : Nat} {L : List Int} (h : En25 V N ob L) (hb : Below V.heap.size V W) : En25 W N ob L := by
  obtain ⟨p, c, h1, h2⟩ := h
  exact ⟨p, c, (hb.block _ (Array.getElem?_eq_some_iff.1 h1).1).trans h1, own_below21 h2 hb⟩
theorem set_same25 {cs : Array Value} {k : Nat} {v : Value} (h : cs[k]? = some v) : cs.setIfInBounds k v = cs := by
  apply Array.ext_getElem?
  intro j
  rw [Array.getElem?_setIfInBounds]
  by_cases e : k = j
  · subst e
    have := (Array.getElem?_eq_some_iff.1 h).1
    rw [if_pos rfl, if_pos this, h]
  · simp [e]
/-- What holds at the head of Encode's loop. -/
def He25 (w : World) (N rb ob M : Nat) (pf : Option Addr) (cf : Nat) (xs : List Value) (CS : Array Value) (E : Nat → List Int) (t17 : Value) (V : World) : Prop :=
  ∃ i : Nat, i ≤ 10 ∧ t17 = .int .i64 (i : Int) ∧ En25 V N ob (E i) ∧ V.heap[rb]? = some (.cells CS 63 (0, 0)) ∧ V.ownsRow M 151 1 (.slice pf 10 cf) 10 xs ∧ Fs25 V M rb 10 xs ∧ Below N w V
set_option maxRecDepth 100000 in
set_option maxHeartbeats 8000000 in
theorem pencode25 (r : Rc25) (hw : r.wd) (w : World) (ht : Tab w) : Calls Tryd.prog 73 #[.agg r.cs] w fun e w' => ∃ p c, e = .returned (.tuple #[.slice p (en25 r).length c, .int .i64 (ck25 r)]) ∧ w'.ownsRow w.heap.size 5 1 (.slice p (en25 r).length c) (en25 r).length ((en25 r).map (Value.int .u8)) ∧ Below w.heap.size w w' := by
  have HC : Hid (∀ W, Calls Tryd.prog 36 #[.agg r.cs] W fun e w' => e = .returned (.int .i64 (ck25 r)) ∧ Below W.heap.size W w') := fun W => pcheck25 r W
  have HR : Hid (r.wd) := hw
  have HCS : Hid (r.cs = #[.int .i64 r.q, .int .i64 r.g.s, .int .i64 r.g.v, .int .i64 r.g.z, .int .u32 r.g.m, .int .i64 r.n.s, .int .i64 r.n.v, .int .i64 r.n.z, .int .u32 r.n.m, .int .i64 r.t]) := rfl
  clear hw
  by_cases hm : r.may
  rotate_left
  · have hE : en25 r = [] := if_neg hm
    have hK : ck25 r = 250 := if_neg hm
    rw [hE]
    rw [hK] at HC ⊢
    clear hE hK hm HR HCS
    obtain ⟨q, ⟨gs, gv, gz, gm⟩, ⟨ns, nv, nz, nm⟩, t⟩ := r
    unfold Rc25.cs at HC ⊢
    simp only at HC ⊢
    obtain ⟨wB, hwB⟩ : ∃ wB, wB = w.alloc (.cells #[.int .i64 q, .int .i64 gs, .int .i64 gv, .int .i64 gz, .int .u32 gm, .int .i64 ns, .int .i64 nv, .int .i64 nz, .int .u32 nm, .int .i64 t] 63) := ⟨_, rfl⟩
    have bB : Below w.heap.size w wB := by rw [hwB]; exact ((Below.refl _ _).alloc (by simp <;> omega) _)
    have q1 : wB.heap[w.heap.size]? = some (.cells #[.int .i64 q, .int .i64 gs, .int .i64 gv, .int .i64 gz, .int .u32 gm, .int .i64 ns, .int .i64 nv, .int .i64 nz, .int .u32 nm, .int .i64 t] 63 (0, 0)) := by rw [hwB]; exact heap_alloc_new _ _
    have HQ : Hid (∀ V, Below wB.heap.size wB V → Below w.heap.size w V ∧ V.heap[w.heap.size]? = some (.cells #[.int .i64 q, .int .i64 gs, .int .i64 gv, .int .i64 gz, .int .u32 gm, .int .i64 ns, .int .i64 nv, .int .i64 nz, .int .u32 nm, .int .i64 t] 63 (0, 0))) := fun V hV => ⟨bB.trans (hV.mono bB.size), (hV.block _ (Array.getElem?_eq_some_iff.1 q1).1).trans q1⟩
    have HWB : Hid (w.alloc (.cells #[.int .i64 q, .int .i64 gs, .int .i64 gv, .int .i64 gz, .int .u32 gm, .int .i64 ns, .int .i64 nv, .int .i64 nz, .int .u32 nm, .int .i64 t] 63) = wB) := hwB.symm
    clear bB hwB q1
    go_enter Tryd.func73, Tryd.ntmps73
    go_wp2_with fail
    rw [HWB.out]
    refine (HC.out wB).mono ?_
    rintro e1 w1 ⟨rfl, b1⟩
    have B1 : Hid _ := (HQ.out w1 b1).1
    clear b1
    go_wp2_with fail
    go_ret2
    exact ⟨none, 0, rfl, ⟨rfl, .inl ⟨rfl, rfl⟩⟩, B1.out⟩
  have hE : en25 r = by25 r := if_pos hm
  have hK : ck25 r = 0 := if_pos hm
  rw [hE]
  rw [hK] at HC ⊢
  have HFT : Hid (∀ k, k < 10 → 0 ≤ vs25 r k ∧ vs25 r k ≤ 9223372036854775807 ∧ vs25 r k / 2 ^ (8 * (fz25 k).toNat) = 0 ∧ 1 ≤ (fz25 k).toNat ∧ (fz25 k).toNat ≤ 8 ∧ fz25 k = (((fz25 k).toNat : Nat) : Int)) := fun k hk => vs25_fit hm HR.out k hk
  have HVC : Hid (∀ k, k < 10 → r.cs[k]? = some (.int (if fu25 k then .u32 else .i64) (vs25 r k))) := fun k hk => by
    rcases (by omega : k = 0 ∨ k = 1 ∨ k = 2 ∨ k = 3 ∨ k = 4 ∨ k = 5 ∨ k = 6 ∨ k = 7 ∨ k = 8 ∨ k = 9) with rfl | rfl | rfl | rfl | rfl | rfl | rfl | rfl | rfl | rfl <;> rfl
  have HW32 : Hid (∀ k, k < 10 → fu25 k = true → IntKind.u32.wrap (vs25 r k) = vs25 r k) := fun k hk hu => by
    have h := vs25_fit hm HR.out k hk
    have hd := HR.out
    rcases (by omega : k = 0 ∨ k = 1 ∨ k = 2 ∨ k = 3 ∨ k = 4 ∨ k = 5 ∨ k = 6 ∨ k = 7 ∨ k = 8 ∨ k = 9) with rfl | rfl | rfl | rfl | rfl | rfl | rfl | rfl | rfl | rfl <;> first | exact absurd hu (by decide) | exact IntWalk.u32_in _ hd.1 | exact IntWalk.u32_in _ hd.2
  have HTB : Hid (∀ V, Below w.heap.size w V → Tab V) := fun V hV => ht.old hV
  clear hE hK hm HR ht
  obtain ⟨E, hE⟩ : ∃ E : Nat → List Int, E = be25 r := ⟨_, rfl⟩
  have HEE : Hid (E = be25 r) := hE
  have HBY : Hid (by25 r = E 10 ++ sm21 (E 10)) := by rw [hE]; exact rfl
  obtain ⟨BY, hBY⟩ : ∃ l, l = by25 r := ⟨_, rfl⟩
  rw [← hBY] at HBY ⊢
  obtain ⟨VS, hVS⟩ : ∃ l, l = vs25 r := ⟨_, rfl⟩
  rw [← hVS] at HFT HVC HW32
  have HES : Hid (E 0 = mg25 ∧ (∀ n, E (n + 1) = E n ++ fixL (fz25 n).toNat (VS n)) ∧ (∀ n, n ≤ 10 → (E n).length ≤ 4 + 8 * n) ∧ ∀ n, ∀ z ∈ E n, 0 ≤ z ∧ z ≤ 255) := by show _; rw [hE, hVS]; exact ⟨rfl, fun _ => rfl, be25_len r, be25_bd r⟩
  clear hE hBY hVS
  obtain ⟨CS, hCS⟩ : ∃ l, l = r.cs := ⟨_, rfl⟩
  have HVC : Hid (∀ k, k < 10 → CS[k]? = some (.int (if fu25 k then .u32 else .i64) (VS k))) := by rw [hCS]; exact HVC.out
  rw [← hCS] at HC ⊢
  clear HEE
  obtain ⟨wB, hwB⟩ : ∃ wB, wB = w.alloc (.cells CS 63) := ⟨_, rfl⟩
  have bB : Below w.heap.size w wB := by rw [hwB]; exact (Below.refl _ _).alloc (by simp) _
  have q1 : wB.heap[w.heap.size]? = some (.cells CS 63 (0, 0)) := by rw [hwB]; exact heap_alloc_new _ _
  have HQ : Hid (∀ V, Below wB.heap.size wB V → Below w.heap.size w V ∧ V.heap[w.heap.size]? = some (.cells CS 63 (0, 0))) := fun V hV => ⟨bB.trans (hV.mono bB.size), (hV.block _ (Array.getElem?_eq_some_iff.1 q1).1).trans q1⟩
  have HWB : Hid (w.alloc (.cells CS 63) = wB) := hwB.symm
  rw [HCS.out] at hCS
  have HCC : Hid (CS = _) := hCS
  clear bB q1
  go_enter Tryd.func73, Tryd.ntmps73
  go_wp2_with fail
  rw [← HCC.out, HWB.out]
  clear hCS hwB
  refine (HC.out wB).mono ?_
  rintro e1 w1 ⟨rfl, b1⟩
  have H1 : Hid (Below w.heap.size w w1 ∧ w1.heap[w.heap.size]? = some (.cells CS 63 (0, 0))) := HQ.out w1 b1
  clear b1
  have hmk := make43_25
  go_wp2_with fail
  clear hmk
  obtain ⟨w2, hw2⟩ : ∃ v, v = (w1.alloc (.cells #[.int .u8 98, .int .u8 116, .int .u8 48, .int .u8 49, .int .u8 0, .int .u8 0, .int .u8 0, .int .u8 0, .int .u8 0, .int .u8 0, .int .u8 0, .int .u8 0, .int .u8 0, .int .u8 0, .int .u8 0, .int .u8 0, .int .u8 0, .int .u8 0, .int .u8 0, .int .u8 0, .int .u8 0, .int .u8 0, .int .u8 0, .int .u8 0, .int .u8 0, .int .u8 0, .int .u8 0, .int .u8 0, .int .u8 0, .int .u8 0, .int .u8 0, .int .u8 0, .int .u8 0, .int .u8 0, .int .u8 0, .int .u8 0, .int .u8 0, .int .u8 0, .int .u8 0, .int .u8 0, .int .u8 0, .int .u8 0, .int .u8 0] 5)).alloc (.cells #[.slice (some ⟨w1.heap.size, 0, none⟩) 4 43] 22) := ⟨_, rfl⟩
  have HW2 : Hid ((w1.alloc (.cells #[.int .u8 98, .int .u8 116, .int .u8 48, .int .u8 49, .int .u8 0, .int .u8 0, .int .u8 0, .int .u8 0, .int .u8 0, .int .u8 0, .int .u8 0, .int .u8 0, .int .u8 0, .int .u8 0, .int .u8 0, .int .u8 0, .int .u8 0, .int .u8 0, .int .u8 0, .int .u8 0, .int .u8 0, .int .u8 0, .int .u8 0, .int .u8 0, .int .u8 0, .int .u8 0, .int .u8 0, .int .u8 0, .int .u8 0, .int .u8 0, .int .u8 0, .int .u8 0, .int .u8 0, .int .u8 0, .int .u8 0, .int .u8 0, .int .u8 0, .int .u8 0, .int .u8 0, .int .u8 0, .int .u8 0, .int .u8 0, .int .u8 0] 5)).alloc (.cells #[.slice (some ⟨w1.heap.size, 0, none⟩) 4 43] 22) = w2) := hw2.symm
  have b2 : Below w1.heap.size w1 w2 := by rw [hw2]; exact ((Below.refl _ _).alloc (Nat.le_refl _) _).alloc (by simp) _
  have s2 : w2.heap.size = w1.heap.size + 2 := by rw [hw2]; simp
  have q2 : w2.heap[w1.heap.size + 1]? = some (.cells #[.slice (some ⟨w1.heap.size, 0, none⟩) 4 43] 22 (0, 0)) := by rw [hw2]; exact heap_alloc2_new _ _ _
  have q3 : w2.heap[w1.heap.size]? = some (.cells #[.int .u8 98, .int .u8 116, .int .u8 48, .int .u8 49, .int .u8 0, .int .u8 0, .int .u8 0, .int .u8 0, .int .u8 0, .int .u8 0, .int .u8 0, .int .u8 0, .int .u8 0, .int .u8 0, .int .u8 0, .int .u8 0, .int .u8 0, .int .u8 0, .int .u8 0, .int .u8 0, .int .u8 0, .int .u8 0, .int .u8 0, .int .u8 0, .int .u8 0, .int .u8 0, .int .u8 0, .int .u8 0, .int .u8 0, .int .u8 0, .int .u8 0, .int .u8 0, .int .u8 0, .int .u8 0, .int .u8 0, .int .u8 0, .int .u8 0, .int .u8 0, .int .u8 0, .int .u8 0, .int .u8 0, .int .u8 0, .int .u8 0] 5 (0, 0)) := by rw [hw2, heap_alloc_old _ _ (by simp)]; exact heap_alloc_new _ _
  obtain ⟨ob, hob⟩ : ∃ b, b = w1.heap.size + 1 := ⟨_, rfl⟩
  have HOB : Hid (ob = w1.heap.size + 1 ∧ w2.heap.size = w1.heap.size + 2) := ⟨hob, s2⟩
  have H2 : Hid (En25 w2 w.heap.size ob (E 0) ∧ w2.heap[w.heap.size]? = some (.cells CS 63 (0, 0)) ∧ Below w.heap.size w w2) := by
    refine ⟨?_, (b2.block _ (Array.getElem?_eq_some_iff.1 H1.out.2).1).trans H1.out.2, H1.out.1.trans (b2.mono H1.out.1.size)⟩
    rw [HES.out.1, hob]
    exact ⟨_, _, q2, ⟨rfl, .inr ⟨w1.heap.size, 43, _, rfl, H1.out.1.size, q3, by decide, by unfold maxLen; decide, rfl, rfl⟩⟩⟩
  rw [HW2.out, ← hob]
  clear hw2 b2 s2 q2 q3 hob
  have hcfI : ∀ z W, (callFunc 107 z).run Tryd.prog W = .ok (.enter 107 z) W := by intro z W; kernel_rfl
  have HCF : Hid (∀ z W, (callFunc 107 z).run Tryd.prog W = .ok (.enter 107 z) W) := hcfI
  clear hcfI
  refine (pfields25 w.heap.size w2).mono ?_
  rintro e3 w3 ⟨pf, cf, xs, rfl, of, Ff, b3⟩
  have H3 : Hid (He25 w w.heap.size w.heap.size ob w2.heap.size pf cf xs CS E (.int .i64 0) w3) := ⟨0, by omega, rfl, H2.out.1.old b3, (b3.block _ (Array.getElem?_eq_some_iff.1 H2.out.2.1).1).trans H2.out.2.1, of, Ff, H2.out.2.2.trans (b3.mono H2.out.2.2.size)⟩
  have HM : Hid (ob < w2.heap.size ∧ w.heap.size < ob ∧ w.heap.size ≤ ob) := by
    have h1 := HOB.out.1
    have h2 := HOB.out.2
    have h3 := H1.out.1.size
    have h4 := (Array.getElem?_eq_some_iff.1 H1.out.2).1
    exact ⟨by omega, by omega, by omega⟩
  obtain ⟨M, hMd⟩ : ∃ M, M = w2.heap.size := ⟨_, rfl⟩
  rw [← hMd] at H3 HM
  clear of Ff b3 hMd H2 HOB H1 HQ HWB HCC HCS HC
  have hmf : ∀ (fn : Fn) (first cap : Array Value) (w : World), (Instr.makeFunc fn first cap).run Tryd.prog w = .ok (.func fn first cap) w := fun _ _ _ _ => rfl
  go_wp2_with fail
  go_loopw [17] (fun t17 V => He25 w w.heap.size w.heap.size ob M pf cf xs CS E t17 V) (fun t17 _ => 10 - (intOf t17).toNat)
  case atStart => exact H3.out
  case round =>
    obtain ⟨i, hi, rfl, hEn, hrb, hof, hFs, hBl⟩ := hrel
    by_cases hlt : i < 10
    · obtain ⟨a, s, hx, hf⟩ := hFs.2 i hlt
      obtain ⟨gf, rfl, hc⟩ := own_cell25 hof hlt hx
      have hne : a ≠ ob ∧ s ≠ ob ∧ w.heap.size ≠ ob := by have h1 := hf.la; have h2 := hf.ls; have h3 := HM.out; exact ⟨by omega, by omega, by omega⟩
      have fit := HFT.out i hlt
      have hil : (i : Int) < 10 := by omega
      have hiw : IntKind.i64.wrap ((i : Int) + 1) = ((i + 1 : Nat) : Int) := by rw [IntWalk.i64_in _ (by omega)]; omega
      have hpen : Calls Tryd.prog 107 #[.int .u64 (VS i), .int .i64 (fz25 i), .pointer (some ⟨ob, 0, none⟩)] wr.drew fun e W' => e = .returned (.int .u64 (VS i)) ∧ (En25 W' w.heap.size ob (E (i + 1)) ∧ Below w.heap.size wr.drew W') ∧ Ku25 ob wr.drew W' :=
        (penc125 (w := wr.drew) (N := w.heap.size) (ob := ob) (L := E i) (M := E (i + 1)) HM.out.2.2 hEn fit.2.2.2.2.2 fit.2.2.2.1 fit.2.2.2.2.1 fit.1 (by omega) fit.2.2.1 (by have := HES.out.2.2.1 i hi; omega) (HES.out.2.1 i)).mono (fun e W' h => ⟨h.1, ⟨h.2.1, h.2.2.2⟩, h.2.2.1⟩)
      have hvc := HVC.out i hlt
      have HH : Hid (En25 wr w.heap.size ob (E i) ∧ wr.heap[w.heap.size]? = some (.cells CS 63 (0, 0)) ∧ wr.ownsRow M 151 1 (.slice (some ⟨gf, 0, none⟩) 10 cf) 10 xs ∧ Fs25 wr M w.heap.size 10 xs ∧ Below w.heap.size w wr) := ⟨hEn, hrb, hof, hFs, hBl⟩
      have HV1 : Hid (IntKind.u64.wrap (VS i) = VS i ∧ IntKind.i64.wrap (VS i) = VS i) := ⟨IntWalk.u64_in _ (by omega), IntWalk.i64_in _ (by omega)⟩
      have HLT : Hid (i < 10) := hlt
      clear hEn hof hFs hBl hx fit hlt hi H3
      by_cases hu : fu25 i = true
      · have e1 : fv25 i a s = .func (.func 126) #[] #[.pointer (some ⟨a, 0, none⟩), .pointer (some ⟨s, 0, none⟩)] := by unfold fv25 ffn25; rw [hu]; rfl
        rw [e1] at hc
        rw [hu] at hvc
        rw [if_pos rfl] at hvc
        have hw32 : IntKind.u32.wrap (VS i) = VS i := HW32.out i HLT.out hu
        have PP := pfld25u (PF := 107) (y := VS i) hf hu hrb hvc HV1.out.1 hw32 HCF.out hpen hne.1 hne.2.1 hne.2.2
        have HSS : Hid (CS.setIfInBounds i (.int .u32 (VS i)) = CS) := set_same25 hvc
        have HNE : Hid (a ≠ ob ∧ s ≠ ob ∧ w.heap.size ≠ ob) := hne
        clear hf hvc hpen hne e1 hw32 hrb hu
        go_wp2_with fail
        refine PP.mono ?_
        rintro e4 w4 ⟨rfl, W', ⟨hE', hB'⟩, hK', hW'⟩
        have hrb' : W'.heap[w.heap.size]? = some (.cells CS 63 (0, 0)) := (hK'.2 _ _ _ _ HH.out.2.1 HNE.out.2.2 (by decide)).trans HH.out.2.1
        rw [HSS.out, setRow_self25 hrb'] at hW'
        subst hW'
        obtain ⟨pe, ce, hqe, hoe⟩ := HH.out.1
        have KU : Ku25 ob wr w4 := hK'
        have H4 : Hid (He25 w w.heap.size w.heap.size ob M (some ⟨gf, 0, none⟩) cf xs CS E (.int .i64 ((i + 1 : Nat) : Int)) w4) := ⟨i + 1, HLT.out, rfl, hE', hrb', own_ku25 HH.out.2.2.1 KU hqe, ⟨HH.out.2.2.2.1.1, fun k hk => by
          obtain ⟨a2, s2, x2, f2⟩ := HH.out.2.2.2.1.2 k hk
          exact ⟨a2, s2, x2, KU.Fb f2 (by have := f2.la; have := HM.out; omega) (by have := f2.ls; have := HM.out; omega)⟩⟩, HH.out.2.2.2.2.drew.trans hB'⟩
        clear hE' hB' hK' hrb' hqe hoe KU PP
        go_wp2_with fail
        go_roundw
        case rel => exact H4.out
        case measure => have := HLT.out; simp [intOf]; omega
      · have hu : fu25 i = false := by simpa using hu
        have e1 : fv25 i a s = .func (.func 125) #[] #[.pointer (some ⟨a, 0, none⟩), .pointer (some ⟨s, 0, none⟩)] := by unfold fv25 ffn25; rw [hu]; rfl
        rw [e1] at hc
        rw [hu] at hvc
        rw [if_neg (by decide)] at hvc
        have PP := pfld25i (PF := 107) (y := VS i) hf hu hrb hvc HV1.out.1 HV1.out.2 HCF.out hpen hne.1 hne.2.1 hne.2.2
        have HSS : Hid (CS.setIfInBounds i (.int .i64 (VS i)) = CS) := set_same25 hvc
        have HNE : Hid (a ≠ ob ∧ s ≠ ob ∧ w.heap.size ≠ ob) := hne
        clear hf hvc hpen hne e1 hrb hu
        go_wp2_with fail
        refine PP.mono ?_
        rintro e4 w4 ⟨rfl, W', ⟨hE', hB'⟩, hK', hW'⟩
        have hrb' : W'.heap[w.heap.size]? = some (.cells CS 63 (0, 0)) := (hK'.2 _ _ _ _ HH.out.2.1 HNE.out.2.2 (by decide)).trans HH.out.2.1
        rw [HSS.out, setRow_self25 hrb'] at hW'
        subst hW'
        obtain ⟨pe, ce, hqe, hoe⟩ := HH.out.1
        have KU : Ku25 ob wr w4 := hK'
        have H4 : Hid (He25 w w.heap.size w.heap.size ob M (some ⟨gf, 0, none⟩) cf xs CS E (.int .i64 ((i + 1 : Nat) : Int)) w4) := ⟨i + 1, HLT.out, rfl, hE', hrb', own_ku25 HH.out.2.2.1 KU hqe, ⟨HH.out.2.2.2.1.1, fun k hk => by
          obtain ⟨a2, s2, x2, f2⟩ := HH.out.2.2.2.1.2 k hk
          exact ⟨a2, s2, x2, KU.Fb f2 (by have := f2.la; have := HM.out; omega) (by have := f2.ls; have := HM.out; omega)⟩⟩, HH.out.2.2.2.2.drew.trans hB'⟩
        clear hE' hB' hK' hrb' hqe hoe KU PP
        go_wp2_with fail
        go_roundw
        case rel => exact H4.out
        case measure => have := HLT.out; simp [intOf]; omega
    · obtain rfl : i = 10 := by omega
      have hnl : ¬ ((10 : Nat) : Int) < 10 := by omega
      obtain ⟨p, c, hq, ho⟩ := hEn
      have HH : Hid (wr.heap[ob]? = some (.cells #[.slice p (E 10).length c] 22 (0, 0)) ∧ wr.ownsRow w.heap.size 5 1 (.slice p (E 10).length c) (E 10).length ((E 10).map (Value.int .u8)) ∧ Below w.heap.size w wr) := ⟨hq, ho, hBl⟩
      clear hrb hof hFs hBl hq ho H3 hlt hi
      go_wp2_with fail
      obtain ⟨L, hL⟩ : ∃ L, L = E 10 := ⟨_, rfl⟩
      have HL : Hid (L.length ≤ 84 ∧ ∀ z ∈ L, 0 ≤ z ∧ z ≤ 255) := by show _; rw [hL]; exact ⟨HES.out.2.2.1 10 (by omega), HES.out.2.2.2 10⟩
      rw [← hL] at HH HBY
      clear hL
      obtain ⟨n, hn⟩ : ∃ n, n = L.length := ⟨_, rfl⟩
      have HN : Hid (n = L.length) := hn
      rw [← hn] at HH
      obtain ⟨v0, hv0⟩ : ∃ v, v = wr.drew := ⟨_, rfl⟩
      have HV0 : Hid (wr.drew = v0) := hv0.symm
      have J0 : Hid (v0.heap[ob]? = some (.cells #[.slice p n c] 22 (0, 0)) ∧ v0.ownsRow w.heap.size 5 1 (.slice p n c) n (L.map (Value.int .u8)) ∧ Below w.heap.size w v0) := by rw [hv0]; exact ⟨HH.out.1, HH.out.2.1, HH.out.2.2.drew⟩
      have TB := HTB.out v0 J0.out.2.2
      obtain ⟨-, a2, cc2, hvv, sg, -⟩ := own_seg (M := 255) J0.out.2.1 (by decide) HL.out.2
      injection hvv with r1 r2 r3
      subst r1
      have SUM := sum_one v0 v0.heap.size L.length p L c 1 22 TB sg rfl rfl (by have := HL.out.1; omega)
      have b0 := wI_bd21 (sumW L)
      have hsm : sm21 L = fixL 4 (wI (sumW L)) := rfl
      rw [hsm] at HBY
      rw [← hn] at SUM
      have hw64 : IntKind.u64.wrap (wI (sumW L)) = wI (sumW L) := IntWalk.u64_in _ (by omega)
      generalize wI (sumW L) = sv at *
      have FX := fun W => pfixd25 sv 4 W (by omega) (by omega) (by omega) (by omega) (by show sv / 4294967296 = 0; omega)
      clear TB sg r2 r3 b0 hsm hv0 hn
      refine plain_region16 (fun V => V.cell? ⟨ob, 0, none⟩ = some (.slice p n c)) 8 (by kernel_rfl) (by rw [HV0.out]; exact cell25 J0.out.1 rfl) (fun hHeld => ?_)
      rw [HV0.out] at hHeld ⊢
      refine wpAnyK_take (i := 0) (v := .slice p n c) rfl (by kernel_rfl) (by kernel_rfl) (by kernel_rfl) (by kernel_rfl) (fun _ _ _ h => h) (Or.inl ⟨by rfl, fun w hSw => by go_simp⟩) hHeld ?_
      simp only [List.getElem_toArray, List.getElem_cons_zero, Act.put, List.setIfInBounds_toArray, List.set_cons_zero, List.set_cons_succ]
      refine wpAnyK_take (i := 1) (v := .slice p n c) rfl (by kernel_rfl) (by kernel_rfl) (by kernel_rfl) (by kernel_rfl) (fun _ _ _ h => h) (Or.inl ⟨by rfl, fun w hSw => by go_simp⟩) hHeld ?_
      simp only [List.getElem_toArray, List.getElem_cons_zero, List.getElem_cons_succ, Act.put, List.setIfInBounds_toArray, List.set_cons_zero, List.set_cons_succ]
      refine wpAnyK_one (i := 2) (by kernel_rfl) rfl (fun K hK => ?_)
      (try simp only [List.getElem_toArray, List.getElem_cons_zero, List.getElem_cons_succ, Act.put, List.setIfInBounds_toArray, List.set_cons_zero, List.set_cons_succ])
      go_simp
      obtain ⟨v1, hv1⟩ : ∃ v, v = v0.alloc (.cells #[.slice p n c] 22) := ⟨_, rfl⟩
      have b1 : Below v0.heap.size v0 v1 := by rw [hv1]; exact (Below.refl _ _).alloc (Nat.le_refl _) _
      rw [← hv1] at SUM ⊢
      have J1 : Hid (v1.heap[ob]? = some (.cells #[.slice p n c] 22 (0, 0)) ∧ v1.ownsRow w.heap.size 5 1 (.slice p n c) n (L.map (Value.int .u8)) ∧ Below w.heap.size w v1) := ⟨(b1.block _ (Array.getElem?_eq_some_iff.1 J0.out.1).1).trans J0.out.1, own_below21 J0.out.2.1 b1, J0.out.2.2.trans (b1.mono J0.out.2.2.size)⟩
      clear hv1 b1
      refine hK.out _ _ (fun _ => (cell25 J1.out.1 rfl)) (fun hHeld0 => ?_)
      have hHeld := hHeld0 (by decide)
      clear hHeld0 hK K
      (try simp only [List.getElem_toArray, List.getElem_cons_zero, List.getElem_cons_succ, Act.put, List.setIfInBounds_toArray, List.set_cons_zero, List.set_cons_succ])
      refine wpAnyK_one (i := 3) (by kernel_rfl) rfl (fun K hK => ?_)
      (try simp only [List.getElem_toArray, List.getElem_cons_zero, List.getElem_cons_succ, Act.put, List.setIfInBounds_toArray, List.set_cons_zero, List.set_cons_succ])
      go_simp
      refine SUM.mono ?_
      rintro e2 v2 ⟨rfl, hv2⟩
      subst hv2
      refine hK.out _ _ (fun _ => (cell25 J1.out.1 rfl)) (fun hHeld0 => ?_)
      have hHeld := hHeld0 (by decide)
      clear hHeld0 hK K
      (try simp only [List.getElem_toArray, List.getElem_cons_zero, List.getElem_cons_succ, Act.put, List.setIfInBounds_toArray, List.set_cons_zero, List.set_cons_succ])
      refine wpAnyK_one (i := 4) (by kernel_rfl) rfl (fun K hK => ?_)
      (try simp only [List.getElem_toArray, List.getElem_cons_zero, List.getElem_cons_succ, Act.put, List.setIfInBounds_toArray, List.set_cons_zero, List.set_cons_succ])
      go_simp
      refine hK.out _ _ (fun _ => (cell25 J1.out.1 rfl)) (fun hHeld0 => ?_)
      have hHeld := hHeld0 (by decide)
      clear hHeld0 hK K
      (try simp only [List.getElem_toArray, List.getElem_cons_zero, List.getElem_cons_succ, Act.put, List.setIfInBounds_toArray, List.set_cons_zero, List.set_cons_succ])
      refine wpAnyK_one (i := 5) (by kernel_rfl) rfl (fun K hK => ?_)
      (try simp only [List.getElem_toArray, List.getElem_cons_zero, List.getElem_cons_succ, Act.put, List.setIfInBounds_toArray, List.set_cons_zero, List.set_cons_succ])
      go_simp
      refine (FX _).mono ?_
      rintro e3 v3 ⟨rfl, o3, b3⟩
      obtain ⟨-, a3, cc3, hv3, sg3, -⟩ := own_seg (M := 255) o3 (by decide) (fixL_bd _ _)
      injection hv3 with r1 r2 r3
      subst r1
      have J3 : Hid (v3.heap[ob]? = some (.cells #[.slice p n c] 22 (0, 0)) ∧ v3.ownsRow w.heap.size 5 1 (.slice p n c) n (L.map (Value.int .u8)) ∧ Below w.heap.size w v3) := ⟨(b3.block _ (Array.getElem?_eq_some_iff.1 J1.out.1).1).trans J1.out.1, own_below21 J1.out.2.1 b3, J1.out.2.2.trans (b3.mono J1.out.2.2.size)⟩
      have SG : Hid _ := sg3
      clear o3 b3 r2 r3 sg3 FX SUM
      refine hK.out _ _ (fun _ => (cell25 J3.out.1 rfl)) (fun hHeld0 => ?_)
      have hHeld := hHeld0 (by decide)
      clear hHeld0 hK K
      (try simp only [List.getElem_toArray, List.getElem_cons_zero, List.getElem_cons_succ, Act.put, List.setIfInBounds_toArray, List.set_cons_zero, List.set_cons_succ])
      refine wpAnyK_one (i := 6) (by kernel_rfl) rfl (fun K hK => ?_)
      (try simp only [List.getElem_toArray, List.getElem_cons_zero, List.getElem_cons_succ, Act.put, List.setIfInBounds_toArray, List.set_cons_zero, List.set_cons_succ])
      rw [if_pos (by rfl)]
      have ob1 := J3.out.2.1
      rw [HN.out] at ob1
      obtain ⟨g4, c4, v4, hr4, o4, b4, k4⟩ := app21 v3 (m := 4) (N := BY) (c2 := 4) HBY.out ob1 SG.out (fixL_len _ _) (by omega) (by have := HL.out.1; omega) J3.out.2.2.size
      rw [← HN.out] at hr4 k4 ob1
      have q4 : v4.heap[ob]? = some (.cells #[.slice p n c] 22 (0, 0)) := k4.heap J3.out.1 (fun e => absurd (own_ty25 ob1 e J3.out.1) (by decide))
      have J4 : Hid (v4.heap[ob]? = some (.cells #[.slice p n c] 22 (0, 0)) ∧ v4.ownsRow w.heap.size 5 1 (.slice (some ⟨g4, 0, none⟩) BY.length c4) BY.length (BY.map (Value.int .u8)) ∧ Below w.heap.size w v4) := ⟨q4, o4, J3.out.2.2.trans b4⟩
      refine operwp_app24 _ _ _ rfl rfl rfl hr4 ?_
      clear hr4 q4 o4 b4 k4 ob1
      refine hK.out _ _ (fun _ => (cell25 J4.out.1 rfl)) (fun hHeld0 => ?_)
      have hHeld := hHeld0 (by decide)
      clear hHeld0 hK K
      simp only [Act.put, List.setIfInBounds_toArray, List.set_cons_zero, List.set_cons_succ]
      refine wpAnyK_one (i := 7) (by kernel_rfl) rfl (fun K hK => ?_)
      (try simp only [List.getElem_toArray, List.getElem_cons_zero, List.getElem_cons_succ, Act.put, List.setIfInBounds_toArray, List.set_cons_zero, List.set_cons_succ])
      go_simp
      refine hK.out _ _ (fun _ => (cell25 J4.out.1 rfl)) (fun hHeld0 => ?_)
      have hHeld := hHeld0 (by decide)
      clear hHeld0 hK K
      (try simp only [List.getElem_toArray, List.getElem_cons_zero, List.getElem_cons_succ, Act.put, List.setIfInBounds_toArray, List.set_cons_zero, List.set_cons_succ])
      refine wpAnyK_one (i := 8) (by kernel_rfl) rfl (fun K hK => ?_)
      (try simp only [List.getElem_toArray, List.getElem_cons_zero, List.getElem_cons_succ, Act.put, List.setIfInBounds_toArray, List.set_cons_zero, List.set_cons_succ])
      go_simp
      refine hK.out _ _ (fun h => absurd rfl h) (fun _ => ?_)
      clear hK K
      refine wpAnyK_done (by kernel_rfl) ?_ _
      go_wp2_with fail
      go_ret2
      exact ⟨_, _, rfl, J4.out.2.1, J4.out.2.2⟩
end Go.Proofs.YtmjlpfmacblcpaaDoor
