import Derived.Test.YtkjccbihdinlkaaPaw
namespace Go.Proofs.Ytkjccbihdinlkaa
open Go.RowKit
set_option linter.unusedVariables false

/-- Bits that lie somewhere, behind a row. -/
theorem wpList_appB {P : Program} {ops : Array Oper} {rest : List Oper} {o : Oper} {a : Act} {Q : Exit → Act → World → Prop} (hgd : o.guard = none) (s x : Operand) (t : TypeId)
    (ho : o.op = .call { callee := .builtin .append, args := #[s, x], argTypes := #[t, t] })
    (base : Nat) (e : TypeId) (i : TypeInfo) (z : Value) (bytes : Nat) (ht : P.underlying t = some (.slice e)) (hi : P.info? e = some i) (hz : i.zero = some z)
    (hsize : i.size = 1) (hby : i.bytes = bytes) (hzs : z.cells.size = 1)
    {w : World} {ra : Option Addr} {rc : Nat} {n : Nat} {xs : List Value} (hown : w.ownsRow base e 1 (.slice ra n rc) n xs) {ao : Option Addr} {zs : List Bool} {cap : Nat} (hseg : SegB w ao zs) (hnil : ao = none → cap = 0)
    (hs : a.eval s = .slice ra n rc) (hx : a.eval x = .slice ao zs.length cap)
    (h63 : n + zs.length ≤ 140737488355328) (hbytes : (n + zs.length) * bytes ≤ 140737488355328) (hbase : base ≤ w.heap.size)
    (h : ∀ (b : Option Addr) (c : Nat) (w' : World), w'.ownsRow base e 1 (.slice b (n + zs.length) c) (n + zs.length) (xs ++ zs.map Value.bool) → w.grownBy w' (Value.slice ra n rc).ownBlock → Fresh w (.slice ra n rc) (.slice b (n + zs.length) c) → wpList P ops Q rest (a.put o.dst (.slice b (n + zs.length) c)) w') : wpList P ops Q (o :: rest) a w := by
  cases ao with
  | none =>
    have hz : zs = [] := by
      cases zs with
      | nil => rfl
      | cons z r => obtain ⟨b, off, hx, _⟩ := hseg.at_ 0 (by simp); cases hx
    subst hz
    rw [hnil rfl] at hx
    refine wpList_append_own_none hgd s x t ho base e i 1 ht hi _ n xs hs hown hx ?_
    have := h ra rc w (by simpa using hown) (World.grownBy.refl _ _) (fun k hk => .inl hk)
    simpa using this
  | some ad =>
    exact wpList_app hgd s x t ho base e i z bytes ht hi hz hsize hby hzs hown (by simp) (segB_cells hseg) (bools_oneCell _) hs hx h63 hbytes hbase (fun b c w' h1 h2 h3 _ => h b c w' h1 h2 h3)
theorem RB.set1 {w : World} {b B : Nat} {T : TypeId} {x : Value} {a : Option Addr} {cap : Nat} {L : List Bool} (h : RB w b B T [x] a cap L) (u : Value) : RB (w.setCell ⟨b, 1, none⟩ u) b B T [u] a cap L ∧ Kp (fun j => j = b) w (w.setCell ⟨b, 1, none⟩ u) := by
  have hk : Kp (fun j => j = b) w (w.setCell ⟨b, 1, none⟩ u) := Kp.set (S := fun j => j = b) rfl _
  refine ⟨⟨?_, own_kp h.own hk (fun j e1 e2 => h.ne (e2 ▸ e1)), h.ne, Nat.le_trans h.bB hk.size⟩, hk⟩
  have hp : w.heap[b]? = some (.cells #[.slice a L.length cap, x] T (0, 0)) := h.hp
  exact two_set1 hp u
/-- A row that was made anew is laid into the first cell, and a number into the second. -/
theorem RB.renew {w w2 : World} {b B : Nat} {T : TypeId} {x : Value} {a a' : Option Addr} {cap cap' : Nat} {L M : List Bool} {o : Obj} (h : RB w b B T [x] a cap L) (u : Value)
    (hown : w2.ownsRow w.heap.size 4 1 (.slice a' (0 + M.length) cap') (0 + M.length) ([] ++ M.map Value.bool)) (hg : (w.alloc o).grownBy w2 (some w.heap.size)) (hf : Fresh (w.alloc o) (.slice (some ⟨w.heap.size, 0, none⟩) 0 0) (.slice a' (0 + M.length) cap')) :
    RB ((w2.setCell ⟨b, 0, none⟩ (.slice a' M.length cap')).setCell ⟨b, 1, none⟩ u) b B T [u] a' cap' M ∧ Kp (WS b (.slice a L.length cap)) w ((w2.setCell ⟨b, 0, none⟩ (.slice a' M.length cap')).setCell ⟨b, 1, none⟩ u) ∧ Fresh w (.slice a L.length cap) (.slice a' M.length cap') := by
  rw [Nat.zero_add] at hown hf
  have hk : Kp (fun k => (Value.slice a L.length cap).ownBlock = some k) w w2 := by
    have h1 : Kp (fun k => w.heap.size ≤ k) w w2 := (Kp.alloc w o).trans (Kp.grown (S := fun k => w.heap.size ≤ k) hg (by intro i e; cases e; exact Nat.le_refl _)) (fun _ _ e => e)
    exact h1.mono (fun i hi e => by omega)
  have hf2 : Fresh w (.slice a L.length cap) (.slice a' M.length cap') := by
    intro k e
    right
    rcases hf k e with e | e
    · cases e; exact Nat.le_refl _
    · simp at e; omega
  have hs := h.store hk (own_base (by simpa using hown) h.bB) hf2
  have h1 := hs.1.set1 u
  exact ⟨h1.1, hs.2.1.trans h1.2 (fun j _ e => .inl e), hf2⟩

/-- The document's Reader: the bits that it holds, and how many are gone. -/
def RrL (w : World) (b B : Nat) (v : Value) (L : List Bool) (g : Nat) : Prop := ∃ a cap, v = .slice a L.length cap ∧ RB w b B 65 [.int .i64 (g : Int)] a cap L
variable {w w' : World} {b B g : Nat} {v : Value} {L : List Bool}
theorem RrL.kp {S : Nat → Prop} (h : RrL w b B v L g) (hk : Kp S w w') (h1 : ¬ S b) (h2 : ∀ k, v.ownBlock = some k → ¬ S k) : RrL w' b B v L g := by
  obtain ⟨a, cap, rfl, h⟩ := h
  exact ⟨a, cap, rfl, h.kp hk h1 h2⟩
theorem RrL.b_lt (h : RrL w b B v L g) : b < w.heap.size := by
  obtain ⟨a, cap, rfl, h⟩ := h
  exact h.b_lt
theorem RrL.own_lt (h : RrL w b B v L g) : ∀ k, v.ownBlock = some k → B ≤ k ∧ k < w.heap.size ∧ k ≠ b := by
  obtain ⟨a, cap, rfl, h⟩ := h
  exact h.own_lt
theorem RrL.new (h : w.heap[b]? = some (.cells #[.slice none 0 0, .int .i64 0] 65 (0, 0))) (hB : B ≤ w.heap.size) : RrL w b B (.slice none 0 0) [] 0 :=
  ⟨none, 0, rfl, ⟨h, World.ownsRow_nil _ _ _ _, by simp [Value.ownBlock], hB⟩⟩

set_option maxRecDepth 100000 in
theorem rspace_any (b B : Nat) (v : Value) (L : List Bool) (g : Nat) (w : World) (h : RrL w b B v L g) (hle : L.length ≤ 64) :
    Calls Try.prog 48 #[.pointer (some ⟨b, 0, none⟩)] w fun e w' => e = .returned (.int .i64 (((64 - L.length) / 8 : Nat) : Int)) ∧ w' = w := by
  obtain ⟨a, cap, rfl, h⟩ := h
  have hc0 := h.cell0
  have HE : Hid ((((64 - L.length) / 8 : Nat) : Int) = (64 - (L.length : Int)) / 8) := by show _ = _; omega
  go_enter Try.func48, Try.ntmps48
  go_wp2
  go_ret
  exact ⟨by rw [HE.out]; rfl, rfl⟩

set_option maxRecDepth 100000 in
set_option maxHeartbeats 400000 in
theorem rpeek_no (b B : Nat) (v : Value) (L : List Bool) (g : Nat) (n : Int) (w : World) (h : RrL w b B v L g) (hn : there L n = false) :
    Calls Try.prog 51 #[.pointer (some ⟨b, 0, none⟩), .int .i64 n] w fun e w' => e = .returned (.tuple #[.int .u64 0, .bool false]) ∧ w' = w := by
  obtain ⟨a, cap, rfl, h⟩ := h
  have hc0 := h.cell0
  rcases there_no hn with hn | ⟨hn, hn2⟩ | ⟨hn, hn2, hn3⟩
  · go_enter Try.func51, Try.ntmps51
    go_wp2
    go_ret2
    exact ⟨rfl, rfl⟩
  · go_enter Try.func51, Try.ntmps51
    go_wp2
    go_ret2
    exact ⟨rfl, rfl⟩
  · go_enter Try.func51, Try.ntmps51
    go_wp2
    go_ret2
    exact ⟨rfl, rfl⟩

set_option maxRecDepth 100000 in
set_option maxHeartbeats 1000000 in
theorem rpeek_yes (b B : Nat) (v : Value) (L : List Bool) (g k : Nat) (w : World) (h : RrL w b B v L g) (h1 : k ≤ 56) (h2 : k ≤ L.length) :
    Calls Try.prog 51 #[.pointer (some ⟨b, 0, none⟩), .int .i64 (k : Int)] w fun e w' => e = .returned (.tuple #[.int .u64 (num (L.take k) : Int), .bool true]) ∧ w' = w := by
  obtain ⟨a, cap, rfl, h⟩ := h
  have hc0 := h.cell0
  have hsB := h.seg
  have hk : (k : Int) ≤ (L.length : Int) := by omega
  go_enter Try.func51, Try.ntmps51
  go_wp2
  go_loopw [6, 7] (fun tv ti wr => ∃ i o : Nat, i ≤ k ∧ tv = .int .u64 (o : Int) ∧ ti = .int .i64 (i : Int) ∧ Hid (o = num (L.take i)) ∧ wr = w) (fun _ ti _ => k - (intOf ti).toNat)
  case atStart => exact ⟨0, 0, Nat.zero_le _, rfl, rfl, (by show _ = _; simp [num]), rfl⟩
  case round =>
    obtain ⟨i, o, hi, rfl, rfl, ho, rfl⟩ := hrel
    by_cases hlt : i < k
    · have hiL : i < L.length := by omega
      have ho2 : o < 2 ^ i := by rw [ho.out]; exact num_take_lt _ _
      obtain ⟨sb, so, rfl, hcell⟩ := hsB.at_ i hiL
      have hgd : L.getD i false = L[i] := by simp [List.getD, hiL]
      rw [hgd] at hcell
      have HN : Hid (num (L.take (i + 1)) = o + 2 ^ i * (L[i]).toNat) := by show _ = _; rw [num_take_succ _ _ hiL, ho.out]
      have HP : Hid (IntKind.u64.wrap ((o : Int) + IntKind.u64.wrap (2 ^ i)) = ((o + 2 ^ i : Nat) : Int)) := add_bit ho2 (by omega)
      have ho3 : o < 9223372036854775808 := by
        have := pow_le_63 (k := i) (by omega)
        omega
      have hlt2 : (i : Int) < (k : Int) := by omega
      have hlt3 : (i : Int) < (L.length : Int) := by omega
      clear ho2 hgd
      cases hx : L[i]
      · rw [hx] at hcell HN
        clear hx
        go_wp2
        go_roundw
        case rel => exact ⟨i + 1, o, by omega, rfl, by go_num, (by show _ = _; rw [HN.out]; simp), trivial⟩
        case measure => simp [intOf]; omega
      · rw [hx] at hcell HN
        clear hx
        go_wp2
        go_roundw
        case rel => exact ⟨i + 1, o + 2 ^ i, by omega, by rw [← HP.out], by go_num, (by show _ = _; rw [HN.out]; simp), trivial⟩
        case measure => simp [intOf]; omega
    · have HI : Hid (i = k) := by show _ = _; omega
      have hge : (k : Int) ≤ (i : Int) := by omega
      clear hlt hi
      go_wp2
      go_ret2
      exact ⟨by rw [ho.out, HI.out]; rfl, rfl⟩
theorem rpeek_any (b B : Nat) (v : Value) (L : List Bool) (g : Nat) (n : Int) (w : World) (h : RrL w b B v L g) :
    Calls Try.prog 51 #[.pointer (some ⟨b, 0, none⟩), .int .i64 n] w fun e w' => e = .returned (.tuple #[.int .u64 (takeV L n : Int), .bool (there L n)]) ∧ w' = w := by
  unfold takeV
  cases hn : there L n
  · exact rpeek_no b B v L g n w h hn
  · obtain ⟨k, rfl, h1, h2⟩ := there_yes hn
    exact rpeek_yes b B v L g k w h h1 h2

set_option maxRecDepth 100000 in
set_option maxHeartbeats 1000000 in
theorem rtake_any (b B : Nat) (v : Value) (L : List Bool) (g : Nat) (n : Int) (w : World) (h : RrL w b B v L g) (hg : g ≤ 4611686018427387904) (hle : L.length ≤ 64) :
    Calls Try.prog 32 #[.pointer (some ⟨b, 0, none⟩), .int .i64 n] w fun e w' => e = .returned (.tuple #[.int .u64 (takeV L n : Int), .bool (there L n)]) ∧ ∃ v', RrL w' b B v' (takeL L n) (takeT L g n) ∧ Kp (WS b v) w w' ∧ Fresh w v v' := by
  obtain ⟨i0, hi, hz0, hz1, hz2⟩ := info_parts info_b1
  have C := rpeek_any b B v L g n w h
  cases hn : there L n
  · have HN : takeL L n = L ∧ takeT L g n = g := by
      unfold takeL takeT
      rw [hn]
      exact ⟨rfl, rfl⟩
    rw [HN.1, HN.2]
    rw [hn] at C
    generalize takeV L n = x at *
    clear HN hn
    go_enter Try.func32, Try.ntmps32
    go_wp2_with fail
    refine C.mono ?_
    rintro e w1 ⟨rfl, hw1⟩
    subst w1
    go_wp2
    go_ret2
    exact ⟨rfl, v, h, Kp.refl _ _, Fresh.refl _ _⟩
  · obtain ⟨k, rfl, h1, h2⟩ := there_yes hn
    have HN : takeL L (k : Int) = L.drop k ∧ takeT L g (k : Int) = g + k := by
      unfold takeL takeT
      rw [hn]
      exact ⟨by simp, by simp⟩
    rw [HN.1, HN.2]
    rw [hn] at C
    generalize takeV L (k : Int) = x at *
    clear HN hn
    obtain ⟨a, cap, rfl, h⟩ := h
    have hc0 := h.cell0
    have hlt := h.b_lt
    have hdf := h.free
    have hsB := h.seg
    have hshape : (a = none ∧ cap = 0 ∧ L = []) ∨ ∃ gb, a = some ⟨gb, 0, none⟩ ∧ L.length ≤ cap := by
      rcases h.own.2 with ⟨e0, h0⟩ | ⟨gb, cp, cur, e0, _, _, hcc, _⟩
      · simp at e0
        exact .inl ⟨e0.1, e0.2.2, List.eq_nil_of_length_eq_zero h0⟩
      · simp only [Value.slice.injEq] at e0
        obtain ⟨rfl, _, rfl⟩ := e0
        exact .inr ⟨gb, rfl, hcc⟩
    have hc1 : w.cell? ⟨b, 1, none⟩ = some (.int .i64 (g : Int)) := by simp [World.cell?, h.hp]
    have hm0 : (w.alloc (.cells #[] 4)).ownsRow w.heap.size 4 1 (.slice (some ⟨w.heap.size, 0, none⟩) 0 0) 0 [] := World.ownsRow_made w #[] 0 (Nat.le_refl _) (by decide) rfl
    have hca : ∀ i, w.cell? ⟨b, i, none⟩ = (w.alloc (.cells #[] 4)).cell? ⟨b, i, none⟩ := fun i => ((((Below.refl w.heap.size w).alloc (Nat.le_refl _) _).cell (p := ⟨b, i, none⟩) hlt)).symm
    have hca0 := (hca 0).symm.trans hc0
    have hca1 := (hca 1).symm.trans hc1
    clear hca
    have hpa : ∀ o, (w.alloc o).heap[b]? = some (.cells #[.slice a L.length cap, .int .i64 (g : Int)] 65 (0, 0)) := fun o => by rw [Below.heap_alloc _ _ _ hlt]; exact h.hp
    have HNA : Hid (b < (w.alloc (.cells #[] 4)).heap.size) := by show _ < _; simp; omega
    have HNB : Hid (some b ≠ (Value.slice (some ⟨w.heap.size, 0, none⟩) 0 0).ownBlock) := by
      intro e
      simp [Value.ownBlock] at e
      omega
    obtain ⟨M, hM⟩ : ∃ M, M = L.drop k := ⟨_, rfl⟩
    have hMl : M.length = L.length - k := by rw [hM, List.length_drop]
    have HM : Hid (M = L.drop k) := hM
    rcases hshape with ⟨rfl, rfl, hLn⟩ | ⟨gb, rfl, hcap⟩
    · subst hLn
      have hk0 : k = 0 := by simpa using h2
      subst hk0
      have hsM : SegB (w.alloc (.cells #[] 4)) none M := by
        rw [hM]
        exact ⟨fun i hi => by simp at hi⟩
      have HMl : Hid (M.length = 0) := by show _ = _; rw [hM]; rfl
      clear hM hMl
      have hlM : M.length ≤ 64 := by rw [HMl.out]; omega
      go_enter Try.func32, Try.ntmps32
      go_wp2_with fail
      refine C.mono ?_
      rintro e w1 ⟨rfl, hw1⟩
      subst w1
      go_wp2_with (at_builtin; refine wpList_appB rfl (.tmp 16) (.tmp 22) 48 rfl w.heap.size 4 i0 (.bool false) 1 Try.underlying48 hi hz0 hz1 hz2 rfl hm0 hsM (fun _ => rfl) rfl (by rw [HMl.out]; first | rfl | (simp [Act.eval, Act.put]; omega)) (by omega) (by omega) (by simp) ?_; intro b2 c2 w2 hown2 hg2 hfr2; have hp2 := (hg2.block b HNA.out HNB.out).trans (hpa _); rw [Nat.zero_add]; have hx0 := two_cell0 hp2; have hx1 := two_cell1 hp2; have hxf := two_free hp2)
      go_ret2
      have hfin := h.renew (M := M) (.int .i64 (g : Int)) hown2 hg2 hfr2
      rw [← HM.out]
      exact ⟨rfl, _, ⟨b2, c2, rfl, by simpa using hfin.1⟩, hfin.2.1, hfin.2.2⟩
    · have hkc : (k : Int) ≤ (cap : Int) := by omega
      have hkL : (k : Int) ≤ (L.length : Int) := by omega
      have HMl : Hid (M.length = L.length - k) := hMl
      have hlA := hsB.old ((Below.refl w.heap.size w).alloc (Nat.le_refl _) (.cells #[] 4))
      by_cases hkcap : cap = k
      · have hsM : SegB (w.alloc (.cells #[] 4)) (some ⟨gb, 0, none⟩) M := by
          have : M = [] := List.eq_nil_of_length_eq_zero (by omega)
          rw [this]
          exact ⟨fun i hi => by simp at hi⟩
        clear hM hMl
        have hlM : M.length ≤ 64 := by rw [HMl.out]; omega
        go_enter Try.func32, Try.ntmps32
        go_wp2_with fail
        refine C.mono ?_
        rintro e w1 ⟨rfl, hw1⟩
        subst w1
        go_wp2_with (at_builtin; refine wpList_appB rfl (.tmp 16) (.tmp 22) 48 rfl w.heap.size 4 i0 (.bool false) 1 Try.underlying48 hi hz0 hz1 hz2 rfl hm0 hsM (by intro h; cases h) rfl (by rw [HMl.out]; first | rfl | (simp [Act.eval, Act.put]; omega)) (by omega) (by omega) (by simp) ?_; intro b2 c2 w2 hown2 hg2 hfr2; have hp2 := (hg2.block b HNA.out HNB.out).trans (hpa _); rw [Nat.zero_add]; have hx0 := two_cell0 hp2; have hx1 := two_cell1 hp2; have hxf := two_free hp2)
        go_ret2
        have hfin := h.renew (M := M) (.int .i64 ((g : Int) + (k : Int))) hown2 hg2 hfr2
        rw [← HM.out]
        exact ⟨rfl, _, ⟨b2, c2, rfl, by simpa using hfin.1⟩, hfin.2.1, hfin.2.2⟩
      · have hsM : SegB (w.alloc (.cells #[] 4)) (some ⟨gb, k, none⟩) M := by
          rw [hM]
          have := hlA.drop k
          rw [Nat.zero_add] at this
          exact this
        clear hM hMl
        have hlM : M.length ≤ 64 := by rw [HMl.out]; omega
        go_enter Try.func32, Try.ntmps32
        go_wp2_with fail
        refine C.mono ?_
        rintro e w1 ⟨rfl, hw1⟩
        subst w1
        go_wp2_with (at_builtin; refine wpList_appB rfl (.tmp 16) (.tmp 22) 48 rfl w.heap.size 4 i0 (.bool false) 1 Try.underlying48 hi hz0 hz1 hz2 rfl hm0 hsM (by intro h; cases h) rfl (by rw [HMl.out]; first | rfl | (simp [Act.eval, Act.put]; omega)) (by omega) (by omega) (by simp) ?_; intro b2 c2 w2 hown2 hg2 hfr2; have hp2 := (hg2.block b HNA.out HNB.out).trans (hpa _); rw [Nat.zero_add]; have hx0 := two_cell0 hp2; have hx1 := two_cell1 hp2; have hxf := two_free hp2)
        go_ret2
        have hfin := h.renew (M := M) (.int .i64 ((g : Int) + (k : Int))) hown2 hg2 hfr2
        rw [← HM.out]
        exact ⟨rfl, _, ⟨b2, c2, rfl, by simpa using hfin.1⟩, hfin.2.1, hfin.2.2⟩
end Go.Proofs.Ytkjccbihdinlkaa
