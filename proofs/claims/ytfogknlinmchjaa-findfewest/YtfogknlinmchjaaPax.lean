import Derived.Deep.AppendLies
import Derived.Test.YtfogknlinmchjaaPaw
namespace Go.Proofs.Ytfogknlinmchjaa
open Go.RowKit
set_option linter.unusedVariables false

/-! Rows of matches; a text as a row of longest parts. -/
structure Mt14 where
  old : Nat
  new : Nat
  len : Nat
def flatM14 (l : List Mt14) : List Value := l.flatMap fun t => [.int .i64 (t.old : Int), .int .i64 (t.new : Int), .int .i64 (t.len : Int)]
theorem flatM14_app (l r : List Mt14) : flatM14 (l ++ r) = flatM14 l ++ flatM14 r := by unfold flatM14; rw [List.flatMap_append]
theorem flatM14_get : ∀ (l : List Mt14) (k : Nat) (x : Mt14), l[k]? = some x → (flatM14 l)[k * 3]? = some (.int .i64 (x.old : Int)) ∧ (flatM14 l)[k * 3 + 1]? = some (.int .i64 (x.new : Int)) ∧ (flatM14 l)[k * 3 + 2]? = some (.int .i64 (x.len : Int))
  | [], k, x, h => by simp at h
  | t :: r, 0, x, h => by
    simp at h
    subst h
    simp [flatM14]
  | t :: r, k + 1, x, h => by
    have := flatM14_get r k x (by simpa using h)
    have e : flatM14 (t :: r) = .int .i64 (t.old : Int) :: .int .i64 (t.new : Int) :: .int .i64 (t.len : Int) :: flatM14 r := rfl
    rw [e, show (k + 1) * 3 = k * 3 + 1 + 1 + 1 by omega]
    simpa [List.getElem?_cons_succ, show k * 3 + 1 + 1 + 1 + 1 = (k * 3 + 1) + 1 + 1 + 1 by omega] using this
theorem own_base14 {w : World} {base base' n sz : Nat} {e : TypeId} {v : Value} {xs : List Value} (h : w.ownsRow base e sz v n xs) (hb : base' ≤ base) : w.ownsRow base' e sz v n xs := by
  refine ⟨h.1, ?_⟩
  rcases h.2 with h | ⟨g, cap, cur, h1, h2, h3⟩
  · exact .inl h
  · exact .inr ⟨g, cap, cur, h1, Nat.le_trans hb h2, h3⟩
theorem own_kp14 {w w' : World} {S : Nat → Prop} {base n sz : Nat} {e : TypeId} {v : Value} {xs : List Value} (h : w.ownsRow base e sz v n xs) (hb : Kp S w w') (hn : ∀ x, v.ownBlock = some x → ¬ S x) : w'.ownsRow base e sz v n xs := by
  refine ⟨h.1, ?_⟩
  rcases h.2 with h | ⟨g, cap, cur, h1, h2, h3, h4⟩
  · exact .inl h
  · exact .inr ⟨g, cap, cur, h1, h2, hb.heap h3 (hn g (by rw [h1]; rfl)), h4⟩
theorem own_below14 {w w' : World} {base n sz : Nat} {e : TypeId} {v : Value} {xs : List Value} (h : w.ownsRow base e sz v n xs) (hb : Below w.heap.size w w') : w'.ownsRow base e sz v n xs := own_kp14 (S := fun _ => False) h (Kp.of_below hb) (fun _ _ e => e)
/-- A match behind a row of the call's own. -/
theorem wpList_app314 {P : Program} {ops : Array Oper} {rest : List Oper} {o : Oper} {a : Act} {Q : Exit → Act → World → Prop} (hgd : o.guard = none) (s x : Operand) (t : TypeId)
    (ho : o.op = .call { callee := .builtin .append, args := #[s, x], argTypes := #[t, t] })
    (base : Nat) (e : TypeId) (i : TypeInfo) (z : Value) (bytes : Nat) (ht : P.underlying t = some (.slice e)) (hi : P.info? e = some i) (hz : i.zero = some z)
    (hsize : i.size = 3) (hby : i.bytes = bytes) (hzs : z.cells.size = 3) (w0 : World) (y1 y2 y3 : Int)
    {ra : Option Addr} {n rc : Nat} {xs : List Value} (hown : w0.ownsRow base e 3 (.slice ra n rc) n xs) (hs : a.eval s = .slice ra n rc) (hx : a.eval x = .slice (some ⟨w0.heap.size, 0, none⟩) 1 1)
    (h63 : n + 1 ≤ 140737488355328) (hbytes : (n + 1) * bytes ≤ 140737488355328) (hbase : base ≤ w0.heap.size)
    (h : ∀ (g : Nat) (c : Nat) (w' : World), w'.ownsRow base e 3 (.slice (some ⟨g, 0, none⟩) (n + 1) c) (n + 1) (xs ++ [.int .i64 y1, .int .i64 y2, .int .i64 y3]) → Kp (fun k => (Value.slice ra n rc).ownBlock = some k) w0 w' → ((Value.slice ra n rc).ownBlock = some g ∨ w0.heap.size ≤ g) → wpList P ops Q rest (a.put o.dst (.slice (some ⟨g, 0, none⟩) (n + 1) c)) w') : wpList P ops Q (o :: rest) a (w0.alloc (.cells #[.int .i64 y1, .int .i64 y2, .int .i64 y3] e)) := by
  have hnew : ∀ j u, ([.int .i64 y1, .int .i64 y2, .int .i64 y3] : List Value)[j]? = some u → (w0.alloc (.cells #[.int .i64 y1, .int .i64 y2, .int .i64 y3] e)).cell? ((⟨w0.heap.size, 0, none⟩ : Addr).add j) = some u := by
    intro j u hu
    have hadd : (⟨w0.heap.size, 0, none⟩ : Addr).add j = ⟨w0.heap.size, j, none⟩ := by unfold Addr.add; split <;> simp_all
    rw [hadd]
    have hh := heap_alloc_new w0 (.cells #[.int .i64 y1, .int .i64 y2, .int .i64 y3] e)
    simp only [World.cell?, hh]
    simpa using hu
  refine wpList_append_lies _ hgd s x t ho base e i z 3 bytes ht hi hz hsize hby hzs (by decide) _ n xs hs (hown.alloc _) ⟨w0.heap.size, 0, none⟩ 1 1 [.int .i64 y1, .int .i64 y2, .int .i64 y3] hx rfl hnew (by intro u hu; simp only [List.mem_cons, List.not_mem_nil, or_false] at hu; rcases hu with rfl | rfl | rfl <;> rfl) (by decide) (by unfold maxLen; omega) hbytes (by simp; omega) (w0.heap.size + 1) (by simp) ?_
  intro g c w' h1 h2 h3 _
  refine h g c w' h1 ?_ ?_
  · exact (Kp.alloc w0 _).trans (Kp.grown (S := fun k => (Value.slice ra n rc).ownBlock = some k) h2 (fun i e => e)) (fun _ _ e => e)
  · rcases h3 with h3 | h3
    · exact .inl h3
    · exact .inr (by omega)
/-! The parts. -/
def st14 (z p : List Int) : Nat → Nat × List Mt14
  | 0 => (0, [])
  | k + 1 => if (st14 z p k).1 < p.length then ((st14 z p k).1 + max 1 (mx14 z (p.drop (st14 z p k).1)), (st14 z p k).2 ++ [⟨lp14 z (p.drop (st14 z p k).1), (st14 z p k).1, mx14 z (p.drop (st14 z p k).1)⟩]) else st14 z p k
def fc14 (z p : List Int) : List Mt14 := (st14 z p p.length).2
def Fs14 (z p : List Int) (at_ : Nat) (T : List Mt14) : Prop := ∃ k, st14 z p k = (at_, T)
theorem Fs14.zero (z p : List Int) : Fs14 z p 0 [] := ⟨0, rfl⟩
theorem Fs14.step {z p : List Int} {at_ : Nat} {T : List Mt14} (h : Fs14 z p at_ T) (hl : at_ < p.length) : Fs14 z p (at_ + max 1 (mx14 z (p.drop at_))) (T ++ [⟨lp14 z (p.drop at_), at_, mx14 z (p.drop at_)⟩]) := by
  obtain ⟨k, hk⟩ := h
  exact ⟨k + 1, by rw [st14, hk, if_pos hl]⟩
theorem st14_le (z p : List Int) : ∀ k, (st14 z p k).1 ≤ p.length ∧ (st14 z p k).2.length ≤ (st14 z p k).1
  | 0 => ⟨Nat.zero_le _, Nat.le_refl _⟩
  | k + 1 => by
    obtain ⟨h1, h2⟩ := st14_le z p k
    rw [st14]
    by_cases c : (st14 z p k).1 < p.length
    · rw [if_pos c]
      have h3 := mx14_le z (p.drop (st14 z p k).1)
      rw [List.length_drop] at h3
      refine ⟨?_, ?_⟩
      · show _ + max 1 _ ≤ _
        omega
      · show (_ ++ [_]).length ≤ _ + max 1 _
        rw [List.length_append, List.length_singleton]
        omega
    · rw [if_neg c]; exact ⟨h1, h2⟩
theorem st14_stop (z p : List Int) (k : Nat) (h : ¬ (st14 z p k).1 < p.length) : ∀ j, st14 z p (k + j) = st14 z p k
  | 0 => rfl
  | j + 1 => by
    have := st14_stop z p k h j
    rw [show k + (j + 1) = (k + j) + 1 by omega, st14, this, if_neg h]
theorem st14_ge (z p : List Int) : ∀ k, k ≤ (st14 z p k).1 ∨ ¬ (st14 z p k).1 < p.length
  | 0 => Or.inl (Nat.zero_le _)
  | k + 1 => by
    rw [st14]
    by_cases c : (st14 z p k).1 < p.length
    · rw [if_pos c]
      rcases st14_ge z p k with h | h
      · left
        show _ ≤ _ + max 1 _
        omega
      · exact absurd c h
    · rw [if_neg c]; exact Or.inr c
theorem Fs14.fin {z p : List Int} {at_ : Nat} {T : List Mt14} (h : Fs14 z p at_ T) (hl : ¬ at_ < p.length) : T = fc14 z p := by
  obtain ⟨k, hk⟩ := h
  have h1 : ¬ (st14 z p k).1 < p.length := by rw [hk]; exact hl
  have h2 : ¬ (st14 z p p.length).1 < p.length := by
    rcases st14_ge z p p.length with c | c
    · omega
    · exact c
  unfold fc14
  rcases Nat.le_total k p.length with c | c
  · have := st14_stop z p k h1 (p.length - k)
    rw [show k + (p.length - k) = p.length by omega] at this
    rw [this, hk]
  · have := st14_stop z p p.length h2 (k - p.length)
    rw [show p.length + (k - p.length) = k by omega] at this
    rw [← this, hk]
theorem Fs14.le {z p : List Int} {at_ : Nat} {T : List Mt14} (h : Fs14 z p at_ T) : at_ ≤ p.length ∧ T.length ≤ at_ := by
  obtain ⟨k, hk⟩ := h
  have := st14_le z p k
  rw [hk] at this
  exact this
theorem fc14_le (z p : List Int) : (fc14 z p).length ≤ p.length := by
  have := st14_le z p p.length
  unfold fc14
  omega
theorem info_mt14 : (Try.prog.info? 44).map (fun i => (i.zero, i.size, i.bytes)) = some (some (.agg #[.int .i64 0, .int .i64 0, .int .i64 0]), 3, 24) := by kernel_rfl
theorem info_mr14 : (Try.prog.info? 45).map (fun i => (i.zero, i.size, i.bytes)) = some (some (.agg #[.int .i64 0, .int .i64 0, .int .i64 0]), 3, 24) := by kernel_rfl
def RFcQ14 (w : World) (T : List Mt14) (e : Ending) (w' : World) : Prop := ∃ ra rc, e = .returned (.slice ra T.length rc) ∧ w'.ownsRow w.heap.size 45 3 (.slice ra T.length rc) T.length (flatM14 T) ∧ Below w.heap.size w w'
set_option maxRecDepth 100000 in
set_option maxHeartbeats 4000000 in
/-- The document's Factors. -/
theorem rfac14 (da : Option Addr) (z : List Int) (n dc : Nat) (pa : Option Addr) (p : List Int) (m pc : Nat) (w : World) (hs : Seg w da z) (hp : Seg w pa p) (hn : Hid (z.length = n)) (hm : Hid (p.length = m)) (hb : n ≤ 140737488351232) (hb2 : m ≤ 1073741824) (hpc : m ≤ pc) :
    Calls Try.prog 19 #[.slice da n dc, .slice pa m pc] w (RFcQ14 w (fc14 z p)) := by
  obtain ⟨i0, hi, hz0, hz1, hz2⟩ := info_parts info_mr14
  have HLO : Hid (∀ W q qa k c, Below w.heap.size w W → Seg W qa q → q.length = k → k ≤ 140737488351232 → Calls Try.prog 25 #[.slice da n dc, .slice qa k c] W fun e w' => e = .returned (.tuple #[.int .i64 ((lp14 z q : Nat) : Int), .int .i64 ((mx14 z q : Nat) : Int)]) ∧ Below W.heap.size W w') := fun W q qa k c hB hq hk hkb => (rlong14 da z n dc qa q k c W (hs.old hB) hq hn hk hb hkb).mono fun e w' ⟨he, d, hd⟩ => ⟨he, by rw [hd]; exact below_drewN14 W d⟩
  have HSP : Hid (∀ W, Below w.heap.size w W → Seg W pa p) := fun W hb => hp.old hb
  have HMX : Hid (∀ k, mx14 z (p.drop k) ≤ m - k) := fun k => by
    have := mx14_le z (p.drop k)
    rw [List.length_drop, hm.out] at this
    exact this
  have HLP : Hid (∀ q, lp14 z q ≤ n) := fun q => by
    rcases Nat.eq_zero_or_pos (mx14 z q) with c | c
    · rw [lp_zero14 z q c]; exact Nat.zero_le _
    · have := ((at14_is z q z.length).2 c).1
      unfold lp14
      rw [← hn.out]
      omega
  clear hs hp
  go_enter Try.func19, Try.ntmps19
  go_wp2_with fail
  go_loopw [5, 6] (fun to ta wr => ∃ (at_ l rc : Nat) (ra : Option Addr) (T : List Mt14), at_ ≤ m ∧ l ≤ at_ ∧ to = .slice ra l rc ∧ ta = .int .i64 at_ ∧ Hid (T.length = l) ∧ Hid (Fs14 z p at_ T) ∧ wr.ownsRow w.heap.size 45 3 (.slice ra l rc) l (flatM14 T) ∧ Below w.heap.size w wr) (fun _ ta _ => m - (intOf ta).toNat)
  case atStart => exact ⟨0, 0, 0, none, [], Nat.zero_le _, Nat.le_refl _, rfl, rfl, (rfl : _ = _), Fs14.zero z p, World.ownsRow_nil _ _ _ _, Below.refl _ _⟩
  case round =>
    obtain ⟨at_, l, rc, ra, T, ham, hla, rfl, rfl, HTL, HFS, hown, hB⟩ := hrel
    by_cases h1 : at_ < m
    · have h1i : (at_ : Int) < (m : Int) := by omega
      have sp := HSP.out wr hB
      obtain ⟨pb, po, rfl, -⟩ := sp.at_ 0 (by rw [hm.out]; omega)
      have C1 := HLO.out wr (p.drop at_) (some ⟨pb, po + at_, none⟩) (m - at_) (pc - at_) hB (sp.drop at_) (by rw [List.length_drop, hm.out]) (by omega)
      have HN := HFS.out.step (by rw [hm.out]; exact h1)
      have HN2 : Hid (Fs14 z p (at_ + max 1 (mx14 z (p.drop at_))) (T ++ [⟨lp14 z (p.drop at_), at_, mx14 z (p.drop at_)⟩])) := HN
      have hM := HMX.out at_
      have hO := HLP.out (p.drop at_)
      have l1 : at_ ≤ m := by omega
      have l3 : ¬ pc = at_ := by omega
      clear HN sp
      generalize mx14 z (p.drop at_) = M at *
      generalize lp14 z (p.drop at_) = O at *
      by_cases h2 : M = 0
      · subst h2
        rw [show max 1 0 = 1 by rfl] at HN2
        go_wp2_with (first
          | (go_at_call 25; refine C1.mono ?_; rintro e1 w1 ⟨rfl, B1⟩; clear C1; have own1 := own_below14 hown B1; have b1 := hB.trans (B1.mono hB.size))
          | (at_builtin; refine wpList_app314 rfl (.tmp 21) (.tmp 26) 41 rfl w.heap.size 45 i0 _ 24 Try.underlying41 hi hz0 hz1 hz2 rfl w1 _ _ _ own1 rfl rfl (by omega) (by omega) b1.size ?_; intro ga gc w3 own3 hk3 hat3))
        have B3 : Below w.heap.size w w3 := b1.trans (hk3.below (fun q e => (own1.lt q e).1) b1.size)
        go_roundw
        case rel => exact ⟨at_ + 1, l + 1, gc, some ⟨ga, 0, none⟩, _, by omega, by omega, rfl, by go_num, (by rw [List.length_append, HTL.out]; rfl : _ = _), HN2, by rw [flatM14_app]; exact own3, B3⟩
        case measure => simp [intOf]; omega
      · have h2i : ¬ (M : Int) = 0 := by omega
        have h2j : ((M : Int) == 0) = false := beq_eq_false_iff_ne.2 h2i
        obtain ⟨a2, ha2⟩ : ∃ a2, a2 = at_ + M := ⟨_, rfl⟩
        rw [show at_ + max 1 M = a2 by omega] at HN2
        have e2 : (at_ : Int) + (M : Int) = (a2 : Int) := by omega
        have a21 : a2 ≤ m := by omega
        have a22 : at_ < a2 := by omega
        clear ha2
        go_wp2_with (first
          | (go_at_call 25; refine C1.mono ?_; rintro e1 w1 ⟨rfl, B1⟩; clear C1; have own1 := own_below14 hown B1; have b1 := hB.trans (B1.mono hB.size))
          | (at_builtin; refine wpList_app314 rfl (.tmp 21) (.tmp 26) 41 rfl w.heap.size 45 i0 _ 24 Try.underlying41 hi hz0 hz1 hz2 rfl w1 _ _ _ own1 rfl rfl (by omega) (by omega) b1.size ?_; intro ga gc w3 own3 hk3 hat3))
        have B3 : Below w.heap.size w w3 := b1.trans (hk3.below (fun q e => (own1.lt q e).1) b1.size)
        go_roundw
        case rel => exact ⟨a2, l + 1, gc, some ⟨ga, 0, none⟩, _, by omega, by omega, rfl, by first | rfl | go_num, (by rw [List.length_append, HTL.out]; rfl : _ = _), HN2, by rw [flatM14_app]; exact own3, B3⟩
        case measure => simp [intOf]; omega
    · have h1i : ¬ (at_ : Int) < (m : Int) := by omega
      have HF : Hid (T = fc14 z p) := HFS.out.fin (by rw [hm.out]; exact h1)
      go_wp2_with fail
      go_ret
      refine ⟨ra, rc, ?_, ?_, hB⟩
      · rw [← HF.out, HTL.out]; rfl
      · rw [← HF.out, HTL.out]; exact hown
end Go.Proofs.Ytfogknlinmchjaa

namespace Go.Proofs.Ytfogknlinmchjaa
open Go.RowKit
set_option linter.unusedVariables false

/-! The landed Factors. -/
def FcQ14 (w : World) (T : List Mt14) (e : Ending) (w' : World) : Prop := ∃ ra rc, e = .returned (.tuple #[.slice ra T.length rc, .int .i64 0]) ∧ w'.ownsRow w.heap.size 44 3 (.slice ra T.length rc) T.length (flatM14 T) ∧ Below w.heap.size w w'
theorem wpList_app314c {P : Program} {ops : Array Oper} {rest : List Oper} {o : Oper} {a : Act} {Q : Exit → Act → World → Prop} (hgd : o.guard = none) (s x : Operand) (t : TypeId)
    (ho : o.op = .call { callee := .builtin .append, args := #[s, x], argTypes := #[t, t] })
    (base : Nat) (e : TypeId) (i : TypeInfo) (z : Value) (bytes : Nat) (ht : P.underlying t = some (.slice e)) (hi : P.info? e = some i) (hz : i.zero = some z)
    (hsize : i.size = 3) (hby : i.bytes = bytes) (hzs : z.cells.size = 3) (w0 : World) (y1 y2 y3 : Int) (c0 : Nat) (hc0 : w0.heap.size = c0)
    {ra : Option Addr} {n rc : Nat} {xs : List Value} (hown : w0.ownsRow base e 3 (.slice ra n rc) n xs) (hs : a.eval s = .slice ra n rc) (hx : a.eval x = .slice (some ⟨c0, 0, none⟩) 1 1)
    (h63 : n + 1 ≤ 140737488355328) (hbytes : (n + 1) * bytes ≤ 140737488355328) (hbase : base ≤ c0)
    (h : ∀ (g : Nat) (c : Nat) (w' : World), w'.ownsRow base e 3 (.slice (some ⟨g, 0, none⟩) (n + 1) c) (n + 1) (xs ++ [.int .i64 y1, .int .i64 y2, .int .i64 y3]) → Kp (fun k => (Value.slice ra n rc).ownBlock = some k) w0 w' → ((Value.slice ra n rc).ownBlock = some g ∨ c0 ≤ g) → wpList P ops Q rest (a.put o.dst (.slice (some ⟨g, 0, none⟩) (n + 1) c)) w') : wpList P ops Q (o :: rest) a (w0.alloc (.cells #[.int .i64 y1, .int .i64 y2, .int .i64 y3] e)) := by
  subst hc0
  exact wpList_app314 hgd s x t ho base e i z bytes ht hi hz hsize hby hzs w0 y1 y2 y3 hown hs hx h63 hbytes hbase h
set_option maxRecDepth 100000 in
set_option maxHeartbeats 8000000 in
theorem pfac14 (b n : Nat) (z : List Int) (A : List Nat) (pa : Option Addr) (p : List Int) (m pc : Nat) (w : World) (h : IX14 w b n z A) (hp : Seg w pa p) (hm : Hid (p.length = m)) (hmb : m ≤ 1073741824) (hpc : m ≤ pc) :
    Calls Try.prog 18 #[.pointer (some ⟨b, 0, none⟩), .slice pa m pc] w (FcQ14 w (fc14 z p)) := by
  obtain ⟨i0, hi, hz0, hz1, hz2⟩ := info_parts info_mt14
  have hn24 := h.n24
  have HM := pmd14 b n z A w h
  have HARZ : Hid (Ar12 z.length (S12 z) A) := h.arz
  have HZL : Hid (z.length = n) := h.len
  have HI0 : Hid (∀ W, Below w.heap.size w W → IX14 W b n z A) := fun W hb => h.old hb
  have HSP : Hid (∀ W, Below w.heap.size w W → Seg W pa p) := fun W hb => hp.old hb
  have HMX : Hid (∀ k, mx14 z (p.drop k) ≤ m - k) := fun k => by
    have := mx14_le z (p.drop k)
    rw [List.length_drop, hm.out] at this
    exact this
  clear h hp
  go_enter Try.func18, Try.ntmps18
  go_wp2_with (first
    | (go_at_call 22; refine HM.mono ?_; rintro e1 w1 ⟨rfl, B1⟩; clear HM))
  obtain ⟨w2, hw2⟩ : ∃ w2, w2 = w1.alloc (.cells #[.pointer (some ⟨b, 0, none⟩), .int .i64 0, .slice none 0 0] 69) := ⟨_, rfl⟩
  obtain ⟨g, hg⟩ : ∃ g, g = w1.heap.size := ⟨_, rfl⟩
  have L2 : Ls14 w2 g b n A 0 0 := ⟨0, .slice none 0 0, by rw [hw2, hg]; exact heap_alloc_new w1 _, Or.inl ⟨rfl, Nat.zero_le _⟩⟩
  have B12 : Below w1.heap.size w1 w2 := by rw [hw2]; exact (Below.refl _ _).alloc (Nat.le_refl _) _
  rw [← hw2, ← hg]
  rw [← hg] at B12
  have HG : Hid (g = w1.heap.size) := hg
  have HI1 : Hid (IX14 w1 b n z A) := HI0.out w1 B1
  have z1 := B1.size
  have HB1 : Hid (∀ W, Below g w1 W → Below w.heap.size w W) := fun W hb => B1.trans (hb.mono (by rw [HG.out]; exact B1.size))
  clear hw2 hg
  go_loopw [7, 8] (fun to ta wr => ∃ (at_ l rc B H : Nat) (ra : Option Addr) (T : List Mt14), at_ ≤ m ∧ l ≤ at_ ∧ to = .slice ra l rc ∧ ta = .int .i64 at_ ∧ Hid (T.length = l) ∧ Hid (Fs14 z p at_ T) ∧ wr.ownsRow (g + 1) 44 3 (.slice ra l rc) l (flatM14 T) ∧ Ls14 wr g b n A B H ∧ H ≤ wr.heap.size ∧ Hid (∀ x, (Value.slice ra l rc).ownBlock = some x → x < B ∨ H ≤ x) ∧ Below g w1 wr) (fun _ ta _ => m - (intOf ta).toNat)
  case atStart => exact ⟨0, 0, 0, 0, 0, none, [], Nat.zero_le _, Nat.le_refl _, rfl, rfl, (rfl : _ = _), Fs14.zero z p, World.ownsRow_nil _ _ _ _, L2, Nat.zero_le _, (fun x e => by cases e), B12⟩
  case round =>
    clear L2 B12
    obtain ⟨at_, l, rc, B, H, ra, T, ham, hla, rfl, rfl, HTL, HFS, hown, HLS, hH, HAP, hB⟩ := hrel
    have hBw := HB1.out wr hB
    by_cases h1 : at_ < m
    · have h1i : (at_ : Int) < (m : Int) := by omega
      have sp := HSP.out wr hBw
      obtain ⟨pb, po, rfl, -⟩ := sp.at_ 0 (by rw [hm.out]; omega)
      have C1 := plgst14 b n z A (some ⟨pb, po + at_, none⟩) (p.drop at_) (m - at_) (pc - at_) wr (HI0.out wr hBw) (sp.drop at_) (by show _ = _; rw [List.length_drop, hm.out]) (by omega) (by omega)
      unfold LgQ14 at C1
      have HN := HFS.out.step (by rw [hm.out]; exact h1)
      have HN2 : Hid (Fs14 z p (at_ + max 1 (mx14 z (p.drop at_))) (T ++ [⟨lp14 z (p.drop at_), at_, mx14 z (p.drop at_)⟩])) := HN
      have hM := HMX.out at_
      have l1 : at_ ≤ m := by omega
      have l3 : ¬ pc = at_ := by omega
      have HLP : Hid (mx14 z (p.drop at_) = 0 → lp14 z (p.drop at_) = 0) := fun c => lp_zero14 z _ c
      have HLL : Hid (0 < mx14 z (p.drop at_) → lo14 z ((p.drop at_).take (mx14 z (p.drop at_))) < hi14 z ((p.drop at_).take (mx14 z (p.drop at_))) ∧ Le14 A (lo14 z ((p.drop at_).take (mx14 z (p.drop at_)))) (hi14 z ((p.drop at_).take (mx14 z (p.drop at_)))) (lp14 z (p.drop at_))) := fun c => lp_le14 HARZ.out _ c
      have hhn : hi14 z ((p.drop at_).take (mx14 z (p.drop at_))) ≤ n := by rw [← HZL.out]; exact hi14_le _ _
      have HOO : Hid (∀ v, Le14 A (lo14 z ((p.drop at_).take (mx14 z (p.drop at_)))) (hi14 z ((p.drop at_).take (mx14 z (p.drop at_)))) v → v < n) := fun v hv => by
        obtain ⟨r, r1, r2, r3⟩ := hv.is
        have h5 := HARZ.out.get (r := r) (by rw [HZL.out]; omega)
        rw [HZL.out] at h5
        omega
      clear HN sp
      generalize hi14 z ((p.drop at_).take (mx14 z (p.drop at_))) = hq at *
      generalize lo14 z ((p.drop at_).take (mx14 z (p.drop at_))) = lq at *
      generalize mx14 z (p.drop at_) = M at *
      generalize lp14 z (p.drop at_) = O at *
      by_cases h2 : M = 0
      · have hO := HLP.out h2
        subst hO
        subst h2
        rw [show max 1 0 = 1 by rfl] at HN2
        clear HLP HLL HOO
        have hgz : g ≤ wr.heap.size := by have := HG.out; have := hB.size; omega
        go_wp2_with (first
          | (go_at_call 31; refine C1.mono ?_; rintro e3 w3 ⟨rfl, B3⟩; clear C1; have z3 := B3.size; have B34 := B3.alloc z3 (.cells #[.int .i64 0, .int .i64 (at_ : Int), .int .i64 0] 44); have own4 := own_below14 hown B34)
          | (at_builtin; refine wpList_app314c rfl (.tmp 40) (.tmp 42) 38 rfl (g + 1) 44 i0 _ 24 Try.underlying38 hi hz0 hz1 hz2 rfl (w3.alloc (.cells #[.int .i64 0, .int .i64 (at_ : Int), .int .i64 0] 44)) _ _ _ (w3.heap.size + 1) (by simp) own4 rfl rfl (by omega) (by omega) (by omega) ?_; intro ga gc w6 own6 hk6 hat6))
        have z34 := B34.size
        have z46 := hk6.size
        have L6 : Ls14 w6 g b n A B H := (HLS.old B34).kp hk6 (fun e => by have := (hown.lt g e).1; omega) (fun x x1 x2 e => by have := HAP.out x e; omega)
        have HA6 : Hid (∀ x, (Value.slice (some ⟨ga, 0, none⟩) (l + 1) gc).ownBlock = some x → x < B ∨ H ≤ x) := fun x e => by
          have : ga = x := by simpa [Value.ownBlock] using e
          subst this
          rcases hat6 with c | c
          · exact HAP.out _ c
          · right; omega
        have BF : Below g w1 w6 := (hB.trans (B34.mono hgz)).trans (hk6.below (fun q e => by have := (hown.lt q e).1; omega) (by omega))
        go_roundw
        case rel => exact ⟨at_ + 1, l + 1, gc, B, H, some ⟨ga, 0, none⟩, _, by omega, by omega, rfl, by go_num, (by rw [List.length_append, HTL.out]; rfl : _ = _), HN2, by rw [flatM14_app]; exact own6, L6, by omega, HA6, BF⟩
        case measure => simp [intOf]; omega
      · have h2i : (0 : Int) < (M : Int) := by omega
        have h2j : (1 : Int) ≤ (M : Int) := by omega
        have h2k : ¬ (M : Int) < 1 := by omega
        obtain ⟨k1, k2⟩ := HLL.out (by omega)
        have HK2 : Hid (Le14 A lq hq O) := k2
        have hOn := HOO.out O k2
        obtain ⟨a2, ha2⟩ : ∃ a2, a2 = at_ + M := ⟨_, rfl⟩
        rw [show at_ + max 1 M = a2 by omega] at HN2
        have e2 : (at_ : Int) + (M : Int) = (a2 : Int) := by omega
        have a21 : a2 ≤ m := by omega
        have a22 : at_ < a2 := by omega
        have hgz : g ≤ wr.heap.size := by have := HG.out; have := hB.size; omega
        have hgl : g < wr.heap.size := by
          obtain ⟨wk, rv, q1, q2⟩ := HLS
          exact (Array.getElem?_eq_some_iff.1 q1).1
        clear ha2 HLP HLL HOO k2
        go_wp2_with (first
          | (go_at_call 31; refine C1.mono ?_; rintro e3 w3 ⟨rfl, B3⟩; clear C1; have z3 := B3.size)
          | (go_at_call 33; fail))
        obtain ⟨w4, hw4⟩ : ∃ w4, w4 = w3.alloc (.cells #[.int .i64 0, .int .i64 (at_ : Int), .int .i64 (M : Int)] 44) := ⟨_, rfl⟩
        obtain ⟨c, hc⟩ : ∃ c, c = w3.heap.size := ⟨_, rfl⟩
        have B34 : Below wr.heap.size wr w4 := by rw [hw4]; exact B3.alloc z3 _
        have G4 : w4.heap[c]? = some (.cells #[.int .i64 0, .int .i64 (at_ : Int), .int .i64 (M : Int)] 44 (0, 0)) := by rw [hw4, hc]; exact heap_alloc_new w3 _
        have s4 : w4.heap.size = c + 1 := by rw [hw4, hc]; simp
        have own4 := own_below14 hown B34
        have L4 := HLS.old B34
        have B14 : Below g w1 w4 := hB.trans (B34.mono hgz)
        rw [← hw4, ← hc]
        have hcz : wr.heap.size ≤ c := by omega
        clear hw4 hc
        refine (pmleast14 b g n z A B H lq hq w1 w4 HI1.out (by rw [← HG.out]; exact B14) (by rw [← HG.out]; exact Nat.le_refl _) L4 k1 hhn).mono ?_
        rintro e5 w5 ⟨v, hv, rfl, ⟨B5, H5, L5, hH5, hBB⟩, K5⟩
        obtain rfl := hv.unique HK2.out
        have G5 := K5.heap G4 (fun e => by omega)
        have d0 := three_cell0 G5
        have f0 := three_free14 0 G5
        have HG6 : Hid ((w5.setCell ⟨c, 0, none⟩ (.int .i64 (v : Int))).heap[c]? = some (.cells #[.int .i64 (v : Int), .int .i64 (at_ : Int), .int .i64 (M : Int)] 44 (0, 0))) := three_set0 G5 _
        have KS : Kp (fun x => x = c) w5 (w5.setCell ⟨c, 0, none⟩ (.int .i64 (v : Int))) := Kp.set (S := fun x => x = c) rfl _
        have own5 := own_kp14 own4 K5 (fun x e hx => by have := (hown.lt x e).1; omega)
        have own6 := own_kp14 own5 KS (fun x e hx => by have := (hown.lt x e).2; omega)
        have L6 := L5.kp KS (fun e => by omega) (fun x x1 x2 e => by rcases hBB with ⟨q1, q2⟩ | q <;> omega)
        have z56 := KS.size
        have z45 := K5.size
        have B16 : Below g w1 (w5.setCell ⟨c, 0, none⟩ (.int .i64 (v : Int))) := (B14.trans (K5.below (B := g) (fun q e => by omega) (by omega))).trans (KS.below (fun q e => by omega) (by omega))
        have z6 := B16.size
        obtain ⟨W6, hW6⟩ : ∃ W6, W6 = w5.setCell ⟨c, 0, none⟩ (.int .i64 (v : Int)) := ⟨_, rfl⟩
        rw [← hW6] at own6 L6 z56 B16 z6
        have HW6 : Hid (W6 = w5.setCell ⟨c, 0, none⟩ (.int .i64 (v : Int))) := hW6
        clear L5 own5 KS K5 L4 own4 G4 G5 hW6
        go_wp2_with (first
          | (at_builtin; refine wpList_app314 rfl (.tmp 40) (.tmp 42) 38 rfl (g + 1) 44 i0 _ 24 Try.underlying38 hi hz0 hz1 hz2 rfl W6 _ _ _ own6 rfl rfl (by omega) (by omega) (by omega) ?_; intro ga gc w7 own7 hk7 hat7)
          | (refine wpList_load_row rfl 44 (.tmp 12) rfl c rfl _ _ _ _ HG6.out Try.underlying44 rfl (by kernel_rfl) ?_; rw [← HW6.out]))
        have z67 := hk7.size
        have HAX : Hid (∀ x, (Value.slice ra l rc).ownBlock = some x → x < B5 ∨ H5 ≤ x) := fun x e => by
          have h8 := HAP.out x e
          have h9 := (hown.lt x e).2
          rcases hBB with ⟨q1, q2⟩ | q <;> omega
        have L7 : Ls14 w7 g b n A B5 H5 := L6.kp hk7 (fun e => by have := (hown.lt g e).1; omega) (fun x x1 x2 e => by have := HAX.out x e; omega)
        have HA7 : Hid (∀ x, (Value.slice (some ⟨ga, 0, none⟩) (l + 1) gc).ownBlock = some x → x < B5 ∨ H5 ≤ x) := fun x e => by
          have : ga = x := by simpa [Value.ownBlock] using e
          subst this
          rcases hat7 with c | c
          · exact HAX.out _ c
          · right; omega
        have BF : Below g w1 w7 := B16.trans (hk7.below (fun q e => by have := (hown.lt q e).1; omega) (by omega))
        go_roundw
        case rel => exact ⟨a2, l + 1, gc, B5, H5, some ⟨ga, 0, none⟩, _, by omega, by omega, rfl, by first | rfl | go_num, (by rw [List.length_append, HTL.out]; rfl : _ = _), HN2, by rw [flatM14_app]; exact own7, L7, by omega, HA7, BF⟩
        case measure => simp [intOf]; omega
    · have h1i : ¬ (at_ : Int) < (m : Int) := by omega
      have HF : Hid (T = fc14 z p) := HFS.out.fin (by rw [hm.out]; exact h1)
      have hgw : w.heap.size ≤ g + 1 := by have := HG.out; omega
      go_wp2_with fail
      refine bodyPost_ret (results_tmp2 rfl _ _ _) rfl ?_
      refine ⟨ra, rc, ?_, ?_, hBw⟩
      · rw [← HF.out, HTL.out]; rfl
      · rw [← HF.out, HTL.out]; exact own_base14 hown hgw
end Go.Proofs.Ytfogknlinmchjaa
