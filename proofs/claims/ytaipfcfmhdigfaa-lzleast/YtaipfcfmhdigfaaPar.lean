import Derived.Test.YtaipfcfmhdigfaaPaq
namespace Go.Proofs.Ytaipfcfmhdigfaa
open Go.RowKit
set_option linter.unusedVariables false

/-! How far a place has been brought down, without memory. -/
structure Sn7 (D : List Int) (W s : Nat) (A0 : Nat → Int) (t0 : Bt7) (L0 : List (Nat × Nat)) (t : Bt7) (A : Nat → Int) (v : Int) (less more n1 n2 most : Nat) (L : List (Nat × Nat)) : Prop where
  rc : L ++ vis7 D s W t most = L0 ++ rec7 D s W
  is : IsT7 A v t
  cn : Cn7 t less more
  ok : t.Ok D
  dj : t.Dj
  mem : ∀ q, t.mem q → q < s
  sw : Sw7 D s t n1 n2
  l1 : n1 ≤ lim7 D s
  l2 : n2 ≤ lim7 D s
  k1 : less ≤ 2 * s + 1
  k2 : more ≤ 2 * s + 1
  m2 : most ≤ 258
  po : ∀ A', Po7 D s W A t less more A' → Po7 D s W A0 t0 (2 * s) (2 * s + 1) A'
theorem sn7_start {D : List Int} {W s : Nat} {A : Nat → Int} {t : Bt7} (hs : s + 2 < D.length) (ht : Tr7 D W s A (D.getD s 0) (D.getD (s + 1) 0) (D.getD (s + 2) 0) t) (L : List (Nat × Nat)) : Sn7 D W s A t L t A (lst7 D s (D.getD s 0) (D.getD (s + 1) 0) (D.getD (s + 2) 0)) (2 * s) (2 * s + 1) 3 3 2 L := by
  have h3 : 3 ≤ lim7 D s := by unfold lim7; omega
  refine ⟨by rw [tr7_rec hs ht], ht.is, ⟨by omega, ?_, ?_⟩, ht.ok, ht.dj, fun q hq => (ht.mem q hq).1, sw7_start ht, h3, h3, by omega, by omega, by omega, fun A' h => h⟩
  · rintro ⟨q, a, b⟩
    have := (ht.mem q a).1
    omega
  · rintro ⟨q, a, b⟩
    have := (ht.mem q a).1
    omega
theorem sn7_len {D : List Int} {W s : Nat} {A0 : Nat → Int} {t0 : Bt7} {L0 : List (Nat × Nat)} {t : Bt7} {A : Nat → Int} {v : Int} {less more n1 n2 most : Nat} {L : List (Nat × Nat)} (h : Sn7 D W s A0 t0 L0 t A v less more n1 n2 most L) : L.length ≤ L0.length + 256 := by
  have h1 := congrArg List.length h.rc
  have h2 := rec7_len D s W
  simp only [List.length_append] at h1
  omega
theorem sn7_nil {D : List Int} {W s : Nat} {A0 : Nat → Int} {t0 : Bt7} {L0 : List (Nat × Nat)} {A : Nat → Int} {v : Int} {less more n1 n2 most : Nat} {L : List (Nat × Nat)} (h : Sn7 D W s A0 t0 L0 .nil A v less more n1 n2 most L) : v = -1 ∧ L = L0 ++ rec7 D s W ∧ Po7 D s W A0 t0 (2 * s) (2 * s + 1) (updI (updI A less (-1)) more (-1)) := by
  refine ⟨h.is, ?_, h.po _ (po7_none h.cn rfl)⟩
  have := h.rc
  rw [vis7, List.append_nil] at this
  exact this
section
variable {D : List Int} {W s : Nat} {A0 : Nat → Int} {t0 : Bt7} {L0 : List (Nat × Nat)} {A : Nat → Int} {v : Int} {less more n1 n2 most p : Nat} {l r : Bt7} {L : List (Nat × Nat)}
theorem sn7_far (h : Sn7 D W s A0 t0 L0 (.node p l r) A v less more n1 n2 most L) (hw : W < s - p) : L = L0 ++ rec7 D s W ∧ Po7 D s W A0 t0 (2 * s) (2 * s + 1) (updI (updI A less (-1)) more (-1)) := by
  refine ⟨?_, h.po _ (po7_none h.cn (by rw [spl7, if_pos hw]))⟩
  have := h.rc
  rw [vis7, if_pos hw, List.append_nil] at this
  exact this
def new7 (D : List Int) (s p most : Nat) (L : List (Nat × Nat)) : List (Nat × Nat) := if most < al7 D p s then L ++ [(al7 D p s, s - p)] else L
theorem new7_eq (L : List (Nat × Nat)) : new7 D s p most L = L ++ (if most < al7 D p s then [(al7 D p s, s - p)] else []) := by
  unfold new7
  split
  · rfl
  · rw [List.append_nil]
theorem sn7_facts (h : Sn7 D W s A0 t0 L0 (.node p l r) A v less more n1 n2 most L) (hs : s ≤ D.length) : v = (p : Int) ∧ p < s ∧ min n1 n2 ≤ al7 D p s ∧ al7 D p s ≤ lim7 D s ∧ less ≠ 2 * p ∧ less ≠ 2 * p + 1 ∧ more ≠ 2 * p ∧ more ≠ 2 * p + 1 ∧ less ≠ more :=
  ⟨h.is.1, h.mem p (.inl rfl), sw7_known h.sw hs (by have := h.l1; omega) (.inl rfl), al7_lim hs, fun e => h.cn.l ⟨p, .inl rfl, .inl e⟩, fun e => h.cn.l ⟨p, .inl rfl, .inr e⟩, fun e => h.cn.m ⟨p, .inl rfl, .inl e⟩, fun e => h.cn.m ⟨p, .inl rfl, .inr e⟩, h.cn.ne⟩
theorem sn7_full (h : Sn7 D W s A0 t0 L0 (.node p l r) A v less more n1 n2 most L) (hw : ¬ W < s - p) (hn : al7 D p s = lim7 D s) : new7 D s p most L = L0 ++ rec7 D s W ∧ Po7 D s W A0 t0 (2 * s) (2 * s + 1) (updI (updI A less (A (2 * p))) more (A (2 * p + 1))) := by
  refine ⟨?_, h.po _ (po7_full h.is h.cn hw hn)⟩
  have := h.rc
  rw [vis7, if_neg hw, if_pos hn, List.append_nil] at this
  rw [new7_eq]
  exact this
theorem isT7_bd {A : Nat → Int} {v : Int} {t : Bt7} {p : Nat} (h : IsT7 A v t) (hm : ∀ q, t.mem q → q < p) : -1 ≤ v ∧ v < (p : Int) := by
  cases t with
  | nil => have : v = -1 := h; omega
  | node q l r => have := h.1; have := hm q (.inl rfl); omega
theorem sn7_right (h : Sn7 D W s A0 t0 L0 (.node p l r) A v less more n1 n2 most L) (hs : s ≤ D.length) (hw : ¬ W < s - p) (hn : ¬ al7 D p s = lim7 D s) (hl : sf7 D p (al7 D p s) < sf7 D s (al7 D p s)) :
    Sn7 D W s A0 t0 L0 r (updI A less (p : Int)) (A (2 * p + 1)) (2 * p + 1) more (al7 D p s) n2 (max most (al7 D p s)) (new7 D s p most L) ∧ updI A less (p : Int) (2 * p + 1) = A (2 * p + 1) ∧ -1 ≤ A (2 * p + 1) ∧ A (2 * p + 1) < (p : Int) := by
  obtain ⟨q1, q2, q3, q4⟩ := po7_right h.is h.dj h.cn hw hn hl
  have hb := isT7_bd q1 (fun q hq => (h.ok.2.1 q hq).1)
  have hp := h.mem p (.inl rfl)
  refine ⟨⟨?_, q1, q2, h.ok.2.2.2, h.dj.2.2.2.2, fun q hq => h.mem q (.inr (.inr hq)), sw7_right h.sw h.ok hs hp, al7_lim hs, h.l2, by omega, h.k2, by have := al7_le D p s; have := h.m2; omega, fun A' hA => h.po A' (q4 A' hA)⟩, q3, hb⟩
  have := h.rc
  rw [vis7, if_neg hw, if_neg hn, if_pos hl, ← List.append_assoc] at this
  rw [new7_eq]
  exact this
theorem sn7_left (h : Sn7 D W s A0 t0 L0 (.node p l r) A v less more n1 n2 most L) (hs : s ≤ D.length) (hw : ¬ W < s - p) (hn : ¬ al7 D p s = lim7 D s) (hl : ¬ sf7 D p (al7 D p s) < sf7 D s (al7 D p s)) :
    Sn7 D W s A0 t0 L0 l (updI A more (p : Int)) (A (2 * p)) less (2 * p) n1 (al7 D p s) (max most (al7 D p s)) (new7 D s p most L) ∧ updI A more (p : Int) (2 * p) = A (2 * p) ∧ -1 ≤ A (2 * p) ∧ A (2 * p) < (p : Int) := by
  obtain ⟨q1, q2, q3, q4⟩ := po7_left h.is h.dj h.cn hw hn hl
  have hb := isT7_bd q1 (fun q hq => (h.ok.1 q hq).1)
  have hp := h.mem p (.inl rfl)
  refine ⟨⟨?_, q1, q2, h.ok.2.2.1, h.dj.2.2.2.1, fun q hq => h.mem q (.inr (.inl hq)), sw7_left h.sw h.ok hs hp, h.l1, al7_lim hs, h.k1, by omega, by have := al7_le D p s; have := h.m2; omega, fun A' hA => h.po A' (q4 A' hA)⟩, q3, hb⟩
  have := h.rc
  rw [vis7, if_neg hw, if_neg hn, if_neg hl, ← List.append_assoc] at this
  rw [new7_eq]
  exact this
end
/-! Rows of matches of the call's own. -/
def flatR (L : List (Nat × Nat)) : List Value := L.flatMap fun x => [.int .u16 (x.1 : Int), .int .u16 (x.2 : Int)]
theorem flatR_app (l r : List (Nat × Nat)) : flatR (l ++ r) = flatR l ++ flatR r := by unfold flatR; rw [List.flatMap_append]
theorem info_rch : (Try.prog.info? 88).map (fun i => (i.zero, i.size, i.bytes)) = some (some (.agg #[.int .u16 0, .int .u16 0]), 2, 4) := by kernel_rfl
theorem wpList_appRF {P : Program} {ops : Array Oper} {rest : List Oper} {o : Oper} {a : Act} {Q : Exit → Act → World → Prop} (hgd : o.guard = none) (s x : Operand) (t : TypeId)
    (ho : o.op = .call { callee := .builtin .append, args := #[s, x], argTypes := #[t, t] })
    (base : Nat) (e : TypeId) (i : TypeInfo) (z : Value) (bytes : Nat) (ht : P.underlying t = some (.slice e)) (hi : P.info? e = some i) (hz : i.zero = some z)
    (hsize : i.size = 2) (hby : i.bytes = bytes) (hzs : z.cells.size = 2) (w0 : World) (y1 y2 : Nat)
    {ra : Option Addr} {n rc : Nat} {l : List (Nat × Nat)} (hown : w0.ownsRow base e 2 (.slice ra n rc) n (flatR l)) (hs : a.eval s = .slice ra n rc) (hx : a.eval x = .slice (some ⟨w0.heap.size, 0, none⟩) 1 1)
    (h63 : n + 1 ≤ 140737488355328) (hbytes : (n + 1) * bytes ≤ 140737488355328) (hbase : base ≤ w0.heap.size)
    (h : ∀ (g : Nat) (c : Nat) (w' : World), w'.ownsRow base e 2 (.slice (some ⟨g, 0, none⟩) (n + 1) c) (n + 1) (flatR (l ++ [(y1, y2)])) → Kp (fun k => (Value.slice ra n rc).ownBlock = some k) w0 w' → ((Value.slice ra n rc).ownBlock = some g ∨ g = w0.heap.size + 1) → wpList P ops Q rest (a.put o.dst (.slice (some ⟨g, 0, none⟩) (n + 1) c)) w') : wpList P ops Q (o :: rest) a (w0.alloc (.cells #[.int .u16 (y1 : Int), .int .u16 (y2 : Int)] e)) := by
  have hnew : ∀ j u, ([.int .u16 (y1 : Int), .int .u16 (y2 : Int)] : List Value)[j]? = some u → (w0.alloc (.cells #[.int .u16 (y1 : Int), .int .u16 (y2 : Int)] e)).cell? ((⟨w0.heap.size, 0, none⟩ : Addr).add j) = some u := by
    intro j u hu
    have hadd : (⟨w0.heap.size, 0, none⟩ : Addr).add j = ⟨w0.heap.size, j, none⟩ := by unfold Addr.add; split <;> simp_all
    rw [hadd]
    have hh := heap_alloc_new w0 (.cells #[.int .u16 (y1 : Int), .int .u16 (y2 : Int)] e)
    simp only [World.cell?, hh]
    simpa using hu
  refine wpList_append_lies _ hgd s x t ho base e i z 2 bytes ht hi hz hsize hby hzs (by decide) _ n (flatR l) hs (hown.alloc _) ⟨w0.heap.size, 0, none⟩ 1 1 [.int .u16 (y1 : Int), .int .u16 (y2 : Int)] hx rfl hnew (by intro u hu; simp only [List.mem_cons, List.not_mem_nil, or_false] at hu; rcases hu with rfl | rfl <;> rfl) (by decide) (by unfold maxLen; omega) hbytes (by simp; omega) (w0.heap.size + 1) (by simp) ?_
  intro g c w' h1 h2 h3 _
  refine h g c w' (by rw [flatR_app]; exact h1) ?_ h3
  exact (Kp.alloc w0 _).trans (Kp.grown (S := fun k => (Value.slice ra n rc).ownBlock = some k) h2 (fun i e => e)) (fun _ _ e => e)
/-- What the forest and the list of matches may write. -/
def FS (m g : Nat) (v : Value) : Nat → Prop := fun k => k = m ∨ k = g ∨ v.ownBlock = some k
theorem fs_back {w : World} {m g j : Nat} {v v1 : Value} (h : Fresh w v v1) (hj : j < w.heap.size) (e : FS m g v1 j) : FS m g v j := by
  rcases e with e | e | e
  · exact .inl e
  · exact .inr (.inl e)
  · rcases h j e with e | e
    · exact .inr (.inr e)
    · omega
/-- A forest, and beside it a list of matches of the call's own. -/
structure FL (B fb m g : Nat) (D : List Int) (a : Option Addr) (n cap W s : Nat) (A : Nat → Int) (w0 wr : World) (v0 : Value) (la : Option Addr) (ln lc : Nat) (L : List (Nat × Nat)) : Prop where
  own : wr.ownsRow B 88 2 (.slice la ln lc) ln (flatR L)
  len : L.length = ln
  f : Fst wr B fb m g D a n cap W s A
  sep : ∀ k, (Value.slice la ln lc).ownBlock = some k → k ≠ fb ∧ k ≠ m ∧ k ≠ g
  fr : Fresh w0 v0 (.slice la ln lc)
  kp : Kp (FS m g v0) w0 wr
theorem FL.old {B fb m g : Nat} {D : List Int} {a : Option Addr} {n cap W s : Nat} {A : Nat → Int} {w0 wr w2 : World} {v0 : Value} {la : Option Addr} {ln lc : Nat} {L : List (Nat × Nat)} (h : FL B fb m g D a n cap W s A w0 wr v0 la ln lc L) (hb : Below wr.heap.size wr w2) : FL B fb m g D a n cap W s A w0 w2 v0 la ln lc L :=
  ⟨own_belowT h.own hb, h.len, h.f.kp hb, h.sep, h.fr, h.kp.trans (Kp.of_below (S := FS m g v0) hb) (fun _ _ e => e)⟩
theorem FL.drewN {B fb m g : Nat} {D : List Int} {a : Option Addr} {n cap W s : Nat} {A : Nat → Int} {w0 wr : World} {v0 : Value} {la : Option Addr} {ln lc : Nat} {L : List (Nat × Nat)} (h : FL B fb m g D a n cap W s A w0 wr v0 la ln lc L) (k : Nat) : FL B fb m g D a n cap W s A w0 (wr.drewN k) v0 la ln lc L :=
  h.old ⟨rfl, rfl, rfl, Nat.le_refl _, fun _ _ => rfl⟩
theorem FL.set {B fb m g : Nat} {D : List Int} {a : Option Addr} {n cap W s : Nat} {A : Nat → Int} {w0 wr : World} {v0 : Value} {la : Option Addr} {ln lc : Nat} {L : List (Nat × Nat)} (h : FL B fb m g D a n cap W s A w0 wr v0 la ln lc L) {i : Nat} (hi : i < 2 * n) (x : Int) : FL B fb m g D a n cap W s (updI A i x) w0 (wr.setCell ⟨g, i, none⟩ (.int .i64 x)) v0 la ln lc L := by
  have hk : Kp (fun k => k = g) wr (wr.setCell ⟨g, i, none⟩ (.int .i64 x)) := Kp.set (S := fun k => k = g) rfl _
  refine ⟨own_kp3 h.own hk (fun k e => (h.sep k e).2.2), h.len, h.f.set hi x, h.sep, h.fr, h.kp.trans hk (fun k _ e => .inr (.inl e))⟩
theorem FL.push {B fb m g : Nat} {D : List Int} {a : Option Addr} {n cap W s : Nat} {A : Nat → Int} {w0 wr w3 : World} {v0 : Value} {la : Option Addr} {ln lc : Nat} {L : List (Nat × Nat)} (h : FL B fb m g D a n cap W s A w0 wr v0 la ln lc L) {gg c : Nat} {y : Nat × Nat}
    (ho : w3.ownsRow B 88 2 (.slice (some ⟨gg, 0, none⟩) (ln + 1) c) (ln + 1) (flatR (L ++ [y]))) (hK : Kp (fun k => (Value.slice la ln lc).ownBlock = some k) wr w3) (hat : (Value.slice la ln lc).ownBlock = some gg ∨ gg = wr.heap.size + 1) : FL B fb m g D a n cap W s A w0 w3 v0 (some ⟨gg, 0, none⟩) (ln + 1) c (L ++ [y]) := by
  refine ⟨ho, by rw [List.length_append, h.len]; rfl, h.f.kps hK (fun e => (h.sep _ e).1 rfl) (fun e => (h.sep _ e).2.1 rfl) (fun e => (h.sep _ e).2.2 rfl) (fun k e => (h.own.lt k e).1), fun k e => ?_, ?_, ?_⟩
  · have e2 : gg = k := by simpa [Value.ownBlock] using e
    subst e2
    rcases hat with e | e
    · exact h.sep gg e
    · have h1 := h.f.lt
      have h2 := h.f.mp.lt
      have h3 := h.f.gl
      omega
  · refine Fresh.trans7 h.fr (wr := wr) (fun k e => ?_) h.kp.size
    have e2 : gg = k := by simpa [Value.ownBlock] using e
    subst e2
    rcases hat with e | e
    · exact .inl e
    · exact .inr (by omega)
  · refine h.kp.trans hK (fun k hk e => ?_)
    rcases h.fr k e with e | e
    · exact .inr (.inr e)
    · omega
end Go.Proofs.Ytaipfcfmhdigfaa
