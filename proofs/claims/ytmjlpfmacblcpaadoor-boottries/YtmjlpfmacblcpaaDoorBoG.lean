import Derived.Test.YtmjlpfmacblcpaaDoorBoEr
import Derived.Test.YtmjlpfmacblcpaaDoorFvA0
import Derived.Test.YtmjlpfmacblcpaaDoorAnK
namespace Go.Proofs.YtmjlpfmacblcpaaDoor
open Go.RowKit Go.Shelf
set_option linter.unusedVariables false
set_option linter.unusedSimpArgs false
def fz25 : Nat → Int := fun k => ([8, 1, 4, 4, 4, 1, 4, 4, 4, 1] : List Int).getD k 0
def fu25 (k : Nat) : Bool := k == 4 || k == 8
def fpt25 (k : Nat) : TypeId := if fu25 k then 198 else 194
def ffn25 (k : Nat) : Nat := if fu25 k then 126 else 125
structure Fb25 (V : World) (N rb k a s : Nat) : Prop where
  la : N ≤ a
  ls : N ≤ s
  ha : V.heap[a]? = some (.cells #[.pointer (some ⟨rb, k, none⟩)] (fpt25 k) (0, 0))
  hs : V.heap[s]? = some (.cells #[.int .i64 (fz25 k)] 3 (0, 0))
def fv25 (k a s : Nat) : Value := .func (.func (ffn25 k)) #[] #[.pointer (some ⟨a, 0, none⟩), .pointer (some ⟨s, 0, none⟩)]
def Fs25 (V : World) (N rb n : Nat) (xs : List Value) : Prop := xs.length = n ∧ ∀ k, k < n → ∃ a s, xs[k]? = some (fv25 k a s) ∧ Fb25 V N rb k a s
theorem Fb25.old {V W : World} {N rb k a s : Nat} (h : Fb25 V N rb k a s) (hb : Below V.heap.size V W) : Fb25 W N rb k a s :=
  ⟨h.la, h.ls, (hb.block _ (Array.getElem?_eq_some_iff.1 h.ha).1).trans h.ha, (hb.block _ (Array.getElem?_eq_some_iff.1 h.hs).1).trans h.hs⟩
theorem Fb25.kp {V W : World} {S : Nat → Prop} {N rb k a s : Nat} (h : Fb25 V N rb k a s) (hb : Kp S V W) (h1 : ¬ S a) (h2 : ¬ S s) : Fb25 W N rb k a s :=
  ⟨h.la, h.ls, hb.heap h.ha h1, hb.heap h.hs h2⟩
set_option maxRecDepth 100000 in
theorem pnum25i (rb k : Nat) (z : Int) (w : World) (hk : fu25 k = false) (hz : fz25 k = z) : Calls Tryd.prog 111 #[.pointer (some ⟨rb, k, none⟩), .int .i64 z] w fun e w' => ∃ a s, e = .returned (fv25 k a s) ∧ Fb25 w' w.heap.size rb k a s ∧ Below w.heap.size w w' := by
  have hmf : ∀ (fn : Fn) (first cap : Array Value) (w : World), (Instr.makeFunc fn first cap).run Tryd.prog w = .ok (.func fn first cap) w := fun _ _ _ _ => rfl
  have e1 : fpt25 k = 194 := by unfold fpt25; rw [hk]; rfl
  have e2 : ffn25 k = 125 := by unfold ffn25; rw [hk]; rfl
  go_enter Tryd.func111, Tryd.ntmps111
  go_wp2
  go_ret
  refine ⟨w.heap.size, w.heap.size + 1, by unfold fv25; rw [e2]; rfl, ⟨Nat.le_refl _, by omega, ?_, ?_⟩, ((Below.refl _ _).alloc (Nat.le_refl _) _).alloc (by simp) _⟩
  · rw [e1, heap_alloc_old _ _ (by simp)]; exact heap_alloc_new _ _
  · rw [hz]; exact heap_alloc2_new _ _ _
set_option maxRecDepth 100000 in
theorem pnum25u (rb k : Nat) (z : Int) (w : World) (hk : fu25 k = true) (hz : fz25 k = z) : Calls Tryd.prog 112 #[.pointer (some ⟨rb, k, none⟩), .int .i64 z] w fun e w' => ∃ a s, e = .returned (fv25 k a s) ∧ Fb25 w' w.heap.size rb k a s ∧ Below w.heap.size w w' := by
  have hmf : ∀ (fn : Fn) (first cap : Array Value) (w : World), (Instr.makeFunc fn first cap).run Tryd.prog w = .ok (.func fn first cap) w := fun _ _ _ _ => rfl
  have e1 : fpt25 k = 198 := by unfold fpt25; rw [hk]; rfl
  have e2 : ffn25 k = 126 := by unfold ffn25; rw [hk]; rfl
  go_enter Tryd.func112, Tryd.ntmps112
  go_wp2
  go_ret
  refine ⟨w.heap.size, w.heap.size + 1, by unfold fv25; rw [e2]; rfl, ⟨Nat.le_refl _, by omega, ?_, ?_⟩, ((Below.refl _ _).alloc (Nat.le_refl _) _).alloc (by simp) _⟩
  · rw [e1, heap_alloc_old _ _ (by simp)]; exact heap_alloc_new _ _
  · rw [hz]; exact heap_alloc2_new _ _ _
theorem info_fd25 : (Tryd.prog.info? 151).map (fun i => (i.zero, i.size, i.bytes)) = some (some .nilFunc, 1, 8) := by kernel_rfl
/-- Fields behind fields. -/
theorem appf25 (V : World) {base n m cp c2 g2 : Nat} {p : Option Addr} {xs news : List Value} {fr : Nat × Nat} (ho : V.ownsRow base 151 1 (.slice p n cp) n xs) (hq : V.heap[g2]? = some (.cells news.toArray 151 fr)) (hm : news.length = m) (hf : ∀ u ∈ news, u.oneCell' = true) (hp : 0 < m) (hn : n ≤ 100) (hm1 : m ≤ 100) (hb : base ≤ V.heap.size) (ty : TypeId) :
    ∃ g rc w', (Builtin.append_ #[147, 147] ty #[.slice p n cp, .slice (some ⟨g2, 0, none⟩) m c2]).run Tryd.prog V = .ok (.slice (some ⟨g, 0, none⟩) (n + m) rc) w' ∧ w'.ownsRow base 151 1 (.slice (some ⟨g, 0, none⟩) (n + m) rc) (n + m) (xs ++ news) ∧ Kp (fun k => (Value.slice p n cp).ownBlock = some k) V w' := by
  obtain ⟨i0, hi, hz0, hz1, hz2⟩ := info_parts info_fd25
  subst hm
  obtain ⟨g, rc, w', hr, h1, h3, h4, _⟩ := run_append_lies (P := Tryd.prog) V 147 ty base 151 i0 _ 1 8 Tryd.underlying147 hi hz0 hz1 hz2 rfl (by omega) _ _ _ ho ⟨g2, 0, none⟩ news.length c2 news (by simp)
    (fun j u hu => by
      have hadd : (⟨g2, 0, none⟩ : Addr).add j = ⟨g2, j, none⟩ := by unfold Addr.add; split <;> simp_all
      rw [hadd]; simp [World.cell?, hq, hu]) hf hp (by unfold maxLen; omega) (by omega) hb V.heap.size rfl
  exact ⟨g, rc, w', hr, h1, Kp.grown (S := fun k => (Value.slice p n cp).ownBlock = some k) h3 (fun i e => e)⟩
/-- One row of fields more. -/
theorem Fs25.app {V : World} {N rb n m : Nat} {xs news : List Value} (h : Fs25 V N rb n xs) (hm : news.length = m) (hn : ∀ j, j < m → ∃ a s, news[j]? = some (fv25 (n + j) a s) ∧ Fb25 V N rb (n + j) a s) : Fs25 V N rb (n + m) (xs ++ news) := by
  refine ⟨by rw [List.length_append, h.1, hm], fun k hk => ?_⟩
  by_cases hl : k < n
  · obtain ⟨a, s, e, f⟩ := h.2 k hl
    exact ⟨a, s, by rw [List.getElem?_append_left (by rw [h.1]; exact hl)]; exact e, f⟩
  · obtain ⟨a, s, e, f⟩ := hn (k - n) (by omega)
    rw [show n + (k - n) = k by omega] at e f
    exact ⟨a, s, by rw [List.getElem?_append_right (by rw [h.1]; omega), h.1]; exact e, f⟩
theorem Fs25.old {V W : World} {N rb n : Nat} {xs : List Value} (h : Fs25 V N rb n xs) (hb : Below V.heap.size V W) : Fs25 W N rb n xs := ⟨h.1, fun k hk => by obtain ⟨a, s, e, f⟩ := h.2 k hk; exact ⟨a, s, e, f.old hb⟩⟩
end Go.Proofs.YtmjlpfmacblcpaaDoor
