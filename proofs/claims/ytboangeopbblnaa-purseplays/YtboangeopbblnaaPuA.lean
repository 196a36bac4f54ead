
import Derived.Test.YtboangeopbblnaaPuM
import Derived.Test.YtboangeopbblnaaBtMem
import Derived.Test.YtboangeopbblnaaProg
import Derived.WalkKit
import Derived.Conc.MuLone
import Derived.Maps.OwnSet
import Derived.Maps.RangeWalk
import Derived.StringKeys
import Derived.Laws.Rows
namespace Go.Proofs.Ytboangeopbblnaa
open Go.RowKit Go.Maps Go.WideMaps Go.MuLone
set_option linter.unusedVariables false
set_option maxRecDepth 100000

/-! The lock's functions in this program; the map of holders. -/
abbrev mu23 : Go.Conc.Locks.MuLink := { lock := 43, unlock := 44, ilock := 54, iunlock := 55, lockSlow := 63, unlockSlow := 66, disable := 59, enable := 61, acquire := 62, relMerge := 64, cas32 := 60, add32 := 65, tMutex := 60, tIMutex := 58, tPMutex := 111, tPIMutex := 127, tPI32 := 129, tUP := 131, tNoCopy := 55, tU32 := 56 }
theorem mulib23 : Go.Conc.Locks.MuLib Try.prog mu23 :=
  ⟨Try.func43, Try.func44, Try.func54, Try.func55, Try.func59, Try.func61, Try.func62, Try.func64, Try.func60, Try.func65, Try.underlying58, Try.runUnderlying58, Try.sizeOf58, Try.isAgg58, Try.zeroValue58, Try.underlying60, Try.runUnderlying60, Try.sizeOf60, Try.isAgg60, Try.zeroValue60, Try.underlying111, Try.runUnderlying111, Try.sizeOf111, Try.isAgg111, Try.zeroValue111, Try.underlying127, Try.runUnderlying127, Try.sizeOf127, Try.isAgg127, Try.zeroValue127, Try.underlying129, Try.runUnderlying129, Try.sizeOf129, Try.isAgg129, Try.zeroValue129, Try.underlying131, Try.runUnderlying131, Try.sizeOf131, Try.isAgg131, Try.zeroValue131, Try.underlying55, Try.runUnderlying55, Try.sizeOf55, Try.isAgg55, Try.zeroValue55, Try.underlying21, Try.runUnderlying21, Try.sizeOf21, Try.isAgg21, Try.zeroValue21, (by kernel_rfl)⟩
theorem law23 : Keyed Try.prog 9 := string_keyed Try.underlying9
def rd23 (v : Value) : Option (DataW Value × List MemPlace) := some (.held v, [])
abbrev hv23 (mo no : Int) : Value := .agg #[.int .i64 mo, .int .i64 no]
theorem zero23 (w : World) : (zeroValue 92).run Try.prog w = .ok (hv23 0 0) w := by kernel_rfl
def kl23 (s : ByteArray) : Lit := .string (kb23 s)
theorem keyOf23 {s : ByteArray} (h : s.size ≤ 9223372036854775807) : keyOf Try.prog 9 (.string s) = some (kl23 s) := keyOf_string_mk Try.underlying9 (by unfold maxLen; omega)
theorem kl23_inj {s t : ByteArray} (h : kl23 s = kl23 t) : s = t := by
  unfold kl23 at h
  injection h with h
  exact kb23_inj h
theorem same23 (s t : ByteArray) : (kl23 s).sameKey (kl23 t) = decide (s = t) := by
  unfold kl23 Lit.sameKey
  by_cases c : s = t
  · subst c; simp
  · have : ¬ kb23 s = kb23 t := fun h => c (kb23_inj h)
    simp [c, this]
/-- The datum of a map that leads each holder's name to what it may hold and holds. -/
structure Dm23 (D : DataW Value) (L : List Ho23) : Prop where
  at_ : ∀ s, s.size ≤ 9223372036854775807 → (fd23 L s = none ∧ Maps.has D (kl23 s) = false) ∨ (∃ h, fd23 L s = some h ∧ Maps.has D (kl23 s) = true ∧ ∀ d, D.atKey (kl23 s) d = .held (hv23 h.mo h.no))
  sz : Maps.size D = L.length
def Mn23 (w : World) (m : Nat) (L : List Ho23) : Prop := ∃ D : DataW Value, w.ownsMap Try.prog 9 rd23 m L.length D ∧ Dm23 D L
theorem Mn23.lt {w : World} {m : Nat} {L : List Ho23} (h : Mn23 w m L) : m < w.heap.size := by
  obtain ⟨D, ho, _⟩ := h
  exact ho.lt
theorem Mn23.block {w w' : World} {m : Nat} {L : List Ho23} (h : Mn23 w m L) (hb : w'.heap[m]? = w.heap[m]?) : Mn23 w' m L := by
  obtain ⟨D, ⟨es, clock, h1, h2⟩, h3⟩ := h
  exact ⟨D, ⟨es, clock, hb.trans h1, h2⟩, h3⟩
theorem Mn23.no {w : World} {m : Nat} {L : List Ho23} (h : Mn23 w m L) {cs : Array Value} {t : TypeId} {p : Nat × Nat} : w.heap[m]? ≠ some (.cells cs t p) := by
  obtain ⟨D, ⟨es, clock, h1, h2⟩, h3⟩ := h
  rw [h1]; simp
theorem own_least23 {w : World} {m n : Nat} {D : DataW Value} (h : w.ownsMap Try.prog 9 rd23 m n D) : w.ownsMap Try.prog 9 rd23 m (Maps.size D) D := by
  have hs := h
  obtain ⟨es, clock, h1, h2, h3, h4⟩ := h
  refine ⟨es, clock, h1, h2, ?_, h4⟩
  rw [h4]
  simp [Maps.size, length_sorted]
theorem Mn23.made (w : World) : Mn23 (w.alloc (.map #[] 0)) w.heap.size [] :=
  ⟨_, World.ownsMap_made _ _ _ _, ⟨fun s _ => .inl ⟨rfl, rfl⟩, rfl⟩⟩
theorem Mn23.len {w : World} {m : Nat} {L : List Ho23} (h : Mn23 w m L) (ty : TypeId) : (Builtin.len_ #[53] ty #[.map (some m)]).run Try.prog w = .ok (.int .i64 (L.length : Int)) w := by
  obtain ⟨D, ho, hD⟩ := h
  have := ho.len Try.underlying53 ty
  rw [hD.sz] at this
  exact this
theorem Mn23.look {w : World} {m : Nat} {L : List Ho23} (h : Mn23 w m L) {s : ByteArray} (hs : s.size ≤ 9223372036854775807) {y : Ho23} (hy : fd23 L s = some y) :
    (Instr.lookup 53 (.map (some m)) (.string s) true).run Try.prog w = .ok (.tuple #[.agg #[.int .i64 y.mo, .int .i64 y.no], .bool true]) w := by
  obtain ⟨D, ho, hD⟩ := h
  obtain ⟨v, ps, hr, hv⟩ := ho.look_ok (zd := .held (hv23 0 0)) (zp := []) law23 Try.underlying53 (zero23 w) rfl (keyOf23 hs)
  unfold rd23 at hv
  injection hv with hv
  injection hv with hv _
  rcases hD.at_ s hs with ⟨h1, h2⟩ | ⟨u, h1, h2, h3⟩
  · rw [hy] at h1; cases h1
  · rw [hy] at h1
    injection h1 with h1
    subst h1
    rw [h3] at hv
    injection hv with hv
    subst hv
    rw [hr, h2]
theorem Mn23.miss {w : World} {m : Nat} {L : List Ho23} (h : Mn23 w m L) {s : ByteArray} (hs : s.size ≤ 9223372036854775807) (hy : fd23 L s = none) :
    (Instr.lookup 53 (.map (some m)) (.string s) true).run Try.prog w = .ok (.tuple #[.agg #[.int .i64 0, .int .i64 0], .bool false]) w := by
  obtain ⟨D, ho, hD⟩ := h
  obtain ⟨v, ps, hr, hv⟩ := ho.look_ok (zd := .held (hv23 0 0)) (zp := []) law23 Try.underlying53 (zero23 w) rfl (keyOf23 hs)
  unfold rd23 at hv
  injection hv with hv
  injection hv with hv _
  rcases hD.at_ s hs with ⟨h1, h2⟩ | ⟨u, h1, h2, h3⟩
  · rw [atKey_of_not_has h2] at hv
    injection hv with hv
    subst hv
    rw [hr, h2]
  · rw [hy] at h1; cases h1
/-- A new holder is laid down. -/
theorem Mn23.put {w : World} {m : Nat} {L : List Ho23} (h : Mn23 w m L) (so : So23 L) (hl : L.length < 1048576) {s : ByteArray} (hs : s.size ≤ 9223372036854775807) (hn : fd23 L s = none) (mo : Int) :
    ∃ w', (Instr.mapUpdate 53 (.map (some m)) (.string s) (hv23 mo 0)).run Try.prog w = .ok () w' ∧ Mn23 w' m (in23 ⟨s, mo, 0⟩ L) ∧ w.mapTurned w' m := by
  obtain ⟨D, ho, hD⟩ := h
  have hm := ho.isMap
  have ht := ho.tidy law23
  obtain ⟨w', hr, ho', hg⟩ := ho.store (d := .held (hv23 mo 0)) (ps := []) law23 Try.underlying53 (by unfold maxLen; omega) (keyOf23 hs) rfl
  have hh : Maps.has D (kl23 s) = false := by
    rcases hD.at_ s hs with ⟨_, h2⟩ | ⟨u, h1, _⟩
    · exact h2
    · rw [hn] at h1; cases h1
  have hsz : Maps.size (D.put (kl23 s) (.held (hv23 mo 0))) = (in23 ⟨s, mo, 0⟩ L).length := by
    rw [size_put ht, hh, in23_len, hD.sz]; rfl
  refine ⟨w', hr, ⟨_, by have := own_least23 ho'; rw [hsz] at this; exact this, ⟨fun t hts => ?_, hsz⟩⟩, hg⟩
  rw [fd23_in so (fd23_none hn)]
  by_cases e : t = s
  · subst e
    rw [if_pos rfl]
    exact .inr ⟨_, rfl, has_put_same hm (law23.key (keyOf23 hs)) _, fun d => atKey_put_same hm (law23.key (keyOf23 hs)) _ _⟩
  · rw [if_neg e]
    have hne : kl23 t ≠ kl23 s := fun h => e (kl23_inj h)
    rw [has_put_other hne]
    rcases hD.at_ t hts with h1 | ⟨u, h1, h2, h3⟩
    · exact .inl h1
    · exact .inr ⟨u, h1, h2, fun d => by rw [atKey_put_other hne, h3]⟩
/-- A holder holds another number. -/
theorem Mn23.turn {w : World} {m : Nat} {L : List Ho23} (h : Mn23 w m L) (hl : L.length < 1048576) {s : ByteArray} (hs : s.size ≤ 9223372036854775807) {y : Ho23} (hn : fd23 L s = some y) (n : Int) :
    ∃ w', (Instr.mapUpdate 53 (.map (some m)) (.string s) (hv23 y.mo n)).run Try.prog w = .ok () w' ∧ Mn23 w' m (up23 L s n) ∧ w.mapTurned w' m := by
  obtain ⟨D, ho, hD⟩ := h
  have hm := ho.isMap
  have ht := ho.tidy law23
  obtain ⟨w', hr, ho', hg⟩ := ho.store (d := .held (hv23 y.mo n)) (ps := []) law23 Try.underlying53 (by unfold maxLen; omega) (keyOf23 hs) rfl
  have hh : Maps.has D (kl23 s) = true := by
    rcases hD.at_ s hs with ⟨h2, _⟩ | ⟨u, _, h1, _⟩
    · rw [hn] at h2; cases h2
    · exact h1
  have hsz : Maps.size (D.put (kl23 s) (.held (hv23 y.mo n))) = (up23 L s n).length := by
    rw [size_put ht, hh, up23_len, hD.sz]; rfl
  have hys := (fd23_some hn).2
  refine ⟨w', hr, ⟨_, by have := own_least23 ho'; rw [hsz] at this; exact this, ⟨fun t hts => ?_, hsz⟩⟩, hg⟩
  rw [fd23_up]
  by_cases e : t = s
  · subst e
    rw [hn]
    refine .inr ⟨⟨y.nm, y.mo, n⟩, ?_, has_put_same hm (law23.key (keyOf23 hs)) _, fun d => atKey_put_same hm (law23.key (keyOf23 hs)) _ _⟩
    simp only [Option.map_some, if_pos hys]
  · have hne : kl23 t ≠ kl23 s := fun h => e (kl23_inj h)
    rw [has_put_other hne]
    rcases hD.at_ t hts with ⟨h1, h2⟩ | ⟨u, h1, h2, h3⟩
    · exact .inl ⟨by rw [h1]; rfl, h2⟩
    · refine .inr ⟨u, ?_, h2, fun d => by rw [atKey_put_other hne, h3]⟩
      rw [h1]
      have : ¬ u.nm = s := by rw [(fd23_some h1).2]; exact e
      simp only [Option.map_some, if_neg this]
/-- A range over the holders under way: who is still to come. -/
def Rg23 (w : World) (m r : Nat) (L : List Ho23) (lf : ByteArray → Bool) (cnt : Nat) : Prop := ∃ (D : DataW Value) (left : Lit → Bool), w.ranges Try.prog 9 rd23 m r L.length D left cnt ∧ Dm23 D L ∧ ∀ s, lf s = left (kl23 s)
theorem Rg23.map {w : World} {m r cnt : Nat} {L : List Ho23} {lf : ByteArray → Bool} (h : Rg23 w m r L lf cnt) : Mn23 w m L := by
  obtain ⟨D, left, h1, h2, _⟩ := h
  exact ⟨D, h1.owns, h2⟩
theorem Rg23.left {w : World} {m r cnt : Nat} {L : List Ho23} {lf : ByteArray → Bool} (h : Rg23 w m r L lf cnt) : w.rangeLeft m r = cnt := by
  obtain ⟨D, left, h1, h2, _⟩ := h
  exact h1.left_eq
theorem Rg23.lt {w : World} {m r cnt : Nat} {L : List Ho23} {lf : ByteArray → Bool} (h : Rg23 w m r L lf cnt) : r < w.heap.size := by
  obtain ⟨D, left, h1, h2, _⟩ := h
  exact h1.lt
theorem Rg23.kept {w w' : World} {m r cnt : Nat} {L : List Ho23} {lf : ByteArray → Bool} {row : Option Nat} (h : Rg23 w m r L lf cnt) (hg : w.grownBy w' row) (hb : some m ≠ row) (hr : some r ≠ row) : Rg23 w' m r L lf cnt := by
  obtain ⟨D, left, h1, h2, h3⟩ := h
  exact ⟨D, left, h1.kept hg hb hr, h2, h3⟩
theorem Rg23.alloc {w : World} {m r cnt : Nat} {L : List Ho23} {lf : ByteArray → Bool} (h : Rg23 w m r L lf cnt) (o : Obj) : Rg23 (w.alloc o) m r L lf cnt := h.kept (World.grownBy_alloc w o none) (by simp) (by simp)
section
variable {w : World} {ops : Array Oper} {rest : List Oper} {o : Oper} {a : Act} {Q : Exit → Act → World → Prop}
theorem wpList_range23 (hg : o.guard = none) (m : Operand) (hop : o.op = Op.range 53 m) (b : Nat) (L : List Ho23) (hbd : ∀ h ∈ L, h.nm.size ≤ 9223372036854775807) (so : So23 L) (hm : a.eval m = .map (some b)) (hown : Mn23 w b L)
    (hK : ∀ w' lf cnt, Rg23 w' b w.heap.size L lf cnt → (∀ h ∈ L, lf h.nm = true) → w.grownBy w' none → w'.heap.size = w.heap.size + 1 → wpList Try.prog ops Q rest (a.put o.dst (.pointer (some ⟨w.heap.size, 0, none⟩))) w') :
    wpList Try.prog ops Q (o :: rest) a w := by
  obtain ⟨D, ho, hD⟩ := hown
  refine wpList_range_own w hg m 53 hop 9 92 law23 Try.underlying53 rd23 b L.length D hm ho fun w' h1 h2 h3 => ?_
  refine hK w' (fun s => Maps.has D (kl23 s)) (Maps.size D) ⟨D, Maps.has D, h1, hD, fun _ => rfl⟩ (fun h hh => ?_) h2 h3
  rcases hD.at_ h.nm (hbd h hh) with ⟨h4, _⟩ | ⟨u, _, h4, _⟩
  · rw [fd23_mem so.ne hh] at h4; cases h4
  · exact h4
theorem string_inv23 (key : Value) (kl : Lit) (h : keyOf Try.prog 9 key = some kl) : ∃ s, key = Value.string s := by
  obtain ⟨s, h1, _⟩ := string_of_keyOf Try.underlying9 h
  exact ⟨s, h1⟩
theorem wpList_next23 (hg : o.guard = none) (it : Operand) (hop : o.op = Op.next it false) (b r : Nat) (L : List Ho23) (lf : ByteArray → Bool) (cnt : Nat) (hit : a.eval it = .pointer (some ⟨r, 0, none⟩)) (h : Rg23 w b r L lf cnt)
    (hDone : (∀ s, lf s = false) → wpList Try.prog ops Q rest (a.put o.dst (.tuple #[.bool false])) w)
    (hMore : ∀ (y : Ho23) (w' : World) (lf' : ByteArray → Bool) (cnt' : Nat), y ∈ L → lf y.nm = true → (∀ s, lf' s = (lf s && !decide (s = y.nm))) → Rg23 w' b r L lf' cnt' → cnt' < cnt → w.grownBy w' (some r) → w'.heap.size = w.heap.size →
      (Instr.entry (.pointer (some ⟨r, 0, none⟩))).run Try.prog w' = .ok (.tuple #[.string y.nm, .agg #[.int .i64 y.mo, .int .i64 y.no]]) w' → wpList Try.prog ops Q rest (a.put o.dst (.tuple #[.bool true, .string y.nm, .agg #[.int .i64 y.mo, .int .i64 y.no]])) w') :
    wpList Try.prog ops Q (o :: rest) a w := by
  obtain ⟨D, left, h1, hD, hlf⟩ := h
  refine wpList_next_ranges w hg it hop 9 law23 rd23 Value.string (fun v : Value => v) string_inv23 (fun v _ _ => ⟨v, rfl⟩) b r L.length D left cnt hit h1 (fun _ hl => hDone fun s => by rw [hlf, hl]) fun x c kl y w' cnt' hk hl hR hat hr hc hgr hsz hen => ?_
  obtain ⟨s, e1, e2, e3⟩ := string_of_keyOf Try.underlying9 hk
  injection e1 with e1
  subst e1
  have hkl : kl = kl23 x := e2
  subst hkl
  unfold rd23 at hR
  injection hR with hR
  subst hR
  have e3' : x.size ≤ 9223372036854775807 := by unfold maxLen at e3; omega
  rcases hD.at_ x e3' with ⟨_, h3⟩ | ⟨u, h4, h5, h6⟩
  · rw [has_true_of_atKey hat] at h3; cases h3
  · have hc' := h6 (.held c)
    rw [hat] at hc'
    injection hc' with hc'
    subst hc'
    obtain ⟨h7, h8⟩ := fd23_some h4
    subst h8
    refine hMore u w' (fun s => left (kl23 s) && !(kl23 s).sameKey (kl23 u.nm)) cnt' h7 (by rw [hlf, hl]) (fun s => by rw [same23, hlf]) ⟨D, _, hr, hD, fun _ => rfl⟩ hc hgr hsz hen
end
end Go.Proofs.Ytboangeopbblnaa
