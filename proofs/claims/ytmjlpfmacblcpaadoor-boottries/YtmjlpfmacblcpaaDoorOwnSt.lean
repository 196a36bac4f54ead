import Derived.WalkKit
import Derived.Test.YtmjlpfmacblcpaaDoorPushSt
namespace Go.Proofs.YtmjlpfmacblcpaaDoor
open Go.RowKit
set_option linter.unusedVariables false
/-- A block of slices: its slots. -/
def Slots (sT : TypeId) (w : World) (B n : Nat) (f : Nat → Value) : Prop := ∃ cs, w.heap[B]? = some (.cells cs sT (0, 0)) ∧ cs.size = n ∧ ∀ i, i < n → cs[i]? = some (f i)
def updO {α : Type} (f : Nat → α) (i : Nat) (x : α) : Nat → α := fun j => if j = i then x else f j
theorem upd_at {α : Type} (f : Nat → α) (i : Nat) (x : α) : updO f i x i = x := by simp [updO]
theorem upd_ne {α : Type} (f : Nat → α) (i j : Nat) (x : α) (h : j ≠ i) : updO f i x j = f j := by simp [updO, h]
theorem Slots.cell {sT : TypeId} {w : World} {B n : Nat} {f : Nat → Value} (h : Slots sT w B n f) (i : Nat) (hi : i < n) : w.cell? ⟨B, i, none⟩ = some (f i) := by
  obtain ⟨cs, hh, hs, hc⟩ := h
  rw [cell_of_row w B i cs sT (0, 0) hh]
  exact hc i hi
theorem Slots.free {sT : TypeId} {w : World} {B n : Nat} {f : Nat → Value} (h : Slots sT w B n f) (i : Nat) : w.frozen? ⟨B, i, none⟩ = false := by
  obtain ⟨cs, hh, hs, hc⟩ := h
  simp [World.frozen?, hh]
theorem Slots.lt {sT : TypeId} {w : World} {B n : Nat} {f : Nat → Value} (h : Slots sT w B n f) : B < w.heap.size := by
  obtain ⟨cs, hh, hs, hc⟩ := h
  exact (Array.getElem?_eq_some_iff.1 hh).1
theorem Slots.kept {sT : TypeId} {w w' : World} {B n : Nat} {f : Nat → Value} (h : Slots sT w B n f) (he : w'.heap[B]? = w.heap[B]?) : Slots sT w' B n f := by
  obtain ⟨cs, hh, hs, hc⟩ := h
  exact ⟨cs, by rw [he]; exact hh, hs, hc⟩
theorem Slots.grown {sT : TypeId} {w w' : World} {B n : Nat} {f : Nat → Value} {row : Option Nat} (h : Slots sT w B n f) (hg : w.grownBy w' row) (hne : some B ≠ row) : Slots sT w' B n f :=
  h.kept (hg.block B h.lt hne)
theorem Slots.set {sT : TypeId} {w : World} {B n : Nat} {f : Nat → Value} (h : Slots sT w B n f) (i : Nat) (hi : i < n) (x : Value) : Slots sT (w.setCell ⟨B, i, none⟩ x) B n (updO f i x) := by
  obtain ⟨cs, hh, hs, hc⟩ := h
  refine ⟨cs.setIfInBounds i x, by simp [World.setCell, Array.getElem?_modify, hh], by simp [hs], fun j hj => ?_⟩
  by_cases e : j = i
  · subst e; rw [upd_at, Array.getElem?_setIfInBounds_self_of_lt (by omega)]
  · rw [upd_ne _ _ _ _ e, Array.getElem?_setIfInBounds_ne (by omega)]; exact hc j hj

abbrev Row (eT : TypeId) (w : World) (base : Nat) (v : Value) (ys : List Int) : Prop := w.ownsRow base eT 1 v ys.length (ys.map (Value.int .u8))
def Ap (a b : Option Nat) : Prop := ∀ k, a = some k → b ≠ some k
theorem Ap.symm {a b : Option Nat} (h : Ap a b) : Ap b a := fun k h1 h2 => h k h2 h1
theorem Ap.none (b : Option Nat) : Ap none b := fun k h => by cases h
theorem Ap.or {a b : Option Nat} (h : Ap a b) : a = .none ∨ a ≠ b := by
  cases a with
  | none => exact .inl rfl
  | some k => exact .inr fun e => h k rfl e.symm

structure OS (eT sT : TypeId) (w : World) (base bl G n : Nat) (vs gs : Nat → Value) (ys zs : Nat → List Int) : Prop where
  rv : ∀ i, i < n → Row eT w base (vs i) (ys i)
  rg : ∀ i, i < n → Row eT w base (gs i) (zs i)
  vv : ∀ i j, i < n → j < n → i ≠ j → Ap (vs i).ownBlock (vs j).ownBlock
  gv : ∀ i j, i < n → j < n → i ≠ j → Ap (gs i).ownBlock (vs j).ownBlock
  gg : ∀ i j, i < n → j < n → i ≠ j → Ap (gs i).ownBlock (gs j).ownBlock
  sl : Slots sT w bl n vs
  sg : Slots sT w G n gs
  nv : ∀ i k, i < n → (vs i).ownBlock = some k → k ≠ bl ∧ k ≠ G
  ng : ∀ i k, i < n → (gs i).ownBlock = some k → k ≠ bl ∧ k ≠ G
  ne : bl ≠ G
  bG : base ≤ G
  bs : base ≤ w.heap.size

variable {eT sT : TypeId} {w : World} {base bl G n : Nat} {vs gs : Nat → Value} {ys zs : Nat → List Int}
/-- A grown list begins as the list itself. -/
theorem OS.start (h : OS eT sT w base bl G n vs gs ys zs) (i : Nat) (hi : i < n) :
    OS eT sT (w.setCell ⟨G, i, none⟩ (vs i)) base bl G n vs (updO gs i (vs i)) ys (updO zs i (ys i)) ∧ Below base w (w.setCell ⟨G, i, none⟩ (vs i)) := by
  have hgr : w.grownBy (w.setCell ⟨G, i, none⟩ (vs i)) (some G) := grownBy_set (World.grownBy.refl _ _) _
  have keepv : ∀ j, j < n → (vs j).ownBlock = none ∨ (vs j).ownBlock ≠ some G := by
    intro j hj
    cases e : (vs j).ownBlock with
    | none => exact .inl rfl
    | some k => exact .inr fun e2 => by cases e2; exact (h.nv j G hj e).2 rfl
  have keepg : ∀ j, j < n → (gs j).ownBlock = none ∨ (gs j).ownBlock ≠ some G := by
    intro j hj
    cases e : (gs j).ownBlock with
    | none => exact .inl rfl
    | some k => exact .inr fun e2 => by cases e2; exact (h.ng j G hj e).2 rfl
  refine ⟨⟨fun j hj => (h.rv j hj).kept hgr (keepv j hj), ?_, h.vv, ?_, ?_, h.sl.grown hgr (by intro e; cases e; exact h.ne rfl), h.sg.set i hi _, h.nv, ?_, h.ne, h.bG, by simpa [World.setCell] using h.bs⟩, ?_⟩
  · intro j hj
    by_cases e : j = i
    · subst e; rw [upd_at, upd_at]; exact (h.rv j hj).kept hgr (keepv j hj)
    · rw [upd_ne _ _ _ _ e, upd_ne _ _ _ _ e]; exact (h.rg j hj).kept hgr (keepg j hj)
  · intro j l hj hl hne
    by_cases e : j = i
    · subst e; rw [upd_at]; exact h.vv j l hj hl hne
    · rw [upd_ne _ _ _ _ e]; exact h.gv j l hj hl hne
  · intro j l hj hl hne
    by_cases e : j = i
    · subst e; rw [upd_at, upd_ne _ _ _ _ (Ne.symm hne)]; exact (h.gv l j hl hj (Ne.symm hne)).symm
    · rw [upd_ne _ _ _ _ e]
      by_cases e2 : l = i
      · subst e2; rw [upd_at]; exact h.gv j l hj hl hne
      · rw [upd_ne _ _ _ _ e2]; exact h.gg j l hj hl hne
  · intro j k hj
    by_cases e : j = i
    · subst e; rw [upd_at]; exact h.nv j k hj
    · rw [upd_ne _ _ _ _ e]; exact h.ng j k hj
  · exact (Below.refl _ _).grown hgr h.bs (by intro j e; cases e; exact h.bG)

/-- The grown list lies elsewhere, or it goes on behind the list. -/
def Shares (v g : Value) (y z : List Int) : Prop := Ap g.ownBlock v.ownBlock ∨ ∃ b l m c, v = .slice (some ⟨b, 0, none⟩) l c ∧ g = .slice (some ⟨b, 0, none⟩) m c ∧ l ≤ m ∧ y = z.take l
theorem Shares.row {w : World} {base : Nat} {v g : Value} {y z : List Int} (h : Shares v g y z) (hg : Row eT w base g z) (hv : Ap g.ownBlock v.ownBlock → Row eT w base v y) : Row eT w base v y := by
  rcases h with h | ⟨b, l, m, c, rfl, rfl, hl, rfl⟩
  · exact hv h
  · have hm : m = z.length := by
      rcases hg.2 with ⟨h0, _⟩ | ⟨g', c', cur, h0, _⟩
      · cases h0
      · cases h0; rfl
    subst hm
    have := own_take hg hl
    rw [← List.map_take] at this
    show World.ownsRow _ _ _ _ _ _ _
    rw [show (z.take l).length = l by simp; omega]
    exact this

/-- A grown list grows by a byte. -/
theorem OS.push (h : OS eT sT w base bl G n vs gs ys zs) (i : Nat) (hi : i < n) (x : Int) (g c : Nat) (w' : World) (hsh : Shares (vs i) (gs i) (ys i) (zs i))
    (h1 : w'.ownsRow base eT 1 (.slice (some ⟨g, 0, none⟩) ((zs i).length + 1) c) ((zs i).length + 1) ((zs i).map (Value.int .u8) ++ [.int .u8 x])) (h2 : w.grownBy w' (gs i).ownBlock) (h3 : Row eT w' base (gs i) (zs i))
    (h5 : gs i = .slice (some ⟨g, 0, none⟩) (zs i).length c ∨ w.heap.size ≤ g) :
    OS eT sT (w'.setCell ⟨G, i, none⟩ (.slice (some ⟨g, 0, none⟩) ((zs i).length + 1) c)) base bl G n vs (updO gs i (.slice (some ⟨g, 0, none⟩) ((zs i).length + 1) c)) ys (updO zs i (zs i ++ [x])) ∧
      Below base w (w'.setCell ⟨G, i, none⟩ (.slice (some ⟨g, 0, none⟩) ((zs i).length + 1) c)) ∧ Shares (vs i) (.slice (some ⟨g, 0, none⟩) ((zs i).length + 1) c) (ys i) (zs i ++ [x]) := by
  obtain ⟨v', hv'⟩ : ∃ v', v' = Value.slice (some ⟨g, 0, none⟩) ((zs i).length + 1) c := ⟨_, rfl⟩
  rw [← hv'] at h1 ⊢
  have h4 : (∃ g c, gs i = .slice (some ⟨g, 0, none⟩) (zs i).length c ∧ v' = .slice (some ⟨g, 0, none⟩) ((zs i).length + 1) c) ∨ ∃ g, v'.ownBlock = some g ∧ w.heap.size ≤ g := by
    rcases h5 with e | e
    · exact .inl ⟨g, c, e, hv'⟩
    · exact .inr ⟨g, by rw [hv']; rfl, e⟩
  clear h5
  have hnew : ∀ k, v'.ownBlock = some k → (gs i).ownBlock = some k ∨ w.heap.size ≤ k := by
    intro k hk
    rcases h4 with ⟨g, c, e1, e2⟩ | ⟨g, e1, e2⟩
    · rw [e2] at hk; rw [e1]; exact .inl hk
    · rw [e1] at hk; cases hk; exact .inr e2
  have hvlt : ∀ j k, j < n → (vs j).ownBlock = some k → k < w.heap.size := fun j k hj hk => ((h.rv j hj).lt k hk).2
  have hglt : ∀ j k, j < n → (gs j).ownBlock = some k → k < w.heap.size := fun j k hj hk => ((h.rg j hj).lt k hk).2
  have apv : ∀ j, j < n → j ≠ i → Ap v'.ownBlock (vs j).ownBlock := by
    intro j hj hne k hk hk2
    rcases hnew k hk with e | e
    · exact h.gv i j hi hj (Ne.symm hne) k e hk2
    · have := hvlt j k hj hk2; omega
  have apg : ∀ j, j < n → j ≠ i → Ap v'.ownBlock (gs j).ownBlock := by
    intro j hj hne k hk hk2
    rcases hnew k hk with e | e
    · exact h.gg i j hi hj (Ne.symm hne) k e hk2
    · have := hglt j k hj hk2; omega
  have hvi : Row eT w' base (vs i) (ys i) := hsh.row h3 fun hap => (h.rv i hi).kept h2 hap.symm.or
  have hgr : w'.grownBy (w'.setCell ⟨G, i, none⟩ v') (some G) := grownBy_set (World.grownBy.refl _ _) _
  have notG : ∀ (v : Value) (hG : ∀ k, v.ownBlock = some k → k ≠ bl ∧ k ≠ G), v.ownBlock = none ∨ v.ownBlock ≠ some G := by
    intro v hG
    cases e : v.ownBlock with
    | none => exact .inl rfl
    | some k => exact .inr fun e2 => by cases e2; exact (hG G e).2 rfl
  have ng' : ∀ k, v'.ownBlock = some k → k ≠ bl ∧ k ≠ G := by
    intro k hk
    rcases hnew k hk with e | e
    · exact h.ng i k hi e
    · have a1 := h.sl.lt
      have a2 := h.sg.lt
      exact ⟨by omega, by omega⟩
  have hrow' : Row eT w' base v' (zs i ++ [x]) := by
    show World.ownsRow _ _ _ _ _ _ _
    simpa using h1
  have rowsg : (gs i).ownBlock ≠ some bl ∧ (gs i).ownBlock ≠ some G := ⟨fun e => (h.ng i bl hi e).1 rfl, fun e => (h.ng i G hi e).2 rfl⟩
  refine ⟨⟨?_, ?_, h.vv, ?_, ?_, (h.sl.grown h2 (Ne.symm rowsg.1)).grown hgr (by intro e; cases e; exact h.ne rfl), (h.sg.grown h2 (Ne.symm rowsg.2)).set i hi _, h.nv, ?_, h.ne, h.bG, ?_⟩, ?_, ?_⟩
  · intro j hj
    by_cases e : j = i
    · subst e; exact hvi.kept hgr (notG _ (fun k hk => h.nv j k hj hk))
    · exact ((h.rv j hj).kept h2 (h.gv i j hi hj (Ne.symm e)).symm.or).kept hgr (notG _ (fun k hk => h.nv j k hj hk))
  · intro j hj
    by_cases e : j = i
    · subst e; rw [upd_at, upd_at]; exact hrow'.kept hgr (notG _ ng')
    · rw [upd_ne _ _ _ _ e, upd_ne _ _ _ _ e]
      exact ((h.rg j hj).kept h2 (h.gg j i hj hi e).or).kept hgr (notG _ (fun k hk => h.ng j k hj hk))
  · intro j l hj hl hne
    by_cases e : j = i
    · subst e; rw [upd_at]; exact apv l hl (Ne.symm hne)
    · rw [upd_ne _ _ _ _ e]; exact h.gv j l hj hl hne
  · intro j l hj hl hne
    by_cases e : j = i
    · subst e; rw [upd_at, upd_ne _ _ _ _ (Ne.symm hne)]; exact apg l hl (Ne.symm hne)
    · rw [upd_ne _ _ _ _ e]
      by_cases e2 : l = i
      · subst e2; rw [upd_at]; exact (apg j hj e).symm
      · rw [upd_ne _ _ _ _ e2]; exact h.gg j l hj hl hne
  · intro j k hj
    by_cases e : j = i
    · subst e; rw [upd_at]; exact ng' k
    · rw [upd_ne _ _ _ _ e]; exact h.ng j k hj
  · have := h2.size
    have := h.bs
    simp [World.setCell]; omega
  · have hb1 : Below base w w' := (Below.refl _ _).grown h2 h.bs (fun k hk => ((h.rg i hi).lt k hk).1)
    exact hb1.trans ((Below.refl _ _).grown hgr (Nat.le_trans h.bs h2.size) (by intro j e; cases e; exact h.bG))
  · rcases h4 with ⟨g, c, e1, e2⟩ | ⟨g, e1, e2⟩
    · rcases hsh with hs | ⟨b, l, m, c2, a1, a2, a3, a4⟩
      · left
        rw [e2]
        rw [e1] at hs
        exact hs
      · right
        rw [e1] at a2
        cases a2
        exact ⟨g, l, _, c, a1, e2, by omega, by rw [List.take_append_of_le_length a3]; exact a4⟩
    · left
      intro k hk hk2
      rw [e1] at hk
      cases hk
      have := hvlt i g hi hk2
      omega
end Go.Proofs.YtmjlpfmacblcpaaDoor
