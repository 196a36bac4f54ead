import Derived.WalkKit
import Derived.Test.YtcifalelnfeggaaGreatDoorPl
import Derived.Test.YtcifalelnfeggaaGreatDoorProg
import Derived.WalkSpells
import Derived.WalkLawsBesides
import Derived.Test.YtcifalelnfeggaaGreatDoorPa
import Derived.Test.YtcifalelnfeggaaGreatDoorPk
import Derived.Deep.RegionLaw
import Derived.Deep.OwnRows
import Derived.Deep.RegionHeld3
namespace Go.Proofs.YtcifalelnfeggaaGreatDoor
open Go.RowKit
set_option linter.unusedVariables false

/-! What 'Own' goes through: lists that have rows of their own, and grown ones. Byte rows are of type eT, the lists of slices of type sT. -/
/-- A block of slices: its slots. -/
def Slots (sT : TypeId) (w : World) (B n : Nat) (f : Nat → Value) : Prop := ∃ cs, w.heap[B]? = some (.cells cs sT (0, 0)) ∧ cs.size = n ∧ ∀ i, i < n → cs[i]? = some (f i)
def updO {α : Type} (f : Nat → α) (i : Nat) (x : α) : Nat → α := fun j => if j = i then x else f j
theorem upd_at {α : Type} (f : Nat → α) (i : Nat) (x : α) : updO f i x i = x := by simp [updO]
theorem upd_ne {α : Type} (f : Nat → α) (i j : Nat) (x : α) (h : j ≠ i) : updO f i x j = f j := by simp [updO, h]
theorem upd_upd {α : Type} (f : Nat → α) (i : Nat) (x y : α) : updO (updO f i x) i y = updO f i y := by funext j; simp only [updO]; split <;> rfl
theorem upd_same {α : Type} (f : Nat → α) (i : Nat) : updO f i (f i) = f := by funext j; simp only [updO]; split <;> simp_all

theorem Slots.cell {sT : TypeId} {w : World} {B n : Nat} {f : Nat → Value} (h : Slots sT w B n f) (i : Nat) (hi : i < n) : w.cell? ⟨B, i, none⟩ = some (f i) := by
  obtain ⟨cs, hh, hs, hc⟩ := h
  rw [cell_of_row w B i cs sT (0, 0) hh]
  exact hc i hi
theorem Slots.free {sT : TypeId} {w : World} {B n : Nat} {f : Nat → Value} (h : Slots sT w B n f) (i : Nat) : w.frozen? ⟨B, i, none⟩ = false := by
  obtain ⟨cs, hh, hs, hc⟩ := h
  simp [World.frozen?, hh]
theorem Slots.lt {sT : TypeId} {w : World} {B n : Nat} {f : Nat → Value} (h : Slots sT w B n f) : B < w.heap.size := by
  obtain ⟨cs, hh, hs, hc⟩ := h
  exact (Array.getElem?_eq_some_iff.1 hh).1
theorem Slots.kept {sT : TypeId} {w w' : World} {B n : Nat} {f : Nat → Value} (h : Slots sT w B n f) (he : w'.heap[B]? = w.heap[B]?) : Slots sT w' B n f := by
  obtain ⟨cs, hh, hs, hc⟩ := h
  exact ⟨cs, by rw [he]; exact hh, hs, hc⟩
theorem Slots.grown {sT : TypeId} {w w' : World} {B n : Nat} {f : Nat → Value} {row : Option Nat} (h : Slots sT w B n f) (hg : w.grownBy w' row) (hne : some B ≠ row) : Slots sT w' B n f :=
  h.kept (hg.block B h.lt hne)
theorem Slots.set {sT : TypeId} {w : World} {B n : Nat} {f : Nat → Value} (h : Slots sT w B n f) (i : Nat) (hi : i < n) (x : Value) : Slots sT (w.setCell ⟨B, i, none⟩ x) B n (updO f i x) := by
  obtain ⟨cs, hh, hs, hc⟩ := h
  refine ⟨cs.setIfInBounds i x, by simp [World.setCell, Array.getElem?_modify, hh], by simp [hs], fun j hj => ?_⟩
  by_cases e : j = i
  · subst e; rw [upd_at, Array.getElem?_setIfInBounds_self_of_lt (by omega)]
  · rw [upd_ne _ _ _ _ e, Array.getElem?_setIfInBounds_ne (by omega)]; exact hc j hj

abbrev Row (eT : TypeId) (w : World) (base : Nat) (v : Value) (ys : List Int) : Prop := w.ownsRow base eT 1 v ys.length (ys.map (Value.int .u8))
def Ap (a b : Option Nat) : Prop := ∀ k, a = some k → b ≠ some k
theorem Ap.symm {a b : Option Nat} (h : Ap a b) : Ap b a := fun k h1 h2 => h k h2 h1
theorem Ap.none (b : Option Nat) : Ap none b := fun k h => by cases h
theorem Ap.or {a b : Option Nat} (h : Ap a b) : a = .none ∨ a ≠ b := by
  cases a with
  | none => exact .inl rfl
  | some k => exact .inr fun e => h k rfl e.symm

structure OS (eT sT : TypeId) (w : World) (base bl G n : Nat) (vs gs : Nat → Value) (ys zs : Nat → List Int) : Prop where
  rv : ∀ i, i < n → Row eT w base (vs i) (ys i)
  rg : ∀ i, i < n → Row eT w base (gs i) (zs i)
  vv : ∀ i j, i < n → j < n → i ≠ j → Ap (vs i).ownBlock (vs j).ownBlock
  gv : ∀ i j, i < n → j < n → i ≠ j → Ap (gs i).ownBlock (vs j).ownBlock
  gg : ∀ i j, i < n → j < n → i ≠ j → Ap (gs i).ownBlock (gs j).ownBlock
  sl : Slots sT w bl n vs
  sg : Slots sT w G n gs
  nv : ∀ i k, i < n → (vs i).ownBlock = some k → k ≠ bl ∧ k ≠ G
  ng : ∀ i k, i < n → (gs i).ownBlock = some k → k ≠ bl ∧ k ≠ G
  ne : bl ≠ G
  bG : base ≤ G
  bs : base ≤ w.heap.size

variable {eT sT : TypeId} {w : World} {base bl G n : Nat} {vs gs : Nat → Value} {ys zs : Nat → List Int}

/-- A byte of a list is written. -/
theorem OS.mark (h : OS eT sT w base bl G n vs gs ys zs) (i k g cap m : Nat) (x : Int) (hi : i < n) (hv : vs i = .slice (some ⟨g, 0, none⟩) m cap) (hk : k < m) (hg0 : ∀ j, j < n → (gs j).ownBlock = none) :
    OS eT sT (w.setCell ⟨g, k, none⟩ (.int .u8 x)) base bl G n vs gs (updO ys i ((ys i).set k x)) zs ∧ Below base w (w.setCell ⟨g, k, none⟩ (.int .u8 x)) := by
  have hr := h.rv i hi
  have hm : m = (ys i).length := by
    rcases hr.2 with ⟨h0, _⟩ | ⟨g', c', cur, h0, _⟩
    · rw [hv] at h0; cases h0
    · rw [hv] at h0; cases h0; rfl
  subst hm
  have hr' := hr
  unfold Row at hr'
  rw [hv] at hr'
  have hst := hr'.stored k (.int .u8 x)
  have hbg : base ≤ g := (hr'.lt g rfl).1
  have hob : (vs i).ownBlock = some g := by rw [hv]; rfl
  have hnn := h.nv i g hi hob
  refine ⟨⟨?_, ?_, h.vv, h.gv, h.gg, h.sl.grown hst.2 (by intro e; cases e; exact hnn.1 rfl), h.sg.grown hst.2 (by intro e; cases e; exact hnn.2 rfl), h.nv, h.ng, h.ne, h.bG, ?_⟩, ?_⟩
  · intro j hj
    by_cases e : j = i
    · subst e
      rw [upd_at, hv]
      have := hst.1
      rw [← List.map_set] at this
      show World.ownsRow _ _ _ _ _ _ _
      simpa using this
    · rw [upd_ne _ _ _ _ e]
      refine (h.rv j hj).kept hst.2 ?_
      have := (h.vv j i hj hi e).or
      rw [hob] at this
      exact this
  · intro j hj
    exact (h.rg j hj).kept hst.2 (.inl (hg0 j hj))
  · simpa [World.setCell] using h.bs
  · exact (Below.refl _ _).grown hst.2 h.bs (by intro j e; cases e; exact hbg)

/-- A grown list begins as the list itself. -/
theorem OS.start (h : OS eT sT w base bl G n vs gs ys zs) (i : Nat) (hi : i < n) :
    OS eT sT (w.setCell ⟨G, i, none⟩ (vs i)) base bl G n vs (updO gs i (vs i)) ys (updO zs i (ys i)) ∧ Below base w (w.setCell ⟨G, i, none⟩ (vs i)) := by
  have hgr : w.grownBy (w.setCell ⟨G, i, none⟩ (vs i)) (some G) := grownBy_set (World.grownBy.refl _ _) _
  have keepv : ∀ j, j < n → (vs j).ownBlock = none ∨ (vs j).ownBlock ≠ some G := by
    intro j hj
    cases e : (vs j).ownBlock with
    | none => exact .inl rfl
    | some k => exact .inr fun e2 => by cases e2; exact (h.nv j G hj e).2 rfl
  have keepg : ∀ j, j < n → (gs j).ownBlock = none ∨ (gs j).ownBlock ≠ some G := by
    intro j hj
    cases e : (gs j).ownBlock with
    | none => exact .inl rfl
    | some k => exact .inr fun e2 => by cases e2; exact (h.ng j G hj e).2 rfl
  refine ⟨⟨fun j hj => (h.rv j hj).kept hgr (keepv j hj), ?_, h.vv, ?_, ?_, h.sl.grown hgr (by intro e; cases e; exact h.ne rfl), h.sg.set i hi _, h.nv, ?_, h.ne, h.bG, by simpa [World.setCell] using h.bs⟩, ?_⟩
  · intro j hj
    by_cases e : j = i
    · subst e; rw [upd_at, upd_at]; exact (h.rv j hj).kept hgr (keepv j hj)
    · rw [upd_ne _ _ _ _ e, upd_ne _ _ _ _ e]; exact (h.rg j hj).kept hgr (keepg j hj)
  · intro j l hj hl hne
    by_cases e : j = i
    · subst e; rw [upd_at]; exact h.vv j l hj hl hne
    · rw [upd_ne _ _ _ _ e]; exact h.gv j l hj hl hne
  · intro j l hj hl hne
    by_cases e : j = i
    · subst e; rw [upd_at, upd_ne _ _ _ _ (Ne.symm hne)]; exact (h.gv l j hl hj (Ne.symm hne)).symm
    · rw [upd_ne _ _ _ _ e]
      by_cases e2 : l = i
      · subst e2; rw [upd_at]; exact h.gv j l hj hl hne
      · rw [upd_ne _ _ _ _ e2]; exact h.gg j l hj hl hne
  · intro j k hj
    by_cases e : j = i
    · subst e; rw [upd_at]; exact h.nv j k hj
    · rw [upd_ne _ _ _ _ e]; exact h.ng j k hj
  · exact (Below.refl _ _).grown hgr h.bs (by intro j e; cases e; exact h.bG)

/-- The grown list lies elsewhere, or it goes on behind the list. -/
def Shares (v g : Value) (y z : List Int) : Prop := Ap g.ownBlock v.ownBlock ∨ ∃ b l m c, v = .slice (some ⟨b, 0, none⟩) l c ∧ g = .slice (some ⟨b, 0, none⟩) m c ∧ l ≤ m ∧ y = z.take l
theorem Shares.self {w : World} {base : Nat} {v : Value} {y : List Int} (h : Row eT w base v y) : Shares v v y y := by
  rcases h.2 with ⟨rfl, _⟩ | ⟨g, cap, cur, rfl, _⟩
  · exact .inl (Ap.none _)
  · exact .inr ⟨g, _, _, cap, rfl, rfl, Nat.le_refl _, by simp⟩
theorem Shares.row {w : World} {base : Nat} {v g : Value} {y z : List Int} (h : Shares v g y z) (hg : Row eT w base g z) (hv : Ap g.ownBlock v.ownBlock → Row eT w base v y) : Row eT w base v y := by
  rcases h with h | ⟨b, l, m, c, rfl, rfl, hl, rfl⟩
  · exact hv h
  · have hm : m = z.length := by
      rcases hg.2 with ⟨h0, _⟩ | ⟨g', c', cur, h0, _⟩
      · cases h0
      · cases h0; rfl
    subst hm
    have := own_take hg hl
    rw [← List.map_take] at this
    show World.ownsRow _ _ _ _ _ _ _
    rw [show (z.take l).length = l by simp; omega]
    exact this

/-- A grown list grows by a byte. -/
theorem OS.push (h : OS eT sT w base bl G n vs gs ys zs) (i : Nat) (hi : i < n) (x : Int) (g c : Nat) (w' : World) (hsh : Shares (vs i) (gs i) (ys i) (zs i))
    (h1 : w'.ownsRow base eT 1 (.slice (some ⟨g, 0, none⟩) ((zs i).length + 1) c) ((zs i).length + 1) ((zs i).map (Value.int .u8) ++ [.int .u8 x])) (h2 : w.grownBy w' (gs i).ownBlock) (h3 : Row eT w' base (gs i) (zs i))
    (h5 : gs i = .slice (some ⟨g, 0, none⟩) (zs i).length c ∨ w.heap.size ≤ g) :
    OS eT sT (w'.setCell ⟨G, i, none⟩ (.slice (some ⟨g, 0, none⟩) ((zs i).length + 1) c)) base bl G n vs (updO gs i (.slice (some ⟨g, 0, none⟩) ((zs i).length + 1) c)) ys (updO zs i (zs i ++ [x])) ∧
      Below base w (w'.setCell ⟨G, i, none⟩ (.slice (some ⟨g, 0, none⟩) ((zs i).length + 1) c)) ∧ Shares (vs i) (.slice (some ⟨g, 0, none⟩) ((zs i).length + 1) c) (ys i) (zs i ++ [x]) := by
  obtain ⟨v', hv'⟩ : ∃ v', v' = Value.slice (some ⟨g, 0, none⟩) ((zs i).length + 1) c := ⟨_, rfl⟩
  rw [← hv'] at h1 ⊢
  have h4 : (∃ g c, gs i = .slice (some ⟨g, 0, none⟩) (zs i).length c ∧ v' = .slice (some ⟨g, 0, none⟩) ((zs i).length + 1) c) ∨ ∃ g, v'.ownBlock = some g ∧ w.heap.size ≤ g := by
    rcases h5 with e | e
    · exact .inl ⟨g, c, e, hv'⟩
    · exact .inr ⟨g, by rw [hv']; rfl, e⟩
  clear h5
  have hnew : ∀ k, v'.ownBlock = some k → (gs i).ownBlock = some k ∨ w.heap.size ≤ k := by
    intro k hk
    rcases h4 with ⟨g, c, e1, e2⟩ | ⟨g, e1, e2⟩
    · rw [e2] at hk; rw [e1]; exact .inl hk
    · rw [e1] at hk; cases hk; exact .inr e2
  have hvlt : ∀ j k, j < n → (vs j).ownBlock = some k → k < w.heap.size := fun j k hj hk => ((h.rv j hj).lt k hk).2
  have hglt : ∀ j k, j < n → (gs j).ownBlock = some k → k < w.heap.size := fun j k hj hk => ((h.rg j hj).lt k hk).2
  have apv : ∀ j, j < n → j ≠ i → Ap v'.ownBlock (vs j).ownBlock := by
    intro j hj hne k hk hk2
    rcases hnew k hk with e | e
    · exact h.gv i j hi hj (Ne.symm hne) k e hk2
    · have := hvlt j k hj hk2; omega
  have apg : ∀ j, j < n → j ≠ i → Ap v'.ownBlock (gs j).ownBlock := by
    intro j hj hne k hk hk2
    rcases hnew k hk with e | e
    · exact h.gg i j hi hj (Ne.symm hne) k e hk2
    · have := hglt j k hj hk2; omega
  have hvi : Row eT w' base (vs i) (ys i) := hsh.row h3 fun hap => (h.rv i hi).kept h2 hap.symm.or
  have hgr : w'.grownBy (w'.setCell ⟨G, i, none⟩ v') (some G) := grownBy_set (World.grownBy.refl _ _) _
  have notG : ∀ (v : Value) (hG : ∀ k, v.ownBlock = some k → k ≠ bl ∧ k ≠ G), v.ownBlock = none ∨ v.ownBlock ≠ some G := by
    intro v hG
    cases e : v.ownBlock with
    | none => exact .inl rfl
    | some k => exact .inr fun e2 => by cases e2; exact (hG G e).2 rfl
  have ng' : ∀ k, v'.ownBlock = some k → k ≠ bl ∧ k ≠ G := by
    intro k hk
    rcases hnew k hk with e | e
    · exact h.ng i k hi e
    · have a1 := h.sl.lt
      have a2 := h.sg.lt
      exact ⟨by omega, by omega⟩
  have hrow' : Row eT w' base v' (zs i ++ [x]) := by
    show World.ownsRow _ _ _ _ _ _ _
    simpa using h1
  have rowsg : (gs i).ownBlock ≠ some bl ∧ (gs i).ownBlock ≠ some G := ⟨fun e => (h.ng i bl hi e).1 rfl, fun e => (h.ng i G hi e).2 rfl⟩
  refine ⟨⟨?_, ?_, h.vv, ?_, ?_, (h.sl.grown h2 (Ne.symm rowsg.1)).grown hgr (by intro e; cases e; exact h.ne rfl), (h.sg.grown h2 (Ne.symm rowsg.2)).set i hi _, h.nv, ?_, h.ne, h.bG, ?_⟩, ?_, ?_⟩
  · intro j hj
    by_cases e : j = i
    · subst e; exact hvi.kept hgr (notG _ (fun k hk => h.nv j k hj hk))
    · exact ((h.rv j hj).kept h2 (h.gv i j hi hj (Ne.symm e)).symm.or).kept hgr (notG _ (fun k hk => h.nv j k hj hk))
  · intro j hj
    by_cases e : j = i
    · subst e; rw [upd_at, upd_at]; exact hrow'.kept hgr (notG _ ng')
    · rw [upd_ne _ _ _ _ e, upd_ne _ _ _ _ e]
      exact ((h.rg j hj).kept h2 (h.gg j i hj hi e).or).kept hgr (notG _ (fun k hk => h.ng j k hj hk))
  · intro j l hj hl hne
    by_cases e : j = i
    · subst e; rw [upd_at]; exact apv l hl (Ne.symm hne)
    · rw [upd_ne _ _ _ _ e]; exact h.gv j l hj hl hne
  · intro j l hj hl hne
    by_cases e : j = i
    · subst e; rw [upd_at, upd_ne _ _ _ _ (Ne.symm hne)]; exact apg l hl (Ne.symm hne)
    · rw [upd_ne _ _ _ _ e]
      by_cases e2 : l = i
      · subst e2; rw [upd_at]; exact (apg j hj e).symm
      · rw [upd_ne _ _ _ _ e2]; exact h.gg j l hj hl hne
  · intro j k hj
    by_cases e : j = i
    · subst e; rw [upd_at]; exact ng' k
    · rw [upd_ne _ _ _ _ e]; exact h.ng j k hj
  · have := h2.size
    have := h.bs
    simp [World.setCell]; omega
  · have hb1 : Below base w w' := (Below.refl _ _).grown h2 h.bs (fun k hk => ((h.rg i hi).lt k hk).1)
    exact hb1.trans ((Below.refl _ _).grown hgr (Nat.le_trans h.bs h2.size) (by intro j e; cases e; exact h.bG))
  · rcases h4 with ⟨g, c, e1, e2⟩ | ⟨g, e1, e2⟩
    · rcases hsh with hs | ⟨b, l, m, c2, a1, a2, a3, a4⟩
      · left
        rw [e2]
        rw [e1] at hs
        exact hs
      · right
        rw [e1] at a2
        cases a2
        exact ⟨g, l, _, c, a1, e2, by omega, by rw [List.take_append_of_le_length a3]; exact a4⟩
    · left
      intro k hk hk2
      rw [e1] at hk
      cases hk
      have := hvlt i g hi hk2
      omega
end Go.Proofs.YtcifalelnfeggaaGreatDoor

namespace Go.Proofs.YtcifalelnfeggaaGreatDoor
open Go.RowKit
set_option linter.unusedVariables false

def markL (i : Nat) (m : Nat) : List Int := (List.range m).map fun (k : Nat) => ((i : Int) + 7 * (k : Int)) % 256
def tailL (i : Nat) (m : Nat) : List Int := (List.range m).map fun (k : Nat) => ((i : Int) + 131 + 3 * (k : Int)) % 256
theorem markL_len (i m : Nat) : (markL i m).length = m := by simp [markL]
theorem tailL_len (i m : Nat) : (tailL i m).length = m := by simp [tailL]
theorem markL_succ (i m : Nat) : markL i (m + 1) = markL i m ++ [((i : Int) + 7 * (m : Int)) % 256] := by simp [markL, List.range_succ]
theorem tailL_succ (i m : Nat) : tailL i (m + 1) = tailL i m ++ [((i : Int) + 131 + 3 * (m : Int)) % 256] := by simp [tailL, List.range_succ]
theorem markL_get (i m k : Nat) (h : k < m) : (markL i m).getD k 0 = ((i : Int) + 7 * (k : Int)) % 256 := by simp [markL, List.getD, h]
theorem tailL_get (i m k : Nat) (h : k < m) : (tailL i m).getD k 0 = ((i : Int) + 131 + 3 * (k : Int)) % 256 := by simp [tailL, List.getD, h]

def markF (k : Nat) (ys : Nat → List Int) : Nat → List Int := fun i => if i < k then markL i (ys i).length else ys i
def pmF (k j : Nat) (ys : Nat → List Int) : Nat → List Int := updO (markF k ys) k (markL k j ++ (ys k).drop j)
theorem markF_zero (ys : Nat → List Int) : markF 0 ys = ys := by funext i; simp [markF]
theorem markF_at (n i : Nat) (ys : Nat → List Int) (h : i < n) : markF n ys i = markL i (ys i).length := by simp [markF, h]
theorem markF_len (n i : Nat) (ys : Nat → List Int) : (markF n ys i).length = (ys i).length := by
  simp only [markF]; split
  · exact markL_len _ _
  · rfl
theorem pmF_zero (k : Nat) (ys : Nat → List Int) : pmF k 0 ys = markF k ys := by
  have : markL k 0 ++ (ys k).drop 0 = markF k ys k := by simp [markF, markL]
  unfold pmF; rw [this, upd_same]
theorem pmF_end (k : Nat) (ys : Nat → List Int) : pmF k (ys k).length ys = markF (k + 1) ys := by
  funext i
  by_cases e : i = k
  · subst e; rw [pmF, upd_at]; simp [markF]
  · rw [pmF, upd_ne _ _ _ _ e]; simp only [markF]
    by_cases h : i < k
    · rw [if_pos h, if_pos (by omega)]
    · rw [if_neg h, if_neg (by omega)]
theorem pmF_at (k j : Nat) (ys : Nat → List Int) : pmF k j ys k = markL k j ++ (ys k).drop j := upd_at _ _ _
theorem pmF_step (k j : Nat) (ys : Nat → List Int) (h : j < (ys k).length) : updO (pmF k j ys) k ((pmF k j ys k).set j (((k : Int) + 7 * (j : Int)) % 256)) = pmF k (j + 1) ys := by
  rw [pmF_at]
  unfold pmF
  rw [upd_upd]
  congr 1
  rw [List.set_append, if_neg (by rw [markL_len]; omega), markL_len, Nat.sub_self, List.drop_eq_getElem_cons h, List.set_cons_zero, markL_succ]
  simp

/-- A made list of slices, as slots. -/
theorem slots_made {sT : TypeId} {w : World} {base G n : Nat} {z : Value} (h : w.ownsRow base sT 1 (.slice (some ⟨G, 0, none⟩) n n) n (List.replicate n z)) (hn : 0 < n) : Slots sT w G n (fun _ => z) := by
  rcases h.2 with ⟨h0, _⟩ | ⟨g, cap, cur, h0, _, hh, _, _, hs, ht⟩
  · cases h0
  · cases h0
    refine ⟨cur, hh, by omega, fun i hi => ?_⟩
    have : cur.toList = List.replicate n z := by rw [← ht]; exact (List.take_of_length_le (by simp; omega)).symm
    have h2 : cur.toList[i]? = some z := by rw [this]; simp [hi]
    simpa using h2

theorem row_shape {eT : TypeId} {w : World} {base : Nat} {v : Value} {ys : List Int} (h : Row eT w base v ys) : ∃ a cap, v = .slice a ys.length cap ∧ ys.length ≤ cap ∧ (∀ k, k < ys.length → ∃ g, a = some ⟨g, 0, none⟩ ∧ w.cell? ⟨g, k, none⟩ = some (.int .u8 (ys.getD k 0)) ∧ w.frozen? ⟨g, k, none⟩ = false) := by
  rcases h.2 with ⟨rfl, h0⟩ | ⟨g, cap, cur, rfl, hb, hh, hc, _, _, ht⟩
  · exact ⟨none, 0, by rw [h0], by omega, fun k hk => by omega⟩
  · refine ⟨_, cap, rfl, hc, fun k hk => ⟨g, rfl, ?_, ?_⟩⟩
    · rw [h.cellAt k (by omega)]; simp [List.getD, hk]
    · exact h.frozenAt k
theorem row_at {eT : TypeId} {w : World} {base : Nat} {a : Option Addr} {m cp : Nat} {ys : List Int} (h : Row eT w base (.slice a m cp) ys) (k : Nat) (hk : k < ys.length) : ∃ g, a = some ⟨g, 0, none⟩ ∧ w.cell? ⟨g, k, none⟩ = some (.int .u8 (ys.getD k 0)) ∧ w.frozen? ⟨g, k, none⟩ = false := by
  obtain ⟨a', cap', hv, _, hat⟩ := row_shape h
  cases hv
  exact hat k hk
theorem pmF_len (k j : Nat) (ys : Nat → List Int) (h : j ≤ (ys k).length) : (pmF k j ys k).length = (ys k).length := by rw [pmF_at]; simp [markL_len]; omega
end Go.Proofs.YtcifalelnfeggaaGreatDoor

namespace Go.Proofs.YtcifalelnfeggaaGreatDoor
open Go.RowKit
set_option linter.unusedVariables false

theorem info_sl : (Tryz.prog.info? 59).map (fun i => (i.zero, i.size, i.bytes)) = some (some (.slice none 0 0), 1, 24) := by kernel_rfl
theorem info_u8o : (Tryz.prog.info? 5).map (fun i => (i.zero, i.size, i.bytes)) = some (some (.int .u8 0), 1, 1) := by kernel_rfl

end Go.Proofs.YtcifalelnfeggaaGreatDoor

namespace Go.Proofs.YtcifalelnfeggaaGreatDoor
open Go.RowKit
set_option linter.unusedVariables false

def two {α : Type} (x y : α) : Nat → α := fun i => if i = 0 then x else y
def three {α : Type} (x y z : α) : Nat → α := fun i => if i = 0 then x else if i = 1 then y else z

theorem row_below {eT : TypeId} {w w' : World} {base : Nat} {v : Value} {ys : List Int} (h : Row eT w base v ys) (hb : Below w.heap.size w w') : Row eT w' base v ys := own_below h hb
theorem row_base {eT : TypeId} {w : World} {base base' : Nat} {v : Value} {ys : List Int} (h : Row eT w base v ys) (hb : base' ≤ base) : Row eT w base' v ys := own_base h hb
theorem row_seg {eT : TypeId} {w : World} {base : Nat} {a : Option Addr} {n cap : Nat} {ys : List Int} (h : Row eT w base (.slice a n cap) ys) (hb : ∀ z ∈ ys, 0 ≤ z ∧ z ≤ 255) : Seg w a ys ∧ ys.length ≤ cap ∧ (a = none → cap = 0) := by
  obtain ⟨_, a', c', hv, hs, hx, hc, _⟩ := own_seg h (M := 255) (by decide) hb
  cases hv
  refine ⟨hs, hc, fun e => ?_⟩
  subst e
  rcases h.2 with ⟨h0, _⟩ | ⟨g, cp, cur, h0, _⟩
  · simp at h0; exact h0.2
  · simp at h0
theorem ap_of {eT : TypeId} {w : World} {base base' m : Nat} {v u : Value} {xs ys : List Int} {w0 : World} (h : Row eT w0 base v xs) (h0 : w0.heap.size ≤ m) (k : Row eT w base' u ys) (hm : m ≤ base') : Ap v.ownBlock u.ownBlock := by
  intro j h1 h2
  have := (h.lt j h1).2
  have := (k.lt j h2).1
  omega

end Go.Proofs.YtcifalelnfeggaaGreatDoor

namespace Go.Proofs.YtcifalelnfeggaaGreatDoor
open Go.RowKit
set_option linter.unusedVariables false

theorem WrL.apart {w w' : World} {b1 b2 B : Nat} {v1 v2 : Value} {L1 L2 : List Bool} (h1 : WrL w b1 B v1 L1) (h2 : WrL w b2 B v2 L2) (hk : Kp (WS b2 v2) w w') (hb : b1 ≠ b2) (hb1 : b1 < B) (hb2 : b2 < B) (hap : Ap v1.ownBlock v2.ownBlock) : WrL w' b1 B v1 L1 := by
  refine h1.kp hk ?_ ?_
  · rintro (e | e)
    · exact hb e
    · have := (h2.own_lt _ e).1; omega
  · intro k e
    have hk1 := h1.own_lt k e
    rintro (e2 | e2)
    · omega
    · exact hap k e e2
theorem Ap.fresh {w : World} {b1 B : Nat} {v1 v2 v2' : Value} {L1 : List Bool} (hap : Ap v1.ownBlock v2.ownBlock) (h1 : WrL w b1 B v1 L1) (hf : Fresh w v2 v2') : Ap v1.ownBlock v2'.ownBlock := by
  intro k e1 e2
  have := (h1.own_lt k e1).2.1
  rcases hf k e2 with e | e
  · exact hap k e1 e
  · omega
theorem WrL.far {w : World} {b B N : Nat} {v : Value} {L : List Bool} (h : WrL w b B v L) (h1 : N ≤ b) (h2 : N ≤ B) {g : Nat} (hg : g < N) : ¬ WS b v g := by
  rintro (e | e)
  · omega
  · have := (h.own_lt g e).1; omega
theorem ap_nil : Ap (Value.slice none 0 0).ownBlock (Value.slice none 0 0).ownBlock := Ap.none _
theorem heap_new2 (w : World) (o o' : Obj) : ((w.alloc o).alloc o').heap[w.heap.size + 1]? = some o' := by
  have := heap_new (w.alloc o) o'
  rw [show (w.alloc o).heap.size = w.heap.size + 1 by simp] at this
  exact this
theorem beq_self_list (xs : List Int) : (xs == xs) = true := by simp
end Go.Proofs.YtcifalelnfeggaaGreatDoor

namespace Go.Proofs.YtcifalelnfeggaaGreatDoor
open Go.RowKit
set_option linter.unusedVariables false

theorem Fresh.refl (w : World) (v : Value) : Fresh w v v := fun k e => .inl e
theorem info_b1 : (Tryz.prog.info? 4).map (fun i => (i.zero, i.size, i.bytes)) = some (some (.bool false), 1, 1) := by kernel_rfl

/-- A block whose first cell is a list of bits in a row of its own. -/
structure RB (w : World) (b B : Nat) (T : TypeId) (xs : List Value) (a : Option Addr) (cap : Nat) (L : List Bool) : Prop where
  hp : w.heap[b]? = some (.cells (.slice a L.length cap :: xs).toArray T (0, 0))
  own : w.ownsRow B 4 1 (.slice a L.length cap) L.length (L.map Value.bool)
  ne : (Value.slice a L.length cap).ownBlock ≠ some b
  bB : B ≤ w.heap.size
variable {w w' wr w2 : World} {b B : Nat} {T : TypeId} {xs : List Value} {a : Option Addr} {cap : Nat} {L : List Bool}
theorem RB.b_lt (h : RB w b B T xs a cap L) : b < w.heap.size := (Array.getElem?_eq_some_iff.1 h.hp).1
theorem RB.kp {S : Nat → Prop} (h : RB w b B T xs a cap L) (hk : Kp S w w') (h1 : ¬ S b) (h2 : ∀ k, (Value.slice a L.length cap).ownBlock = some k → ¬ S k) : RB w' b B T xs a cap L :=
  ⟨hk.heap h.hp h1, own_kp h.own hk h2, h.ne, Nat.le_trans h.bB hk.size⟩
theorem RB.cell0 (h : RB w b B T xs a cap L) : w.cell? ⟨b, 0, none⟩ = some (.slice a L.length cap) := by simp [World.cell?, h.hp]
theorem RB.free (h : RB w b B T xs a cap L) (i : Nat) : w.frozen? ⟨b, i, none⟩ = false := by simp [World.frozen?, h.hp]
theorem RB.seg (h : RB w b B T xs a cap L) : SegB w a L := own_segB h.own
theorem RB.own_lt (h : RB w b B T xs a cap L) : ∀ k, (Value.slice a L.length cap).ownBlock = some k → B ≤ k ∧ k < w.heap.size ∧ k ≠ b :=
  fun k e => ⟨(h.own.lt k e).1, (h.own.lt k e).2, fun e2 => h.ne (e2 ▸ e)⟩

/-- A new row is laid into the first cell. -/
theorem RB.store (h : RB wr b B T xs a cap L) {a' : Option Addr} {cap' : Nat} {L' : List Bool} (hk : Kp (fun k => (Value.slice a L.length cap).ownBlock = some k) wr w2)
    (hown : w2.ownsRow B 4 1 (.slice a' L'.length cap') L'.length (L'.map Value.bool)) (hf : Fresh wr (.slice a L.length cap) (.slice a' L'.length cap')) :
    RB (w2.setCell ⟨b, 0, none⟩ (.slice a' L'.length cap')) b B T xs a' cap' L' ∧ Kp (WS b (.slice a L.length cap)) wr (w2.setCell ⟨b, 0, none⟩ (.slice a' L'.length cap')) ∧ Fresh wr (.slice a L.length cap) (.slice a' L'.length cap') := by
  have hp2 : w2.heap[b]? = some (.cells (.slice a L.length cap :: xs).toArray T (0, 0)) := hk.heap h.hp h.ne
  have hne : (Value.slice a' L'.length cap').ownBlock ≠ some b := by
    intro e
    rcases hf b e with e | e
    · exact h.ne e
    · have := h.b_lt; omega
  have hkb : Kp (fun j => j = b) w2 (w2.setCell ⟨b, 0, none⟩ (.slice a' L'.length cap')) := Kp.set (S := fun j => j = b) rfl _
  refine ⟨⟨?_, own_kp hown hkb (fun j e1 e2 => hne (e2 ▸ e1)), hne, Nat.le_trans h.bB (Nat.le_trans hk.size hkb.size)⟩, ?_, hf⟩
  · simp [World.setCell, Array.getElem?_modify, hp2]
  · exact (hk.mono (S' := WS b (.slice a L.length cap)) (fun i _ e => .inr e)).trans hkb (fun i _ e => .inl e)
theorem RB.pushed (h : RB wr b B T xs a cap L) {o : Obj} {gg cap2 : Nat} {y : Bool}
    (hown : w2.ownsRow B 4 1 (.slice (some ⟨gg, 0, none⟩) (L.length + 1) cap2) (L.length + 1) (L.map Value.bool ++ [.bool y]))
    (hgrow : ((wr.alloc o).drew).grownBy w2 (Value.slice a L.length cap).ownBlock) (hat : (Value.slice a L.length cap).ownBlock = some gg ∨ gg = wr.heap.size + 1) :
    RB (w2.setCell ⟨b, 0, none⟩ (.slice (some ⟨gg, 0, none⟩) (L.length + 1) cap2)) b B T xs (some ⟨gg, 0, none⟩) cap2 (L ++ [y]) ∧ Kp (WS b (.slice a L.length cap)) wr (w2.setCell ⟨b, 0, none⟩ (.slice (some ⟨gg, 0, none⟩) (L.length + 1) cap2)) ∧
      Fresh wr (.slice a L.length cap) (.slice (some ⟨gg, 0, none⟩) (L ++ [y]).length cap2) := by
  have hlen : (L ++ [y]).length = L.length + 1 := by simp
  have hk : Kp (fun k => (Value.slice a L.length cap).ownBlock = some k) wr w2 := ((Kp.alloc wr o).drew).trans (Kp.grown (S := fun k => (Value.slice a L.length cap).ownBlock = some k) hgrow (fun i e => e)) (fun _ _ e => e)
  have := h.store (L' := L ++ [y]) (a' := some ⟨gg, 0, none⟩) (cap' := cap2) hk (by rw [hlen]; simpa using hown) (by
    intro k e
    cases e
    rcases hat with e | e
    · exact .inl e
    · right; show wr.heap.size ≤ gg; omega)
  rw [hlen] at this
  simpa using this
theorem RB.pushed1 (h : RB wr b B T xs a cap L) {g2 c2 : Nat} {y : Bool}
    (hown : w2.ownsRow B 4 1 (.slice (some ⟨g2, 0, none⟩) (L.length + 1) c2) (L.length + 1) (L.map Value.bool ++ [.bool y]))
    (hgrow : wr.grownBy w2 (Value.slice a L.length cap).ownBlock) (hf : Fresh wr (.slice a L.length cap) (.slice (some ⟨g2, 0, none⟩) (L.length + 1) c2)) :
    RB (w2.setCell ⟨b, 0, none⟩ (.slice (some ⟨g2, 0, none⟩) (L.length + 1) c2)) b B T xs (some ⟨g2, 0, none⟩) c2 (L ++ [y]) ∧ Kp (WS b (.slice a L.length cap)) wr (w2.setCell ⟨b, 0, none⟩ (.slice (some ⟨g2, 0, none⟩) (L.length + 1) c2)) ∧
      Fresh wr (.slice a L.length cap) (.slice (some ⟨g2, 0, none⟩) (L ++ [y]).length c2) := by
  have hlen : (L ++ [y]).length = L.length + 1 := by simp
  have hk : Kp (fun k => (Value.slice a L.length cap).ownBlock = some k) wr w2 := Kp.grown hgrow (fun i e => e)
  have := h.store (L' := L ++ [y]) (a' := some ⟨g2, 0, none⟩) (cap' := c2) hk (by rw [hlen]; simpa using hown) (by rw [hlen]; exact hf)
  rw [hlen] at this
  simpa using this

/-- The document's Writer with these bits; v: its row. -/
def RwL (w : World) (b B : Nat) (v : Value) (L : List Bool) : Prop := ∃ a cap, v = .slice a L.length cap ∧ RB w b B 67 [] a cap L
theorem RwL.kp {v : Value} {S : Nat → Prop} (h : RwL w b B v L) (hk : Kp S w w') (h1 : ¬ S b) (h2 : ∀ k, v.ownBlock = some k → ¬ S k) : RwL w' b B v L := by
  obtain ⟨a, cap, rfl, h⟩ := h
  exact ⟨a, cap, rfl, h.kp hk h1 h2⟩
theorem RwL.b_lt {v : Value} (h : RwL w b B v L) : b < w.heap.size := by
  obtain ⟨a, cap, rfl, h⟩ := h
  exact h.b_lt
theorem RwL.own_lt {v : Value} (h : RwL w b B v L) : ∀ k, v.ownBlock = some k → B ≤ k ∧ k < w.heap.size ∧ k ≠ b := by
  obtain ⟨a, cap, rfl, h⟩ := h
  exact h.own_lt
theorem RwL.new (h : w.heap[b]? = some (.cells #[.slice none 0 0] 67 (0, 0))) (hB : B ≤ w.heap.size) : RwL w b B (.slice none 0 0) [] :=
  ⟨none, 0, rfl, ⟨h, World.ownsRow_nil _ _ _ _, by simp [Value.ownBlock], hB⟩⟩

set_option maxRecDepth 100000 in
set_option maxHeartbeats 2000000 in
theorem rput_ok (b B : Nat) (v : Value) (L : List Bool) (x k : Nat) (w : World) (h : RwL w b B v L) (hx : x < 2 ^ k) (hk : k ≤ 56) (hl : L.length ≤ 140737488355264) :
    Calls Tryz.prog 30 #[.pointer (some ⟨b, 0, none⟩), .int .u64 (x : Int), .int .i64 (k : Int)] w fun e w' => e = .returned (.int .i64 0) ∧ ∃ v', RwL w' b B v' (L ++ bN x k) ∧ Kp (WS b v) w w' ∧ Fresh w v v' := by
  obtain ⟨i0, hi, hz0, hz1, hz2⟩ := info_parts info_b1
  obtain ⟨a, cap, rfl, h⟩ := h
  have hs0 : (x : Int) / 2 ^ k = 0 := by rw [shr_nat, Nat.div_eq_of_lt hx]; rfl
  have hx2 : x < 18446744073709551616 := by
    have := pow_le_63 (k := k) (by omega)
    omega
  clear hx
  go_enter Tryz.func30, Tryz.ntmps30
  go_wp2
  clear hs0
  go_loopw [7] (fun ti wr => ∃ (i : Nat) (a1 : Option Addr) (cap1 : Nat), i ≤ k ∧ ti = .int .i64 (i : Int) ∧ RB wr b B 67 [] a1 cap1 (L ++ bN x i) ∧ Kp (WS b (.slice a L.length cap)) w wr ∧ Fresh w (.slice a L.length cap) (.slice a1 (L ++ bN x i).length cap1)) (fun ti _ => k - (intOf ti).toNat)
  case atStart => exact ⟨0, a, cap, Nat.zero_le _, rfl, by simpa [bN] using h, Kp.refl _ _, by simpa [bN] using Fresh.refl w (.slice a L.length cap)⟩
  case round =>
    obtain ⟨i, a1, cap1, hik, rfl, hr, hkr, hfr⟩ := hrel
    have hlen : (L ++ bN x i).length = L.length + i := by rw [List.length_append, bN_len]
    have hbs : bN x (i + 1) = bN x i ++ [x.testBit i] := bN_succ x i
    have HB : Hid (L ++ bN x (i + 1) = (L ++ bN x i) ++ [x.testBit i]) := by show _ = _; rw [hbs, List.append_assoc]
    have hlt1 : (L ++ bN x i).length + 1 ≤ 140737488355328 := by omega
    obtain ⟨M, hM⟩ : ∃ M, M = L ++ bN x i := ⟨_, rfl⟩
    rw [← hM] at hr hfr hlt1 HB
    have HM : Hid (M = L ++ bN x i) := hM
    clear hbs hlen hM
    by_cases hlt : i < k
    · have hq := shr_nat x i
      have hq2 := div_pow_lt (k := i) hx2
      have ha := and_one' (x / 2 ^ i) hq2
      have hb := bit_eq x i
      generalize x / 2 ^ i = q at *
      have hb2 : q % 2 < 2 := by omega
      generalize q % 2 = bb at *
      generalize x.testBit i = y at *
      have hi63 : i ≤ 63 := by omega
      have hlt2 : (i : Int) < (k : Int) := by omega
      have hd0 := hr.cell0
      have hdf0 := hr.free 0
      have hltr := hr.b_lt
      have hfa : ∀ o, (wr.alloc o).frozen? ⟨b, 0, none⟩ = false := fun o => (((Below.refl wr.heap.size wr).alloc (Nat.le_refl _) o).frozen (p := ⟨b, 0, none⟩) hltr).trans hdf0
      have hca : ∀ o, (wr.alloc o).cell? ⟨b, 0, none⟩ = some (.slice a1 M.length cap1) := fun o => (((Below.refl wr.heap.size wr).alloc (Nat.le_refl _) o).cell (p := ⟨b, 0, none⟩) hltr).trans hd0
      have hown1 := hr.own
      have hbase := hr.bB
      have hne := hr.ne
      go_wp2
      go_region_law
        (refine step_append_lies _ (by rfl) _ _ _ (by rfl) B 4 i0 _ 1 1 Tryz.underlying65 hi hz0 hz1 hz2 rfl (by omega) (.slice a1 M.length cap1) M.length (M.map Value.bool) (by rfl) ((hown1.alloc _).drew)
            ⟨wr.heap.size, 0, none⟩ 1 1 [.bool y] (by rfl) (by rfl) (World.news_of_block (cs := #[.bool y]) (t := 4) (fr := (0, 0)) (heap_alloc_new wr _)) (by simp [Value.oneCell'])
            (by omega) (by unfold maxLen; omega) (by omega) (by simp; omega) (wr.heap.size + 1) (by simp) ?_; intro gg cap2 w2 hown2 hgrow hat hlt2
         have hx0 := (hgrow.cell_far ⟨b, 0, none⟩ (by simp; omega) (Ne.symm hne)).trans (hca _)
         have hxf := (hgrow.frozen_far ⟨b, 0, none⟩ (by simp; omega) (Ne.symm hne)).trans (hfa _))
      all_goals
        have hpu := hr.pushed hown2 hgrow hat
        generalize w2.setCell ⟨b, 0, none⟩ (.slice (some ⟨gg, 0, none⟩) (M.length + 1) cap2) = w3 at *
        clear hx0 hxf hgrow hown2 hd0 hdf0 hfa hca hown1 hr
        go_wp2
        go_roundw
        case rel => exact ⟨i + 1, _, cap2, by omega, by go_num, by rw [HB.out]; exact hpu.1, hkr.trans hpu.2.1 (fun j hj e => ws_back hfr hj e), by rw [HB.out]; exact hfr.trans hpu.2.2 hkr.size⟩
        case measure => simp [intOf]; omega
    · have HI : Hid (i = k) := by show _ = _; omega
      have hge : (k : Int) ≤ (i : Int) := by omega
      clear hlt hik
      go_wp2
      go_ret
      have hMk : M = L ++ bN x k := by rw [HM.out, HI.out]
      rw [← hMk]
      exact ⟨rfl, _, ⟨a1, cap1, rfl, hr⟩, hkr, hfr⟩
end Go.Proofs.YtcifalelnfeggaaGreatDoor

namespace Go.Proofs.YtcifalelnfeggaaGreatDoor
open Go.RowKit
set_option linter.unusedVariables false

set_option maxRecDepth 100000 in
theorem rput_no (b : Nat) (x : Nat) (n : Int) (w : World) (hx : x < 18446744073709551616) (hn0 : -9223372036854775808 ≤ n) (hn1 : n ≤ 9223372036854775807) (he : errW x n ≠ 0) :
    Calls Tryz.prog 30 #[.pointer (some ⟨b, 0, none⟩), .int .u64 (x : Int), .int .i64 n] w fun e w' => e = .returned (.int .i64 (errW x n)) ∧ w' = w := by
  rcases errW_cases x n with ⟨h1, h2⟩ | ⟨k, rfl, hk, ⟨h1, h2⟩ | ⟨h1, h2⟩⟩
  · rw [h1]
    rcases h2 with h2 | h2
    · go_enter Tryz.func30, Tryz.ntmps30
      go_wp2
      go_ret
      exact ⟨rfl, rfl⟩
    · have h0 : 0 ≤ n := by omega
      go_enter Tryz.func30, Tryz.ntmps30
      go_wp2
      go_ret
      exact ⟨rfl, rfl⟩
  · exact absurd h1 he
  · rw [h1]
    have hs := shr_nat x k
    have hp := shr_ne h2
    generalize x / 2 ^ k = q at *
    clear h2 he h1
    have hq : 0 < (q : Int) := by omega
    go_enter Tryz.func30, Tryz.ntmps30
    go_wp2
    go_ret
    exact ⟨rfl, rfl⟩
theorem rev_take (x k i : Nat) (h : i < k) : (bN x k).reverse.take (k - i) = (bN x k).reverse.take (k - (i + 1)) ++ [x.testBit i] := by
  have hl : (bN x k).reverse.length = k := rev_len x k
  have hg := rev_get x k (k - (i + 1)) (by omega)
  rw [show k - 1 - (k - (i + 1)) = i by omega] at hg
  rw [List.getElem?_eq_some_iff] at hg
  obtain ⟨hx, hg⟩ := hg
  rw [show k - i = k - (i + 1) + 1 by omega, List.take_succ_eq_append_getElem hx, hg]

theorem rput_any (b B : Nat) (v : Value) (L : List Bool) (x : Nat) (n : Int) (w : World) (h : RwL w b B v L) (hx : x < 18446744073709551616) (hn0 : -9223372036854775808 ≤ n) (hn1 : n ≤ 9223372036854775807) (hl : L.length ≤ 140737488355264) :
    Calls Tryz.prog 30 #[.pointer (some ⟨b, 0, none⟩), .int .u64 (x : Int), .int .i64 n] w fun e w' => e = .returned (.int .i64 (errW x n)) ∧ ∃ v', RwL w' b B v' (putL L x n) ∧ Kp (WS b v) w w' ∧ Fresh w v v' := by
  by_cases he : errW x n = 0
  · rcases errW_cases x n with ⟨h1, h2⟩ | ⟨k, rfl, hk, ⟨h1, h2⟩ | ⟨h1, h2⟩⟩
    · omega
    · refine (rput_ok b B v L x k w h h2 hk hl).mono ?_
      rintro e w' ⟨rfl, v', h1', h2', h3'⟩
      unfold putL
      rw [he, if_pos rfl]
      exact ⟨rfl, v', by simpa using h1', h2', h3'⟩
    · omega
  · refine (rput_no b x n w hx hn0 hn1 he).mono ?_
    rintro e w' ⟨rfl, rfl⟩
    unfold putL
    rw [if_neg he]
    exact ⟨rfl, v, h, Kp.refl _ _, fun k e => .inl e⟩
end Go.Proofs.YtcifalelnfeggaaGreatDoor

namespace Go.Proofs.YtcifalelnfeggaaGreatDoor
open Go.RowKit
set_option linter.unusedVariables false

set_option maxRecDepth 100000 in
set_option maxHeartbeats 1000000 in
theorem rwalign_any (b B : Nat) (v : Value) (L : List Bool) (w : World) (h : RwL w b B v L) (hl : L.length ≤ 140737488355264) :
    Calls Tryz.prog 58 #[.pointer (some ⟨b, 0, none⟩)] w fun e w' => e = .returned (.int .i64 (padN L.length)) ∧ ∃ v', RwL w' b B v' (alignL L) ∧ Kp (WS b v) w w' ∧ Fresh w v v' := by
  obtain ⟨i0, hi, hz0, hz1, hz2⟩ := info_parts info_b1
  obtain ⟨a, cap, rfl, h⟩ := h
  have hpd : padN L.length = (8 - L.length % 8) % 8 := rfl
  have HA : Hid (alignL L = L ++ List.replicate (padN L.length) false) := rfl
  generalize padN L.length = p at *
  have HP : Hid (p = (8 - L.length % 8) % 8) := hpd
  clear hpd
  go_enter Tryz.func58, Tryz.ntmps58
  go_wp2
  go_loopw [3] (fun ti wr => ∃ (j : Nat) (a1 : Option Addr) (cap1 : Nat), j ≤ p ∧ ti = .int .i64 (j : Int) ∧ RB wr b B 67 [] a1 cap1 (L ++ List.replicate j false) ∧ Kp (WS b (.slice a L.length cap)) w wr ∧ Fresh w (.slice a L.length cap) (.slice a1 (L ++ List.replicate j false).length cap1)) (fun ti _ => p - (intOf ti).toNat)
  case atStart => exact ⟨0, a, cap, Nat.zero_le _, rfl, by simpa using h, Kp.refl _ _, by simpa using Fresh.refl w (.slice a L.length cap)⟩
  case round =>
    obtain ⟨j, a1, cap1, hjp, rfl, hr, hkr, hfr⟩ := hrel
    have hlen : (L ++ List.replicate j false).length = L.length + j := by simp
    have hp8 : p ≤ 7 := by have := HP.out; omega
    have hlt1 : (L ++ List.replicate j false).length + 1 ≤ 140737488355328 := by omega
    have HB : Hid (L ++ List.replicate (j + 1) false = (L ++ List.replicate j false) ++ [false]) := by show _ = _; rw [List.replicate_succ', List.append_assoc]
    obtain ⟨M, hM⟩ : ∃ M, M = L ++ List.replicate j false := ⟨_, rfl⟩
    have HM : Hid (M = L ++ List.replicate j false) := hM
    rw [← hM] at hr hfr hlt1 HB hlen
    have hd0 := hr.cell0
    have hdf0 := hr.free 0
    have hltr := hr.b_lt
    have hown1 := hr.own
    have hbase := hr.bB
    have hne := hr.ne
    by_cases hlt : j < p
    · have hm : ((M.length : Int) % 8 != 0) = true := by
        have := HP.out
        rw [bne_iff_ne]; omega
      clear hM hlen
      go_wp2_with (at_builtin; refine wpList_app1 rfl _ _ 65 rfl B 4 i0 (.bool false) 1 Tryz.underlying65 hi hz0 hz1 hz2 rfl wr (.bool false) rfl hown1 rfl rfl (by omega) (by omega) hbase ?_; intro g2 c2 w2 hown2 hg2 hfr2; have hpu := hr.pushed1 hown2 hg2 hfr2; have hx0 := (hg2.cell_far ⟨b, 0, none⟩ hltr (Ne.symm hne)).trans hd0; have hxf := (hg2.frozen_far ⟨b, 0, none⟩ hltr (Ne.symm hne)).trans hdf0)
      go_roundw
      case rel => exact ⟨j + 1, _, c2, by omega, by go_num, by rw [HB.out]; exact hpu.1, hkr.trans hpu.2.1 (fun j hj e => ws_back hfr hj e), by rw [HB.out]; exact hfr.trans hpu.2.2 hkr.size⟩
      case measure => simp [intOf]; omega
    · have hm : (M.length : Int) % 8 = 0 := by
        have := HP.out
        omega
      have HJ : Hid (j = p) := by show _ = _; omega
      clear hM hlen hlt hjp
      go_wp2
      go_ret
      have hMp : M = alignL L := by rw [HM.out, HA.out, HJ.out]
      rw [← hMp, ← HJ.out]
      exact ⟨rfl, _, ⟨a1, cap1, rfl, hr⟩, hkr, hfr⟩

theorem RwL.far {w : World} {b B N : Nat} {v : Value} {L : List Bool} (h : RwL w b B v L) (h1 : N ≤ b) (h2 : N ≤ B) {g : Nat} (hg : g < N) : ¬ WS b v g := by
  rintro (e | e)
  · omega
  · have := (h.own_lt g e).1; omega
theorem RwL.below {w w' : World} {b B N : Nat} {v : Value} {L : List Bool} (h : RwL w b B v L) (hk : Kp (WS b v) w w') (h1 : N ≤ b) (h2 : N ≤ B) : Below N w w' :=
  hk.below (fun i e => by
    rcases e with e | e
    · omega
    · have := (h.own_lt i e).1; omega) (by have := h.b_lt; omega)

set_option maxRecDepth 100000 in
set_option maxHeartbeats 1000000 in
theorem rwhole_any (b B : Nat) (v : Value) (L : List Bool) (pa : Option Addr) (p : List Int) (pc : Nat) (w : World) (h : RwL w b B v L) (hs : Seg w pa p) (hfar : ∀ g off, pa = some ⟨g, off, none⟩ → 0 < p.length → g < b ∧ g < B)
    (hl : L.length + 8 * p.length ≤ 140737488355200) :
    Calls Tryz.prog 59 #[.pointer (some ⟨b, 0, none⟩), .slice pa p.length pc] w fun e w' => e = .returned (.tuple #[]) ∧ ∃ v', RwL w' b B v' (alignL L ++ bB p) ∧ Kp (WS b v) w w' ∧ Fresh w v v' := by
  have C := rwalign_any b B v L w h (by omega)
  have hlA := alignL_len L
  have hpad : padN L.length < 8 := by unfold padN; omega
  have hAl : (alignL L).length ≤ L.length + 7 := by omega
  have far : ∀ {W : World} {v : Value} {L : List Bool}, RwL W b B v L → ∀ g off, pa = some ⟨g, off, none⟩ → 0 < p.length → ¬ WS b v g := by
    intro W v L hW g off e hp
    have hg := hfar g off e hp
    rintro (e2 | e2)
    · omega
    · have := (hW.own_lt g e2).1; omega
  have HF : Hid (∀ {W : World} {v : Value} {L : List Bool}, RwL W b B v L → ∀ g off, pa = some ⟨g, off, none⟩ → 0 < p.length → ¬ WS b v g) := far
  clear hlA far hfar
  generalize alignL L = A at *
  go_enter Tryz.func59, Tryz.ntmps59
  go_wp2_with fail
  refine C.mono ?_
  rintro e w1 ⟨rfl, v1, g1, k1, f1⟩
  have s1 : Seg w1 pa p := hs.kp k1 (HF.out h)
  clear C
  go_wp2
  go_loopw [10] (fun ti wr => ∃ (i : Nat) (v5 : Value), i ≤ p.length ∧ ti = .int .i64 (i : Int) ∧ RwL wr b B v5 (A ++ bB (p.take i)) ∧ Seg wr pa p ∧ Kp (WS b v) w wr ∧ Fresh w v v5) (fun ti _ => p.length - (intOf ti).toNat)
  case atStart => exact ⟨0, v1, Nat.zero_le _, rfl, by simpa [bB] using g1, s1, k1, f1⟩
  case round =>
    obtain ⟨i, v5, hi, rfl, q2, qs, qk, qf⟩ := hrel
    clear g1 s1 k1 f1
    by_cases hlt : i < p.length
    · have hlt2 : (i : Int) < (p.length : Int) := by omega
      have s2 := qs
      obtain ⟨g, off, rfl, hcell⟩ := qs.at_ i hlt
      have hz := qs.bd i
      have HT : Hid (bB (p.take (i + 1)) = bB (p.take i) ++ bN (p.getD i 0).toNat 8) := by
        show _ = _
        rw [List.take_succ_eq_append_getElem hlt, bB_append, bB_one]
        simp [List.getD, hlt]
      have hlen : (A ++ bB (p.take i)).length = A.length + 8 * i := by rw [List.length_append, bB_len, List.length_take]; omega
      have C := rput_ok b B v5 (A ++ bB (p.take i)) (p.getD i 0).toNat 8 wr q2 (by omega) (by decide) (by omega)
      rw [Int.toNat_of_nonneg hz.1] at C
      clear hlen
      generalize p.getD i 0 = z at *
      go_wp2_with fail
      refine C.mono ?_
      rintro e wD ⟨rfl, v6, g6, k6, f6⟩
      have sD := s2.kp k6 (HF.out q2)
      go_wp2
      go_roundw
      case rel => exact ⟨i + 1, v6, by omega, by go_num, by rw [HT.out, ← List.append_assoc]; exact g6, sD, qk.trans k6 (fun j hj e => ws_back qf hj e), qf.trans f6 qk.size⟩
      case measure => simp [intOf]; omega
    · have HI : Hid (i = p.length) := by show _ = _; omega
      have hge : (p.length : Int) ≤ (i : Int) := by omega
      clear hlt hi
      go_wp2
      go_end0
      rw [HI.out, List.take_length] at q2
      exact ⟨rfl, v5, q2, qk, qf⟩

/-! The bits as bytes, one bit after the other. -/
def accB (L : List Bool) (i : Nat) : List Int := (List.range ((L.length + 7) / 8)).map fun j => (num (((L.take i).drop (8 * j)).take 8) : Int)
theorem accB_len (L : List Bool) (i : Nat) : (accB L i).length = (L.length + 7) / 8 := by simp [accB]
theorem accB_get (L : List Bool) (i j : Nat) (h : j < (L.length + 7) / 8) : (accB L i)[j]? = some (num (((L.take i).drop (8 * j)).take 8) : Int) := by simp [accB, h]
theorem accB_end (L : List Bool) : accB L L.length = toB L := by
  apply List.ext_getElem?
  intro j
  by_cases h : j < (L.length + 7) / 8
  · rw [accB_get _ _ _ h, toB_get _ _ (by rw [toB_len]; exact h), List.take_length]
  · rw [List.getElem?_eq_none (by rw [accB_len]; omega), List.getElem?_eq_none (by rw [toB_len]; omega)]
theorem accB_zero (L : List Bool) : accB L 0 = List.replicate ((L.length + 7) / 8) 0 := by
  apply List.ext_getElem?
  intro j
  by_cases h : j < (L.length + 7) / 8
  · rw [accB_get _ _ _ h]
    simp [num, h]
  · rw [List.getElem?_eq_none (by rw [accB_len]; omega), List.getElem?_eq_none (by simp; omega)]
theorem accB_bd (L : List Bool) (i : Nat) : ∀ z ∈ accB L i, 0 ≤ z ∧ z ≤ 255 := by
  intro z hz
  simp only [accB, List.mem_map] at hz
  obtain ⟨j, _, rfl⟩ := hz
  have h1 := num_lt (((L.take i).drop (8 * j)).take 8)
  have h2 : (2 : Nat) ^ (((L.take i).drop (8 * j)).take 8).length ≤ 2 ^ 8 := Nat.pow_le_pow_right (by decide) (by simp; omega)
  omega
theorem piece_same (L : List Bool) (i j : Nat) (hi : i < L.length) (hj : j ≠ i / 8) : ((L.take (i + 1)).drop (8 * j)).take 8 = ((L.take i).drop (8 * j)).take 8 := by
  rw [List.take_succ_eq_append_getElem hi]
  by_cases h : 8 * j ≤ i
  · have h8 : 8 * j + 8 ≤ i := by omega
    rw [List.drop_append_of_le_length (by simp; omega), List.take_append_of_le_length (by simp; omega)]
  · rw [List.drop_of_length_le (by simp; omega), List.drop_of_length_le (by simp; omega)]
theorem piece_next (L : List Bool) (i : Nat) (hi : i < L.length) : num (((L.take (i + 1)).drop (8 * (i / 8))).take 8) = num (((L.take i).drop (8 * (i / 8))).take 8) + 2 ^ (i % 8) * (L[i]).toNat ∧ (((L.take i).drop (8 * (i / 8))).take 8).length = i % 8 := by
  have hl : (((L.take i).drop (8 * (i / 8))).take 8).length = i % 8 := by simp; omega
  refine ⟨?_, hl⟩
  rw [List.take_succ_eq_append_getElem hi, List.drop_append_of_le_length (by simp; omega)]
  rw [List.take_of_length_le (by simp; omega), ← List.take_of_length_le (l := (L.take i).drop (8 * (i / 8))) (i := 8) (by simp; omega), num_snoc, hl, List.take_take, Nat.min_self]
theorem accB_next (L : List Bool) (i : Nat) (hi : i < L.length) (z : Int) (hz : z = (num (((L.take i).drop (8 * (i / 8))).take 8) : Int)) : accB L (i + 1) = (accB L i).set (i / 8) (z + ((2 ^ (i % 8) * (L[i]).toNat : Nat) : Int)) := by
  apply List.ext_getElem?
  intro j
  by_cases h : j < (L.length + 7) / 8
  · rw [accB_get _ _ _ h]
    by_cases hj : j = i / 8
    · subst hj
      rw [List.getElem?_set_self (by rw [accB_len]; exact h), (piece_next L i hi).1, hz]
      simp
    · rw [List.getElem?_set_ne (by omega), accB_get _ _ _ h, piece_same L i j hi hj]
  · rw [List.getElem?_eq_none (by rw [accB_len]; omega), List.getElem?_eq_none (by rw [List.length_set, accB_len]; omega)]
theorem accB_same (L : List Bool) (i : Nat) (hi : i < L.length) (hb : L[i] = false) : accB L (i + 1) = accB L i := by
  apply List.ext_getElem?
  intro j
  by_cases h : j < (L.length + 7) / 8
  · rw [accB_get _ _ _ h, accB_get _ _ _ h]
    by_cases hj : j = i / 8
    · subst hj
      rw [(piece_next L i hi).1, hb]
      simp
    · rw [piece_same L i j hi hj]
  · rw [List.getElem?_eq_none (by rw [accB_len]; omega), List.getElem?_eq_none (by rw [accB_len]; omega)]
theorem add_bit8 {z r : Nat} (hz : z < 2 ^ r) (hr : r < 8) : IntKind.u8.wrap ((z : Int) + IntKind.u8.wrap (2 ^ r)) = ((z + 2 ^ r : Nat) : Int) ∧ ((z : Int) + 2 ^ r) % 256 = ((z + 2 ^ r : Nat) : Int) := by
  have h1 : 2 ^ r ≤ 2 ^ 7 := Nat.pow_le_pow_right (by decide) (by omega)
  rw [show (2 : Int) ^ r = ((2 ^ r : Nat) : Int) by simp]
  generalize 2 ^ r = p at *
  rw [IntKind.wrap_u8, IntKind.wrap_u8]
  constructor <;> omega

theorem info_u8y : (Tryz.prog.info? 5).map (fun i => (i.zero, i.size, i.bytes)) = some (some (.int .u8 0), 1, 1) := by kernel_rfl
theorem made_noughts (n : Nat) : madeCells #[.int .u8 0] n = ((List.replicate n (0 : Int)).map (Value.int .u8)).toArray := by
  apply Array.toList_inj.1
  rw [toList_madeCells_one]
  simp
theorem run_make_noughts (n : Nat) (h : n ≤ 140737488355328) (w : World) :
    (Instr.makeSlice 59 (.int .i64 (n : Int)) (.int .i64 (n : Int))).run Tryz.prog w = .ok (.slice (some ⟨w.heap.size, 0, none⟩) n n) (w.alloc (.cells ((List.replicate n (0 : Int)).map (Value.int .u8)).toArray 5)) := by
  rw [← made_noughts]
  exact run_make_row' 59 5 (.int .u8 0) 1 Tryz.underlying59 info_u8y rfl .i64 .i64 n (by omega) (by omega) w
theorem made_row (w : World) (zs : List Int) (e : TypeId) (h : zs.length ≤ 140737488355328) : (w.alloc (.cells (zs.map (Value.int .u8)).toArray e)).ownsRow w.heap.size e 1 (.slice (some ⟨w.heap.size, 0, none⟩) zs.length zs.length) zs.length (zs.map (Value.int .u8)) := by
  refine ⟨by simp, .inr ⟨w.heap.size, zs.length, (zs.map (Value.int .u8)).toArray, rfl, Nat.le_refl _, heap_alloc_new w _, Nat.le_refl _, ?_, by simp, ?_⟩⟩
  · unfold maxLen
    omega
  · simp only [Nat.mul_one]
    exact List.take_of_length_le (by simp)

set_option maxRecDepth 100000 in
set_option maxHeartbeats 2000000 in
theorem rbytes_any (b B : Nat) (v : Value) (L : List Bool) (w : World) (h : RwL w b B v L) (hl : L.length ≤ 140737488355264) :
    Calls Tryz.prog 40 #[.pointer (some ⟨b, 0, none⟩)] w fun e w' => ∃ a' c', e = .returned (.slice a' (toB L).length c') ∧ w'.ownsRow w.heap.size 5 1 (.slice a' (toB L).length c') (toB L).length ((toB L).map (Value.int .u8)) ∧ Below w.heap.size w w' := by
  obtain ⟨a, cap, rfl, h⟩ := h
  have hn : ((L.length : Int) + 7) / 8 = (((L.length + 7) / 8 : Nat) : Int) := by omega
  obtain ⟨n, hnn⟩ : ∃ n, n = (L.length + 7) / 8 := ⟨_, rfl⟩
  rw [← hnn] at hn
  have hmk := run_make_noughts n (by omega) w
  have hown0 := made_row w (List.replicate n (0 : Int)) 5 (by simp; omega)
  have hacc : accB L 0 = List.replicate n 0 := by rw [accB_zero, ← hnn]
  rw [List.length_replicate, ← hacc] at hown0
  rw [← hacc] at hmk
  have hc0 := h.cell0
  have hlt := h.b_lt
  have HG : Hid (b < w.heap.size) := hlt
  have hB0 : Below w.heap.size w (w.alloc (.cells ((accB L 0).map (Value.int .u8)).toArray 5)) := (Below.refl _ _).alloc (Nat.le_refl _) _
  have hsB := h.seg
  have HNN : Hid (n = (L.length + 7) / 8) := hnn
  have hnle : n ≤ 140737488355328 := by omega
  have hc1 : ∀ o, (w.alloc o).cell? ⟨b, 0, none⟩ = some (.slice a L.length cap) := fun o => (((Below.refl w.heap.size w).alloc (Nat.le_refl _) o).cell (p := ⟨b, 0, none⟩) hlt).trans hc0
  have hacc0 : Hid (accB L 0 = List.replicate n 0) := hacc
  clear hnn hacc
  generalize hA0 : accB L 0 = A0 at *
  have HA0 : Hid (accB L 0 = A0) := hA0
  clear hA0
  go_enter Tryz.func40, Tryz.ntmps40
  go_wp2
  clear hmk hc1 hn
  generalize hg : w.heap.size = g at *
  generalize w.alloc (.cells (A0.map (Value.int .u8)).toArray 5) = w0 at *
  go_loopw [19] (fun ti wr => ∃ i : Nat, i ≤ L.length ∧ ti = .int .i64 (i : Int) ∧ wr.ownsRow g 5 1 (.slice (some ⟨g, 0, none⟩) n n) n ((accB L i).map (Value.int .u8)) ∧ Below g w wr) (fun ti _ => L.length - (intOf ti).toNat)
  case atStart => exact ⟨0, Nat.zero_le _, rfl, by rw [HA0.out]; exact hown0, hB0⟩
  case round =>
    obtain ⟨i, hi, rfl, hown, hT⟩ := hrel
    by_cases hlt2 : i < L.length
    · have hltI : (i : Int) < (L.length : Int) := by omega
      have hsr : SegB wr a L := hsB.old (by rw [hg]; exact hT)
      obtain ⟨sb, so, rfl, hcell⟩ := hsr.at_ i hlt2
      have hgd : L.getD i false = L[i] := by simp [List.getD, hlt2]
      rw [hgd] at hcell
      have hpn := piece_next L i hlt2
      have hnx := accB_next L i hlt2 _ rfl
      have hpl := num_lt (((L.take i).drop (8 * (i / 8))).take 8)
      rw [hpn.2] at hpl
      have hq8 : i / 8 < n := by have := HNN.out; omega
      have hag := accB_get L i (i / 8) (by have := HNN.out; omega)
      obtain ⟨hlo, hce⟩ : wr.frozen? ⟨g, i / 8, none⟩ = false ∧ wr.cell? ⟨g, i / 8, none⟩ = some (.int .u8 (num (((L.take i).drop (8 * (i / 8))).take 8) : Int)) := by
        constructor
        · rcases hown.2 with ⟨e0, _⟩ | ⟨g', cp, cur, e0, _, hh, _⟩
          · cases e0
          · cases e0
            simp [World.frozen?, hh]
        · have := hown.cells (g := g) rfl (i / 8) (.int .u8 (num (((L.take i).drop (8 * (i / 8))).take 8) : Int)) (by rw [List.getElem?_map, hag]; rfl)
          have hadd : (⟨g, 0, none⟩ : Addr).add (i / 8) = ⟨g, i / 8, none⟩ := by unfold Addr.add; split <;> simp_all
          rw [hadd] at this
          exact this
      have hst := hown.stored (i / 8) (.int .u8 (((num (((L.take i).drop (8 * (i / 8))).take 8) + 2 ^ (i % 8) : Nat)) : Int))
      have HAD : Hid (((num (((L.take i).drop (8 * (i / 8))).take 8) : Int) + 2 ^ (i % 8)) % 256 = ((num (((L.take i).drop (8 * (i / 8))).take 8) + 2 ^ (i % 8) : Nat) : Int)) := (add_bit8 hpl (Nat.mod_lt _ (by decide))).2
      have hqI : (i : Int) / 8 = ((i / 8 : Nat) : Int) := by omega
      have hrI : (i : Int) % 8 = ((i % 8 : Nat) : Int) := by omega
      have hr8 : i % 8 < 8 := Nat.mod_lt _ (by decide)
      have hz8 : num (((L.take i).drop (8 * (i / 8))).take 8) < 256 := by
        have : 2 ^ (i % 8) ≤ 2 ^ 8 := Nat.pow_le_pow_right (by decide) (by omega)
        omega
      have HNX : Hid (accB L (i + 1) = (accB L i).set (i / 8) ((num (((L.take i).drop (8 * (i / 8))).take 8) : Int) + ((2 ^ (i % 8) * (L[i]).toNat : Nat) : Int))) := hnx
      have HSM : Hid (L[i] = false → accB L (i + 1) = accB L i) := accB_same L i hlt2
      clear hag hsr hpn hnx hpl hgd
      generalize num (((L.take i).drop (8 * (i / 8))).take 8) = z at *
      generalize i / 8 = q at *
      generalize i % 8 = r at *
      cases hb : L[i]
      · rw [hb] at hcell
        have HSM2 : Hid (accB L (i + 1) = accB L i) := HSM.out hb
        clear hb HNX HSM hst
        go_wp2
        go_roundw
        case rel => exact ⟨i + 1, by omega, by go_num, by rw [HSM2.out]; exact hown, hT⟩
        case measure => simp [intOf]; omega
      · rw [hb] at hcell HNX
        clear hb HSM
        go_wp2
        go_region
        rw [HAD.out]
        have hT2 : Below g w ((wr.setCell ⟨g, q, none⟩ (.int .u8 ((z + 2 ^ r : Nat) : Int))).drew) := (hT.trans ((Below.refl _ _).grown hst.2 (by rw [← hg]; exact hT.size) (by intro k e; cases e; exact Nat.le_refl _))).drew
        have ho2 : ((wr.setCell ⟨g, q, none⟩ (.int .u8 ((z + 2 ^ r : Nat) : Int))).drew).ownsRow g 5 1 (.slice (some ⟨g, 0, none⟩) n n) n ((accB L (i + 1)).map (Value.int .u8)) := by
          rw [HNX.out, List.map_set]
          have := (hst.1).drew
          simpa using this
        generalize (wr.setCell ⟨g, q, none⟩ (.int .u8 ((z + 2 ^ r : Nat) : Int))).drew = w3 at *
        clear hst hce hlo hcell
        go_wp2
        go_roundw
        case rel => exact ⟨i + 1, by omega, by go_num, ho2, hT2⟩
        case measure => simp [intOf]; omega
    · have HI : Hid (i = L.length) := by show _ = _; omega
      have hge : (L.length : Int) ≤ (i : Int) := by omega
      clear hlt2 hi
      go_wp2
      go_ret
      have hTL : (toB L).length = n := by rw [toB_len, HNN.out]
      rw [HI.out, accB_end] at hown
      rw [hTL]
      subst hg
      exact ⟨_, n, rfl, hown, hT⟩
end Go.Proofs.YtcifalelnfeggaaGreatDoor

namespace Go.Proofs.YtcifalelnfeggaaGreatDoor
open Go.RowKit
set_option linter.unusedVariables false

/-- Bits that lie somewhere, behind a row. -/
theorem wpList_appB {P : Program} {ops : Array Oper} {rest : List Oper} {o : Oper} {a : Act} {Q : Exit → Act → World → Prop} (hgd : o.guard = none) (s x : Operand) (t : TypeId)
    (ho : o.op = .call { callee := .builtin .append, args := #[s, x], argTypes := #[t, t] })
    (base : Nat) (e : TypeId) (i : TypeInfo) (z : Value) (bytes : Nat) (ht : P.underlying t = some (.slice e)) (hi : P.info? e = some i) (hz : i.zero = some z)
    (hsize : i.size = 1) (hby : i.bytes = bytes) (hzs : z.cells.size = 1)
    {w : World} {ra : Option Addr} {rc : Nat} {n : Nat} {xs : List Value} (hown : w.ownsRow base e 1 (.slice ra n rc) n xs) {ao : Option Addr} {zs : List Bool} {cap : Nat} (hseg : SegB w ao zs) (hnil : ao = none → cap = 0)
    (hs : a.eval s = .slice ra n rc) (hx : a.eval x = .slice ao zs.length cap)
    (h63 : n + zs.length ≤ 140737488355328) (hbytes : (n + zs.length) * bytes ≤ 140737488355328) (hbase : base ≤ w.heap.size)
    (h : ∀ (b : Option Addr) (c : Nat) (w' : World), w'.ownsRow base e 1 (.slice b (n + zs.length) c) (n + zs.length) (xs ++ zs.map Value.bool) → w.grownBy w' (Value.slice ra n rc).ownBlock → Fresh w (.slice ra n rc) (.slice b (n + zs.length) c) → wpList P ops Q rest (a.put o.dst (.slice b (n + zs.length) c)) w') : wpList P ops Q (o :: rest) a w := by
  cases ao with
  | none =>
    have hz : zs = [] := by
      cases zs with
      | nil => rfl
      | cons z r => obtain ⟨b, off, hx, _⟩ := hseg.at_ 0 (by simp); cases hx
    subst hz
    rw [hnil rfl] at hx
    refine wpList_append_own_none hgd s x t ho base e i 1 ht hi _ n xs hs hown hx ?_
    have := h ra rc w (by simpa using hown) (World.grownBy.refl _ _) (fun k hk => .inl hk)
    simpa using this
  | some ad =>
    exact wpList_app hgd s x t ho base e i z bytes ht hi hz hsize hby hzs hown (by simp) (segB_cells hseg) (bools_oneCell _) hs hx h63 hbytes hbase (fun b c w' h1 h2 h3 _ => h b c w' h1 h2 h3)
theorem RB.set1 {w : World} {b B : Nat} {T : TypeId} {x : Value} {a : Option Addr} {cap : Nat} {L : List Bool} (h : RB w b B T [x] a cap L) (u : Value) : RB (w.setCell ⟨b, 1, none⟩ u) b B T [u] a cap L ∧ Kp (fun j => j = b) w (w.setCell ⟨b, 1, none⟩ u) := by
  have hk : Kp (fun j => j = b) w (w.setCell ⟨b, 1, none⟩ u) := Kp.set (S := fun j => j = b) rfl _
  refine ⟨⟨?_, own_kp h.own hk (fun j e1 e2 => h.ne (e2 ▸ e1)), h.ne, Nat.le_trans h.bB hk.size⟩, hk⟩
  have hp : w.heap[b]? = some (.cells #[.slice a L.length cap, x] T (0, 0)) := h.hp
  exact two_set1 hp u
/-- A row that was made anew is laid into the first cell, and a number into the second. -/
theorem RB.renew {w w2 : World} {b B : Nat} {T : TypeId} {x : Value} {a a' : Option Addr} {cap cap' : Nat} {L M : List Bool} {o : Obj} (h : RB w b B T [x] a cap L) (u : Value)
    (hown : w2.ownsRow w.heap.size 4 1 (.slice a' (0 + M.length) cap') (0 + M.length) ([] ++ M.map Value.bool)) (hg : (w.alloc o).grownBy w2 (some w.heap.size)) (hf : Fresh (w.alloc o) (.slice (some ⟨w.heap.size, 0, none⟩) 0 0) (.slice a' (0 + M.length) cap')) :
    RB ((w2.setCell ⟨b, 0, none⟩ (.slice a' M.length cap')).setCell ⟨b, 1, none⟩ u) b B T [u] a' cap' M ∧ Kp (WS b (.slice a L.length cap)) w ((w2.setCell ⟨b, 0, none⟩ (.slice a' M.length cap')).setCell ⟨b, 1, none⟩ u) ∧ Fresh w (.slice a L.length cap) (.slice a' M.length cap') := by
  rw [Nat.zero_add] at hown hf
  have hk : Kp (fun k => (Value.slice a L.length cap).ownBlock = some k) w w2 := by
    have h1 : Kp (fun k => w.heap.size ≤ k) w w2 := (Kp.alloc w o).trans (Kp.grown (S := fun k => w.heap.size ≤ k) hg (by intro i e; cases e; exact Nat.le_refl _)) (fun _ _ e => e)
    exact h1.mono (fun i hi e => by omega)
  have hf2 : Fresh w (.slice a L.length cap) (.slice a' M.length cap') := by
    intro k e
    right
    rcases hf k e with e | e
    · cases e; exact Nat.le_refl _
    · simp at e; omega
  have hs := h.store hk (own_base (by simpa using hown) h.bB) hf2
  have h1 := hs.1.set1 u
  exact ⟨h1.1, hs.2.1.trans h1.2 (fun j _ e => .inl e), hf2⟩

end Go.Proofs.YtcifalelnfeggaaGreatDoor

namespace Go.Proofs.YtcifalelnfeggaaGreatDoor
open Go.RowKit
set_option linter.unusedVariables false

theorem seg_bool1 (w : World) (y : Bool) : SegB (w.alloc (.cells #[.bool y] 4)) (some ⟨w.heap.size, 0, none⟩) [y] := by
  refine ⟨fun i hi => ⟨w.heap.size, 0, rfl, ?_⟩⟩
  simp only [List.length_cons, List.length_nil] at hi
  match i, hi with
  | 0, _ => simp
theorem and_oneI (v : Nat) : bits .and .i64 (v : Int) 1 = ((v % 2 : Nat) : Int) := by
  have h1 : (BitVec.ofInt 64 1).toNat = 2 ^ 1 - 1 := by decide
  have key : (BitVec.ofInt 64 (v : Int) &&& BitVec.ofInt 64 1).toNat = ((v : Int) % ((2 ^ 64 : Nat) : Int)).toNat % 2 ^ 1 := by
    rw [BitVec.toNat_and, BitVec.toNat_ofInt, h1, Nat.and_two_pow_sub_one_eq_mod]
  show IntKind.i64.wrap ((BitVec.ofInt 64 (v : Int) &&& BitVec.ofInt 64 1).toNat : Nat) = ((v % 2 : Nat) : Int)
  rw [key, IntKind.wrap_i64]
  omega
set_option maxRecDepth 100000 in
set_option maxHeartbeats 1000000 in
theorem row5_any (x k : Nat) (w : World) (hx : x < 32768) (hk : k ≤ 15) :
    Calls Tryz.prog 112 #[.int .i64 (x : Int), .int .i64 (k : Int)] w fun e w' => ∃ a c, e = .returned (.slice a k c) ∧ w'.ownsRow w.heap.size 4 1 (.slice a k c) k ((bN x k).reverse.map Value.bool) ∧ Below w.heap.size w w' := by
  obtain ⟨i0, hi, hz0, hz1, hz2⟩ := info_parts info_b1
  go_enter Tryz.func112, Tryz.ntmps112
  go_wp2_with fail
  go_loopw [5, 6] (fun tl ti wr => ∃ (m : Nat) (a1 : Option Addr) (c1 : Nat), m ≤ k ∧ ti = .int .i64 ((m : Int) - 1) ∧ tl = .slice a1 (k - m) c1 ∧ wr.ownsRow w.heap.size 4 1 (.slice a1 (k - m) c1) (k - m) (((bN x k).reverse.take (k - m)).map Value.bool) ∧ Below w.heap.size w wr) (fun _ ti _ => (intOf ti + 1).toNat)
  case atStart => exact ⟨k, none, 0, Nat.le_refl _, rfl, by rw [Nat.sub_self], by rw [Nat.sub_self, List.take_zero]; exact World.ownsRow_nil _ _ _ _, Below.refl _ _⟩
  case round =>
    obtain ⟨m, a1, c1, hm, rfl, rfl, O1, B1⟩ := hrel
    by_cases hlt : 0 < m
    · obtain ⟨i, rfl⟩ : ∃ i, m = i + 1 := ⟨m - 1, by omega⟩
      have hbs := rev_take x k i (by omega)
      have him : (((i + 1 : Nat) : Int) - 1) = (i : Int) := by omega
      rw [him]
      have HK : Hid (k - (i + 1) + 1 = k - i) := by show _ = _; omega
      have HB : Hid (((bN x k).reverse.take (k - (i + 1))).map Value.bool ++ [x.testBit i].map Value.bool = ((bN x k).reverse.take (k - i)).map Value.bool) := by show _ = _; rw [hbs, List.map_append]
      have hq := shr_nat x i
      have ha := and_oneI (x / 2 ^ i)
      have hb := bit_eq x i
      have hq0 : x / 2 ^ i < 32768 := Nat.lt_of_le_of_lt (Nat.div_le_self _ _) hx
      have hkm : k - (i + 1) ≤ 15 := by omega
      have hi15 : i ≤ 15 := by omega
      have hsz := B1.size
      clear him hbs
      generalize hqq : x / 2 ^ i = q at *
      clear hqq
      have hb2 : q % 2 < 2 := by omega
      generalize q % 2 = bb at *
      generalize x.testBit i = y at *
      generalize k - (i + 1) = r at *
      go_wp2_with (first
        | (at_builtin; refine wpList_appB rfl (.tmp 13) (.tmp 19) 65 rfl w.heap.size 4 i0 (.bool false) 1 Tryz.underlying65 hi hz0 hz1 hz2 rfl (O1.alloc _) (seg_bool1 wr y) (by intro h; cases h) rfl rfl (by simp; omega) (by simp; omega) (by simp; omega) ?_; intro a2 c2 w2 hown2 hg2 hf2; clear hf2))
      have B2 : Below w.heap.size w w2 := (B1.alloc hsz _).trans (below_own (O1.alloc _) hg2 (by simp; omega))
      rw [HB.out, show r + [y].length = k - i from HK.out] at hown2
      refine ⟨⟨i, a2, c2, by omega, rfl, by rw [← HK.out], hown2, B2⟩, ?_⟩
      show (((i : Int) - 1) + 1).toNat < ((i : Int) + 1).toNat
      omega
    · obtain rfl : m = 0 := by omega
      go_wp2_with fail
      go_ret
      rw [Nat.sub_zero, List.take_of_length_le (by rw [rev_len]; omega)] at O1
      exact ⟨a1, c1, by rw [Nat.sub_zero]; rfl, O1, B1⟩

theorem costV_in {zs : List Int} {k : Nat} (hk : k < zs.length) : costV zs k = zs.getD k 0 := by
  unfold costV
  rw [if_pos ⟨by omega, by omega⟩, Int.toNat_natCast]
theorem putB_in {zs : List Int} (h : errC zs = 0) {k : Nat} (hk : k < zs.length) : putB zs k = (bN (cd zs k) (ln zs k)).reverse := by
  have hL := (errS_zero (errC_zero h).1)
  have HLN := hL.2.ln k
  unfold putB
  rw [costV_in hk, HLN.1, Int.toNat_natCast]
  by_cases hz : ln zs k = 0
  · rw [if_pos (by omega), hz]; rfl
  · rw [if_neg (by omega)]; rfl
theorem putB_out {zs : List Int} {s : Int} (h : s < 0 ∨ (zs.length : Int) ≤ s) : putB zs s = [] := by
  have h0 : costV zs s = 0 := by unfold costV; rw [if_neg (by omega)]
  unfold putB
  rw [if_pos h0]
theorem putB_cost {zs : List Int} (h : errC zs = 0) (s : Int) : costV zs s = ((putB zs s).length : Int) := by
  by_cases hs : 0 ≤ s ∧ s < zs.length
  · obtain ⟨k, rfl⟩ : ∃ k : Nat, s = k := ⟨s.toNat, by omega⟩
    rw [putB_in h (by omega), rev_len]
    unfold costV
    rw [if_pos hs, Int.toNat_natCast]
    exact ((errS_zero (errC_zero h).1).2.ln k).1
  · rw [putB_out (by omega)]
    unfold costV
    rw [if_neg hs]
    rfl
theorem putB_err {zs : List Int} (h : errC zs = 0) (s : Int) : errP zs s = if (putB zs s).length = 0 then 53 else 0 := by
  unfold errP
  rw [putB_cost h]
  by_cases hz : (putB zs s).length = 0
  · rw [if_pos (by omega), if_pos hz]
  · rw [if_neg (by omega), if_neg hz]
theorem putB_le {zs : List Int} (h : errC zs = 0) (s : Int) : (putB zs s).length ≤ 15 := by
  by_cases hs : 0 ≤ s ∧ s < zs.length
  · obtain ⟨k, rfl⟩ : ∃ k : Nat, s = k := ⟨s.toNat, by omega⟩
    rw [putB_in h (by omega), rev_len]
    exact ((errS_zero (errC_zero h).1).2.ln k).2
  · rw [putB_out (by omega)]
    simp

set_option maxRecDepth 100000 in
set_option maxHeartbeats 1000000 in
theorem bits5_any (a : Option Addr) (zs : List Int) (n cap : Nat) (hn : Hid (zs.length = n)) (s : Int) (w : World) (hs : SegZ w a zs) (hok : errC zs = 0) (hs0 : -9223372036854775808 ≤ s) (hs1 : s ≤ 9223372036854775807) :
    Calls Tryz.prog 83 #[.slice a n cap, .int .i64 s] w fun e w' => ∃ b c, e = .returned (.slice b (putB zs s).length c) ∧ w'.ownsRow w.heap.size 4 1 (.slice b (putB zs s).length c) (putB zs s).length ((putB zs s).map Value.bool) ∧ Below w.heap.size w w' := by
  have HL := errS_zero (errC_zero hok).1
  have hn288 : n ≤ 288 := by have := hn.out; have := HL.1; omega
  have HC := rcodes_any a zs n cap hn w hs (by omega)
  have e1 : Hid (cdsR zs = cds zs) := by show _ = _; unfold cdsR; rw [if_pos hok]
  have e3 : Hid ((cds zs).length = n) := by show _ = _; rw [cds_len]; exact hn.out
  have HOK : Hid (errC zs = 0) := hok
  by_cases hin : 0 ≤ s ∧ s < n
  · obtain ⟨k, rfl⟩ : ∃ k : Nat, s = k := ⟨s.toNat, by omega⟩
    have hk : k < zs.length := by have := hn.out; omega
    have HP : Hid (putB zs k = (bN (cd zs k) (ln zs k)).reverse) := putB_in hok hk
    have HSM := cd_small hok hk
    have HLN := (HL.2.ln k).1
    have HCB := cds_bd hok
    obtain ⟨g, off, rfl, c0⟩ := hs.at_ k hk
    rw [HLN] at c0
    have hki : (k : Int) < (n : Int) := by omega
    have hin2 : ¬ (n : Int) ≤ (k : Int) := by omega
    have hg : g < w.heap.size := World.block_lt_of_cell? w _ c0
    clear hok HL hin HLN
    rw [HP.out, rev_len]
    go_enter Tryz.func83, Tryz.ntmps83
    go_wp2_with fail
    refine HC.mono ?_
    rintro e w1 ⟨b1, c1, rfl, O1, B1⟩
    rw [e1.out, e3.out] at O1
    rw [e1.out, e3.out, HOK.out]
    have Z1 := own_segZ O1 HCB
    obtain ⟨g1, off1, rfl, d0⟩ := Z1.at_ k (by rw [e3.out]; omega)
    rw [cds_get zs hk] at d0
    have c0 := (B1.cell (p := ⟨g, off + k, none⟩) hg).trans c0
    have R := row5_any (cd zs k) (ln zs k)
    have hcs := HSM.2.2
    have hl15 := HSM.2.1
    clear O1 Z1 HSM
    have hgA : g < w1.heap.size := World.block_lt_of_cell? w1 _ c0
    have hgB : g1 < w1.heap.size := World.block_lt_of_cell? w1 _ d0
    go_wp2_with fail
    go_region_held3 (fun w' => w'.cell? ⟨g, off + k, none⟩ = some (.int .i64 (ln zs k : Int)) ∧ w'.cell? ⟨g1, off1 + k, none⟩ = some (.int .i64 (cd zs k : Int))) (first | go_keep | exact ⟨cA, cB⟩)
      (first | (go_at_call 112; refine (R _ hcs hl15).mono ?_; rintro e w2 ⟨a2, c2, rfl, O2, B2⟩; have cA := (B2.cell (p := ⟨g, off + k, none⟩) hgA).trans c0; have cB := (B2.cell (p := ⟨g1, off1 + k, none⟩) hgB).trans d0))
    all_goals
      go_wp2
      go_ret
      exact ⟨a2, c2, rfl, own_base O2 B1.size, B1.drew.trans (B2.mono B1.size)⟩
  · have HP : Hid (putB zs s = []) := putB_out (by have := hn.out; omega)
    have hcs : s < 0 ∨ ¬ s < 0 ∧ (n : Int) ≤ s := by omega
    clear HL hin hok
    rw [HP.out]
    rcases hcs with h1 | ⟨h1, h2⟩
    all_goals
      go_enter Tryz.func83, Tryz.ntmps83
      go_wp2_with fail
      refine HC.mono ?_
      rintro e w1 ⟨b1, c1, rfl, O1, B1⟩
      rw [e1.out, e3.out, HOK.out]
      clear O1
      go_wp2_with fail
      go_ret
      exact ⟨none, 0, rfl, World.ownsRow_nil _ _ _ _, B1⟩
set_option maxRecDepth 100000 in
theorem put5_made (b N : Nat) (zs : List Int) (s : Int) (w : World) (h : En w b N zs) : Calls Tryz.prog 125 #[.pointer (some ⟨b, 0, none⟩), .pointer none, .int .i64 s] w fun e w' => e = .returned (.int .i64 2) ∧ w' = w := by
  obtain ⟨la, lc, ca, cc, c0, _, _, _, _⟩ := h.cells
  go_enter Tryz.func125, Tryz.ntmps125
  go_wp2_with fail
  go_ret
  exact ⟨rfl, rfl⟩

def EncF (w : World) (zs : List Int) (e : Ending) (w' : World) : Prop := (errC zs = 0 → ∃ b, e = .returned (.tuple #[.pointer (some ⟨b, 0, none⟩), .int .i64 0]) ∧ w.heap.size ≤ b ∧ En w' b w'.heap.size zs ∧ ∀ W, Kp (fun k => k < w.heap.size) w' W → En W b w'.heap.size zs) ∧ (errC zs ≠ 0 → e = .returned (.tuple #[.pointer none, .int .i64 (errC zs)])) ∧ Below w.heap.size w w'
set_option maxRecDepth 100000 in
set_option maxHeartbeats 1000000 in
theorem newEnc_far (a : Option Addr) (zs : List Int) (n cap : Nat) (hn : Hid (zs.length = n)) (w : World) (hs : SegZ w a zs) (hnil : a = none → cap = 0) (hl : n ≤ 9223372036854775807) :
    Calls Tryz.prog 124 #[.slice a n cap] w fun e w' => EncF w zs e w' := by
  have HC := codes_any a zs n cap hn w hs hl
  by_cases hok : errC zs = 0
  · have HOK : Hid (errC zs = 0) := hok
    have HL := errS_zero (errC_zero hok).1
    have hn288 : n ≤ 288 := by have := hn.out; have := HL.1; omega
    clear hok HL
    have HCL : Hid (∀ W, Below w.heap.size w W → Calls Tryz.prog 141 #[.slice a n cap] W fun e w' => ∃ a' c', e = .returned (.slice a' n c') ∧ w'.ownsRow W.heap.size 3 1 (.slice a' n c') n (zs.map (Value.int .i64)) ∧ Below W.heap.size W w') := fun W hW => clone5_any a zs n cap hn W (hs.old hW) hnil (by omega)
    have e1 : Hid (cdsR zs = cds zs) := by show _ = _; unfold cdsR; rw [if_pos HOK.out]
    have e3 : Hid ((cds zs).length = n) := by show _ = _; rw [cds_len]; exact hn.out
    go_enter Tryz.func124, Tryz.ntmps124
    go_wp2_with fail
    refine HC.mono ?_
    rintro e W1 ⟨b1, c1, rfl, O1, B1⟩
    rw [e1.out, e3.out] at O1
    rw [e1.out, e3.out, HOK.out]
    go_wp2_with fail
    refine (HCL.out _ B1).mono ?_
    rintro e W2 ⟨a2, c2, rfl, O2, B2⟩
    have B12 : Below w.heap.size w W2 := B1.trans (B2.mono B1.size)
    have O1b := own_below O1 B2
    go_wp2_with fail
    go_ret2
    have hbl := own_blk O2
    have hbl1 := own_blk O1b
    have hzb : ∀ z ∈ zs, -9223372036854775808 ≤ z ∧ z ≤ 9223372036854775807 := hs.mem
    have HEN : En (W2.alloc (.cells #[.bool true, .slice a2 n c2, .slice b1 n c1] 237)) W2.heap.size (W2.alloc (.cells #[.bool true, .slice a2 n c2, .slice b1 n c1] 237)).heap.size zs := by
      refine ⟨HOK.out, by simp, a2, c2, b1, c1, ?_, ?_, ?_, ?_, ?_⟩
      · rw [hn.out]; exact heap_alloc_new W2 _
      · exact (own_segZ O2 hzb).alloc _
      · exact (own_segZ O1b (cds_bd HOK.out)).alloc _
      · intro x hx
        have := hbl x hx
        simp
        omega
      · intro x hx
        have := hbl1 x hx
        simp
        omega
    refine ⟨fun _ => ⟨W2.heap.size, rfl, B12.size, HEN, fun W hW => ?_⟩, fun h => absurd HOK.out h, B12.alloc B12.size _⟩
    refine ⟨HOK.out, by simp, a2, c2, b1, c1, ?_, ?_, ?_, ?_, ?_⟩
    · rw [hn.out]; exact hW.heap (heap_alloc_new W2 _) (by have := B12.size; omega)
    · exact ((own_segZ O2 hzb).alloc _).kp hW (fun b off e _ => by have := hbl _ e; have := B1.size; simp at *; omega)
    · exact ((own_segZ O1b (cds_bd HOK.out)).alloc _).kp hW (fun b off e _ => by have := hbl1 _ e; simp at *; omega)
    · intro x hx
      have := hbl x hx
      simp
      omega
    · intro x hx
      have := hbl1 x hx
      simp
      omega
  · have HNK : Hid (¬ errC zs = 0) := hok
    have key : ∀ E : Int, E = 50 ∨ E = 51 ∨ E = 52 → errC zs = E → Calls Tryz.prog 124 #[.slice a n cap] w fun e w' => EncF w zs e w' := by
      intro E hE hEE
      have HEE : Hid (errC zs = E) := hEE
      clear hEE hok
      rcases hE with rfl | rfl | rfl
      all_goals
        go_enter Tryz.func124, Tryz.ntmps124
        go_wp2_with fail
        refine HC.mono ?_
        rintro e W1 ⟨b1, c1, rfl, O1, B1⟩
        rw [HEE.out]
        clear O1
        go_wp2_with fail
        go_ret2
        exact ⟨fun h => absurd h HNK.out, fun _ => by rw [HEE.out]; rfl, B1⟩
    rcases errC_cases zs with h | h | h | h
    · exact absurd h hok
    · exact key 50 (.inl rfl) h
    · exact key 51 (.inr (.inl rfl)) h
    · exact key 52 (.inr (.inr rfl)) h
end Go.Proofs.YtcifalelnfeggaaGreatDoor

namespace Go.Proofs.YtcifalelnfeggaaGreatDoor
open Go.RowKit
set_option linter.unusedVariables false

/-! A head's bits; a writer on its way. -/
def szb8 (Z : List Int) : Nat → List Bool
  | 0 => []
  | i + 1 => szb8 Z i ++ bN (Z.getD (ordL.getD i 0).toNat 0).toNat 3
def rnb8 (Z : List Int) : List Rn8 → List Bool
  | [] => []
  | r :: R => (putB Z r.sy ++ bN (r.ct - lst8 r.sy).toNat (mor8 r.sy)) ++ rnb8 Z R
theorem rnb8_app (Z : List Int) (b : List Rn8) : ∀ a, rnb8 Z (a ++ b) = rnb8 Z a ++ rnb8 Z b
  | [] => rfl
  | r :: a => by simp only [List.cons_append, rnb8, rnb8_app Z b a, List.append_assoc]
def hd8 (lit dist : List Int) : List Bool := bN ((sht8 lit 257).length - 257) 5 ++ bN ((sht8 dist 1).length - 1) 5 ++ bN (tol8 (sz8 lit dist) 19 - 4) 4 ++ szb8 (sz8 lit dist) (tol8 (sz8 lit dist) 19) ++ rnb8 (sz8 lit dist) (rs8 lit dist)
theorem szb8_len (Z : List Int) : ∀ k, (szb8 Z k).length = 3 * k
  | 0 => rfl
  | k + 1 => by rw [szb8, List.length_append, szb8_len Z k, bN_len]; omega
theorem mor8_le (s : Int) : mor8 s ≤ 7 := by rcases mor8_in s with h | h | h | h <;> omega
theorem rnb8_len {Z : List Int} (h : errC Z = 0) : ∀ R, (rnb8 Z R).length ≤ 22 * R.length
  | [] => by simp [rnb8]
  | r :: R => by
    have h1 := putB_le h r.sy
    have h2 := mor8_le r.sy
    have h3 := rnb8_len h R
    rw [rnb8, List.length_append, List.length_append, bN_len, List.length_cons]
    omega
theorem ct8_lt {r : Rn8} (h : ok8 r) : (r.ct - lst8 r.sy).toNat < 2 ^ mor8 r.sy := by
  obtain ⟨h1, h2, h3, h4⟩ := h
  rw [grt8_lst r.sy h2] at h4
  have : ((2 : Int) ^ mor8 r.sy) = ((2 ^ mor8 r.sy : Nat) : Int) := by norm_cast
  omega
/-- A writer on its way: what it has, and what is kept. -/
def WrI (W wr : World) (bw B : Nat) (v : Value) (M : List Bool) : Prop := ∃ v', WrL wr bw B v' M ∧ Kp (WS bw v) W wr ∧ Fresh W v v'
theorem WrI.start {W : World} {bw B : Nat} {v : Value} {M : List Bool} (h : WrL W bw B v M) : WrI W W bw B v M := ⟨v, h, Kp.refl _ _, fun k e => .inl e⟩
theorem WrI.size {W wr : World} {bw B : Nat} {v : Value} {M : List Bool} (h : WrI W wr bw B v M) : W.heap.size ≤ wr.heap.size := by
  obtain ⟨v', _, h2, _⟩ := h
  exact h2.size
theorem WrI.kp {W wr : World} {bw B : Nat} {v : Value} {M : List Bool} (h : WrI W wr bw B v M) : Kp (WS bw v) W wr := by
  obtain ⟨v', _, h2, _⟩ := h
  exact h2
theorem WrI.next {W wr w' : World} {bw B : Nat} {v v1 v2 : Value} {M2 : List Bool} (hK : Kp (WS bw v) W wr) (hF : Fresh W v v1) (h : WrL w' bw B v2 M2) (hk : Kp (WS bw v1) wr w') (hf : Fresh wr v1 v2) : WrI W w' bw B v M2 := by
  refine ⟨v2, h, hK.trans (S' := WS bw v1) hk (fun k hlt e => ?_), fun k e => ?_⟩
  · rcases e with e | e
    · exact .inl e
    · rcases hF k e with e2 | e2
      · exact .inr e2
      · omega
  · rcases hf k e with e2 | e2
    · exact hF k e2
    · exact .inr (Nat.le_trans hK.size e2)
theorem kp_of_below {w w' : World} (h : Below w.heap.size w w') (S : Nat → Prop) : Kp S w w' := ⟨h.os, h.tape, h.output, h.size, fun k hk _ => h.block k hk⟩
theorem WrL.below8 {w w' : World} {b B : Nat} {v : Value} {L : List Bool} (h : WrL w b B v L) (hb : Below w.heap.size w w') : WrL w' b B v L := h.kp (kp_of_below hb (fun _ => False)) (fun h => h) (fun _ _ h => h)
theorem WrI.old {W wr w' : World} {bw B : Nat} {v : Value} {M : List Bool} (h : WrI W wr bw B v M) (hb : Below wr.heap.size wr w') : WrI W w' bw B v M := by
  obtain ⟨v', h1, h2, h3⟩ := h
  exact ⟨v', h1.below8 hb, h2.trans (S' := fun _ => False) (kp_of_below hb _) (fun _ _ e => e.elim), h3⟩
def PuQ (W : World) (bw B : Nat) (v : Value) (M : List Bool) (e : Ending) (w' : World) : Prop := e = .returned (.int .i64 0) ∧ WrI W w' bw B v M
/-- Put, on the way. -/
theorem put8 {W wr : World} {bw B : Nat} {v : Value} {M : List Bool} (h : WrI W wr bw B v M) (x k : Nat) (hx : x < 2 ^ k) (hk : k ≤ 56) (hl : M.length ≤ 1125899906842560) :
    Calls Tryz.prog 29 #[.pointer (some ⟨bw, 0, none⟩), .int .u64 (x : Int), .int .i64 (k : Int)] wr (PuQ W bw B v (M ++ bN x k)) := by
  obtain ⟨v', h1, h2, h3⟩ := h
  refine (put_ok bw B v' M x k wr h1 hx hk hl).mono ?_
  rintro e w' ⟨rfl, v2, q1, q2, q3⟩
  exact ⟨rfl, WrI.next h2 h3 q1 q2 q3⟩
def EpQ (W : World) (bw B : Nat) (v : Value) (M : List Bool) (er : Int) (e : Ending) (w' : World) : Prop := e = .returned (.int .i64 er) ∧ WrI W w' bw B v M
/-- An encoder's Put, on the way. -/
theorem eput8 {W wr : World} {bw B b N : Nat} {v : Value} {M : List Bool} {Z : List Int} (s : Int) (h : WrI W wr bw B v M) (hE : En wr b N Z) (hl : M.length ≤ 1125899906842560) :
    Calls Tryz.prog 125 #[.pointer (some ⟨b, 0, none⟩), .pointer (some ⟨bw, 0, none⟩), .int .i64 s] wr (EpQ W bw B v (M ++ putB Z s) (errP Z s)) := by
  obtain ⟨v', h1, h2, h3⟩ := h
  refine (put5_any b N Z s bw B v' M wr hE h1 hl).mono ?_
  rintro e w' ⟨rfl, v2, q1, q2, q3⟩
  exact ⟨rfl, WrI.next h2 h3 q1 q2 q3⟩
end Go.Proofs.YtcifalelnfeggaaGreatDoor
