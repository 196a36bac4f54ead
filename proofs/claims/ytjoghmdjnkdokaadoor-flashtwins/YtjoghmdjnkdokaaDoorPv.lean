import Derived.Test.YtjoghmdjnkdokaaDoorPu
import Derived.Test.YtjoghmdjnkdokaaDoorPa
import Derived.WalkKit
import Derived.ProofKit
import Derived.OpenShut
import Derived.SizedLaws
import Derived.Test.YtjoghmdjnkdokaaDoorPb
import Derived.Deep.Slices
import Derived.Lib.SmallJoins
import Derived.Test.YtjoghmdjnkdokaaDoorProg
import Derived.Test.YtjoghmdjnkdokaaDoorPo
import Derived.WalkSpells
import Derived.WalkLawsBesides
import Derived.Deep.QuietTactic
import Derived.BigQuiet
import Derived.Test.YtjoghmdjnkdokaaDoorPr
import Derived.Test.YtjoghmdjnkdokaaDoorPs
import Derived.Test.YtjoghmdjnkdokaaDoorPt
import Derived.Test.YtjoghmdjnkdokaaDoorPh
namespace Go.Proofs.YtjoghmdjnkdokaaDoor
open Go.RowKit
set_option linter.unusedVariables false
set_option linter.unusedSimpArgs false

/-! 'Own' of rows whose blocks may be longer than their room. -/
abbrev RowX (eT : TypeId) (w : World) (base : Nat) (v : Value) (ys : List Int) : Prop := OX w base eT v ys.length (ys.map (Value.int .u8))
structure OSX (eT sT : TypeId) (w : World) (base bl G n : Nat) (vs gs : Nat → Value) (ys zs : Nat → List Int) : Prop where
  rv : ∀ i, i < n → RowX eT w base (vs i) (ys i)
  rg : ∀ i, i < n → RowX eT w base (gs i) (zs i)
  vv : ∀ i j, i < n → j < n → i ≠ j → Ap (vs i).ownBlock (vs j).ownBlock
  gv : ∀ i j, i < n → j < n → i ≠ j → Ap (gs i).ownBlock (vs j).ownBlock
  gg : ∀ i j, i < n → j < n → i ≠ j → Ap (gs i).ownBlock (gs j).ownBlock
  sl : Slots sT w bl n vs
  sg : Slots sT w G n gs
  nv : ∀ i k, i < n → (vs i).ownBlock = some k → k ≠ bl ∧ k ≠ G
  ng : ∀ i k, i < n → (gs i).ownBlock = some k → k ≠ bl ∧ k ≠ G
  ne : bl ≠ G
  bG : base ≤ G
  bs : base ≤ w.heap.size

variable {eT sT : TypeId} {w : World} {base bl G n : Nat} {vs gs : Nat → Value} {ys zs : Nat → List Int}

/-- A byte of a list is written. -/
theorem OSX.mark (h : OSX eT sT w base bl G n vs gs ys zs) (i k g cap m : Nat) (x : Int) (hi : i < n) (hv : vs i = .slice (some ⟨g, 0, none⟩) m cap) (hk : k < m) (hg0 : ∀ j, j < n → (gs j).ownBlock = none) :
    OSX eT sT (w.setCell ⟨g, k, none⟩ (.int .u8 x)) base bl G n vs gs (updO ys i ((ys i).set k x)) zs ∧ Below base w (w.setCell ⟨g, k, none⟩ (.int .u8 x)) := by
  have hr := h.rv i hi
  have hm : m = (ys i).length := by
    rcases hr.2 with ⟨h0, _⟩ | ⟨g', c', cur, h0, _⟩
    · rw [hv] at h0; cases h0
    · rw [hv] at h0; cases h0; rfl
  subst hm
  have hr' := hr
  unfold RowX at hr'
  rw [hv] at hr'
  have hst := hr'.stored k (.int .u8 x)
  have hbg : base ≤ g := (hr'.lt g rfl).1
  have hob : (vs i).ownBlock = some g := by rw [hv]; rfl
  have hnn := h.nv i g hi hob
  refine ⟨⟨?_, ?_, h.vv, h.gv, h.gg, h.sl.grown hst.2 (by intro e; cases e; exact hnn.1 rfl), h.sg.grown hst.2 (by intro e; cases e; exact hnn.2 rfl), h.nv, h.ng, h.ne, h.bG, ?_⟩, ?_⟩
  · intro j hj
    by_cases e : j = i
    · subst e
      rw [upd_at, hv]
      have := hst.1
      rw [← List.map_set] at this
      show OX _ _ _ _ _ _
      simpa using this
    · rw [upd_ne _ _ _ _ e]
      refine (h.rv j hj).kept hst.2 ?_
      have := (h.vv j i hj hi e).or
      rw [hob] at this
      exact this
  · intro j hj
    exact (h.rg j hj).kept hst.2 (.inl (hg0 j hj))
  · simpa [World.setCell] using h.bs
  · exact (Below.refl _ _).grown hst.2 h.bs (by intro j e; cases e; exact hbg)

/-- A grown list begins as the list itself. -/
theorem OSX.start (h : OSX eT sT w base bl G n vs gs ys zs) (i : Nat) (hi : i < n) :
    OSX eT sT (w.setCell ⟨G, i, none⟩ (vs i)) base bl G n vs (updO gs i (vs i)) ys (updO zs i (ys i)) ∧ Below base w (w.setCell ⟨G, i, none⟩ (vs i)) := by
  have hgr : w.grownBy (w.setCell ⟨G, i, none⟩ (vs i)) (some G) := grownBy_set (World.grownBy.refl _ _) _
  have keepv : ∀ j, j < n → (vs j).ownBlock = none ∨ (vs j).ownBlock ≠ some G := by
    intro j hj
    cases e : (vs j).ownBlock with
    | none => exact .inl rfl
    | some k => exact .inr fun e2 => by cases e2; exact (h.nv j G hj e).2 rfl
  have keepg : ∀ j, j < n → (gs j).ownBlock = none ∨ (gs j).ownBlock ≠ some G := by
    intro j hj
    cases e : (gs j).ownBlock with
    | none => exact .inl rfl
    | some k => exact .inr fun e2 => by cases e2; exact (h.ng j G hj e).2 rfl
  refine ⟨⟨fun j hj => (h.rv j hj).kept hgr (keepv j hj), ?_, h.vv, ?_, ?_, h.sl.grown hgr (by intro e; cases e; exact h.ne rfl), h.sg.set i hi _, h.nv, ?_, h.ne, h.bG, by simpa [World.setCell] using h.bs⟩, ?_⟩
  · intro j hj
    by_cases e : j = i
    · subst e; rw [upd_at, upd_at]; exact (h.rv j hj).kept hgr (keepv j hj)
    · rw [upd_ne _ _ _ _ e, upd_ne _ _ _ _ e]; exact (h.rg j hj).kept hgr (keepg j hj)
  · intro j l hj hl hne
    by_cases e : j = i
    · subst e; rw [upd_at]; exact h.vv j l hj hl hne
    · rw [upd_ne _ _ _ _ e]; exact h.gv j l hj hl hne
  · intro j l hj hl hne
    by_cases e : j = i
    · subst e; rw [upd_at, upd_ne _ _ _ _ (Ne.symm hne)]; exact (h.gv l j hl hj (Ne.symm hne)).symm
    · rw [upd_ne _ _ _ _ e]
      by_cases e2 : l = i
      · subst e2; rw [upd_at]; exact h.gv j l hj hl hne
      · rw [upd_ne _ _ _ _ e2]; exact h.gg j l hj hl hne
  · intro j k hj
    by_cases e : j = i
    · subst e; rw [upd_at]; exact h.nv j k hj
    · rw [upd_ne _ _ _ _ e]; exact h.ng j k hj
  · exact (Below.refl _ _).grown hgr h.bs (by intro j e; cases e; exact h.bG)

/-- The grown list lies elsewhere, or it goes on behind the list. -/
def SharesX (v g : Value) (y z : List Int) : Prop := Ap g.ownBlock v.ownBlock ∨ ∃ b l m c, v = .slice (some ⟨b, 0, none⟩) l c ∧ g = .slice (some ⟨b, 0, none⟩) m c ∧ l ≤ m ∧ y = z.take l
theorem SharesX.self {w : World} {base : Nat} {v : Value} {y : List Int} (h : RowX eT w base v y) : SharesX v v y y := by
  rcases h.2 with ⟨rfl, _⟩ | ⟨g, cap, cur, rfl, _⟩
  · exact .inl (Ap.none _)
  · exact .inr ⟨g, _, _, cap, rfl, rfl, Nat.le_refl _, by simp⟩
theorem SharesX.row {w : World} {base : Nat} {v g : Value} {y z : List Int} (h : SharesX v g y z) (hg : RowX eT w base g z) (hv : Ap g.ownBlock v.ownBlock → RowX eT w base v y) : RowX eT w base v y := by
  rcases h with h | ⟨b, l, m, c, rfl, rfl, hl, rfl⟩
  · exact hv h
  · have hm : m = z.length := by
      rcases hg.2 with ⟨h0, _⟩ | ⟨g', c', cur, h0, _⟩
      · cases h0
      · cases h0; rfl
    subst hm
    have := ox_take hg hl
    rw [← List.map_take] at this
    show OX _ _ _ _ _ _
    rw [show (z.take l).length = l by simp; omega]
    exact this

/-- A grown list grows by a byte. -/
theorem OSX.push (h : OSX eT sT w base bl G n vs gs ys zs) (i : Nat) (hi : i < n) (x : Int) (g c : Nat) (w' : World) (hsh : SharesX (vs i) (gs i) (ys i) (zs i))
    (h1 : OX w' base eT (.slice (some ⟨g, 0, none⟩) ((zs i).length + 1) c) ((zs i).length + 1) ((zs i).map (Value.int .u8) ++ [.int .u8 x])) (h2 : w.grownBy w' (gs i).ownBlock) (h3 : RowX eT w' base (gs i) (zs i))
    (h5 : gs i = .slice (some ⟨g, 0, none⟩) (zs i).length c ∨ w.heap.size ≤ g) :
    OSX eT sT (w'.setCell ⟨G, i, none⟩ (.slice (some ⟨g, 0, none⟩) ((zs i).length + 1) c)) base bl G n vs (updO gs i (.slice (some ⟨g, 0, none⟩) ((zs i).length + 1) c)) ys (updO zs i (zs i ++ [x])) ∧
      Below base w (w'.setCell ⟨G, i, none⟩ (.slice (some ⟨g, 0, none⟩) ((zs i).length + 1) c)) ∧ SharesX (vs i) (.slice (some ⟨g, 0, none⟩) ((zs i).length + 1) c) (ys i) (zs i ++ [x]) := by
  obtain ⟨v', hv'⟩ : ∃ v', v' = Value.slice (some ⟨g, 0, none⟩) ((zs i).length + 1) c := ⟨_, rfl⟩
  rw [← hv'] at h1 ⊢
  have h4 : (∃ g c, gs i = .slice (some ⟨g, 0, none⟩) (zs i).length c ∧ v' = .slice (some ⟨g, 0, none⟩) ((zs i).length + 1) c) ∨ ∃ g, v'.ownBlock = some g ∧ w.heap.size ≤ g := by
    rcases h5 with e | e
    · exact .inl ⟨g, c, e, hv'⟩
    · exact .inr ⟨g, by rw [hv']; rfl, e⟩
  clear h5
  have hnew : ∀ k, v'.ownBlock = some k → (gs i).ownBlock = some k ∨ w.heap.size ≤ k := by
    intro k hk
    rcases h4 with ⟨g, c, e1, e2⟩ | ⟨g, e1, e2⟩
    · rw [e2] at hk; rw [e1]; exact .inl hk
    · rw [e1] at hk; cases hk; exact .inr e2
  have hvlt : ∀ j k, j < n → (vs j).ownBlock = some k → k < w.heap.size := fun j k hj hk => ((h.rv j hj).lt k hk).2
  have hglt : ∀ j k, j < n → (gs j).ownBlock = some k → k < w.heap.size := fun j k hj hk => ((h.rg j hj).lt k hk).2
  have apv : ∀ j, j < n → j ≠ i → Ap v'.ownBlock (vs j).ownBlock := by
    intro j hj hne k hk hk2
    rcases hnew k hk with e | e
    · exact h.gv i j hi hj (Ne.symm hne) k e hk2
    · have := hvlt j k hj hk2; omega
  have apg : ∀ j, j < n → j ≠ i → Ap v'.ownBlock (gs j).ownBlock := by
    intro j hj hne k hk hk2
    rcases hnew k hk with e | e
    · exact h.gg i j hi hj (Ne.symm hne) k e hk2
    · have := hglt j k hj hk2; omega
  have hvi : RowX eT w' base (vs i) (ys i) := hsh.row h3 fun hap => (h.rv i hi).kept h2 hap.symm.or
  have hgr : w'.grownBy (w'.setCell ⟨G, i, none⟩ v') (some G) := grownBy_set (World.grownBy.refl _ _) _
  have notG : ∀ (v : Value) (hG : ∀ k, v.ownBlock = some k → k ≠ bl ∧ k ≠ G), v.ownBlock = none ∨ v.ownBlock ≠ some G := by
    intro v hG
    cases e : v.ownBlock with
    | none => exact .inl rfl
    | some k => exact .inr fun e2 => by cases e2; exact (hG G e).2 rfl
  have ng' : ∀ k, v'.ownBlock = some k → k ≠ bl ∧ k ≠ G := by
    intro k hk
    rcases hnew k hk with e | e
    · exact h.ng i k hi e
    · have a1 := h.sl.lt
      have a2 := h.sg.lt
      exact ⟨by omega, by omega⟩
  have hrow' : RowX eT w' base v' (zs i ++ [x]) := by
    show OX _ _ _ _ _ _
    simpa using h1
  have rowsg : (gs i).ownBlock ≠ some bl ∧ (gs i).ownBlock ≠ some G := ⟨fun e => (h.ng i bl hi e).1 rfl, fun e => (h.ng i G hi e).2 rfl⟩
  refine ⟨⟨?_, ?_, h.vv, ?_, ?_, (h.sl.grown h2 (Ne.symm rowsg.1)).grown hgr (by intro e; cases e; exact h.ne rfl), (h.sg.grown h2 (Ne.symm rowsg.2)).set i hi _, h.nv, ?_, h.ne, h.bG, ?_⟩, ?_, ?_⟩
  · intro j hj
    by_cases e : j = i
    · subst e; exact hvi.kept hgr (notG _ (fun k hk => h.nv j k hj hk))
    · exact ((h.rv j hj).kept h2 (h.gv i j hi hj (Ne.symm e)).symm.or).kept hgr (notG _ (fun k hk => h.nv j k hj hk))
  · intro j hj
    by_cases e : j = i
    · subst e; rw [upd_at, upd_at]; exact hrow'.kept hgr (notG _ ng')
    · rw [upd_ne _ _ _ _ e, upd_ne _ _ _ _ e]
      exact ((h.rg j hj).kept h2 (h.gg j i hj hi e).or).kept hgr (notG _ (fun k hk => h.ng j k hj hk))
  · intro j l hj hl hne
    by_cases e : j = i
    · subst e; rw [upd_at]; exact apv l hl (Ne.symm hne)
    · rw [upd_ne _ _ _ _ e]; exact h.gv j l hj hl hne
  · intro j l hj hl hne
    by_cases e : j = i
    · subst e; rw [upd_at, upd_ne _ _ _ _ (Ne.symm hne)]; exact apg l hl (Ne.symm hne)
    · rw [upd_ne _ _ _ _ e]
      by_cases e2 : l = i
      · subst e2; rw [upd_at]; exact (apg j hj e).symm
      · rw [upd_ne _ _ _ _ e2]; exact h.gg j l hj hl hne
  · intro j k hj
    by_cases e : j = i
    · subst e; rw [upd_at]; exact ng' k
    · rw [upd_ne _ _ _ _ e]; exact h.ng j k hj
  · have := h2.size
    have := h.bs
    simp [World.setCell]; omega
  · have hb1 : Below base w w' := (Below.refl _ _).grown h2 h.bs (fun k hk => ((h.rg i hi).lt k hk).1)
    exact hb1.trans ((Below.refl _ _).grown hgr (Nat.le_trans h.bs h2.size) (by intro j e; cases e; exact h.bG))
  · rcases h4 with ⟨g, c, e1, e2⟩ | ⟨g, e1, e2⟩
    · rcases hsh with hs | ⟨b, l, m, c2, a1, a2, a3, a4⟩
      · left
        rw [e2]
        rw [e1] at hs
        exact hs
      · right
        rw [e1] at a2
        cases a2
        exact ⟨g, l, _, c, a1, e2, by omega, by rw [List.take_append_of_le_length a3]; exact a4⟩
    · left
      intro k hk hk2
      rw [e1] at hk
      cases hk
      have := hvlt i g hi hk2
      omega
theorem row_shapeX {eT : TypeId} {w : World} {base : Nat} {v : Value} {ys : List Int} (h : RowX eT w base v ys) : ∃ a cap, v = .slice a ys.length cap ∧ ys.length ≤ cap ∧ (∀ k, k < ys.length → ∃ g, a = some ⟨g, 0, none⟩ ∧ w.cell? ⟨g, k, none⟩ = some (.int .u8 (ys.getD k 0)) ∧ w.frozen? ⟨g, k, none⟩ = false) := by
  rcases h.2 with ⟨rfl, h0⟩ | ⟨g, cap, cur, rfl, hb, hh, hc, _, _, ht⟩
  · exact ⟨none, 0, by rw [h0], by omega, fun k hk => by omega⟩
  · refine ⟨_, cap, rfl, hc, fun k hk => ⟨g, rfl, ?_, ?_⟩⟩
    · have := h.cells (g := g) k (.int .u8 (ys.getD k 0)) (by simp [List.getD, hk]); have hadd : (⟨g, 0, none⟩ : Addr).add k = ⟨g, k, none⟩ := (by unfold Addr.add; split <;> simp_all); rw [hadd] at this; exact this
    · simp [World.frozen?, hh]
theorem row_atX {eT : TypeId} {w : World} {base : Nat} {a : Option Addr} {m cp : Nat} {ys : List Int} (h : RowX eT w base (.slice a m cp) ys) (k : Nat) (hk : k < ys.length) : ∃ g, a = some ⟨g, 0, none⟩ ∧ w.cell? ⟨g, k, none⟩ = some (.int .u8 (ys.getD k 0)) ∧ w.frozen? ⟨g, k, none⟩ = false := by
  obtain ⟨a', cap', hv, _, hat⟩ := row_shapeX h
  cases hv
  exact hat k hk
set_option maxRecDepth 100000 in
set_option maxHeartbeats 2000000 in
theorem own_anyX (base bl n cap : Nat) (vs : Nat → Value) (ys : Nat → List Int) (w : World) (hn0 : 0 < n) (hn : n ≤ 1000) (hrv : ∀ i, i < n → RowX 5 w base (vs i) (ys i))
    (hvv : ∀ i j, i < n → j < n → i ≠ j → Ap (vs i).ownBlock (vs j).ownBlock) (hsl : Slots 22 w bl n vs) (hnv : ∀ i k, i < n → (vs i).ownBlock = some k → k ≠ bl) (hlen : ∀ i, i < n → (ys i).length ≤ 70368744177664) (hbs : base ≤ w.heap.size) :
    Calls Tryd.prog 30 #[.slice (some ⟨bl, 0, none⟩) n cap] w fun e w' => e = .returned (.bool true) ∧ Below base w w' := by
  obtain ⟨i0, hi, hz0, hz1, hz2⟩ := info_parts info_u8o
  obtain ⟨j0, hj, hy0, hy1, hy2⟩ := info_parts info_sl
  go_enter Tryd.func30, Tryd.ntmps30
  go_wp2_with (at_make; refine wpList_make_full _ rfl _ _ 114 rfl w.heap.size 22 j0 (.slice none 0 0) 1 Tryd.underlying114 hj hy0 hy1 .i64 .i64 _ _ n rfl rfl rfl rfl (by rw [hy2]; omega) (by unfold maxLen; omega) (Nat.le_refl _) ?_; intro w1 hown1 hgrow1)
  rw [Nat.mul_one, show (Value.slice none 0 0).cells = #[.slice none 0 0] from rfl, toList_madeCells_one] at hown1
  have hG := slots_made hown1 hn0
  have hb1 : Below base w w1 := (Below.refl _ _).grown hgrow1 hbs (by intro k e; cases e)
  have hos : OSX 5 22 w1 base bl w.heap.size n vs (fun _ => .slice none 0 0) ys (fun _ => []) := by
    refine ⟨fun i hi => (hrv i hi).kept hgrow1 ?_, fun i hi => OX.of (World.ownsRow_nil _ _ _ _), hvv, fun i j _ _ _ => Ap.none _, fun i j _ _ _ => Ap.none _, hsl.grown hgrow1 (by simp), hG, fun i k hi hk => ⟨hnv i k hi hk, ?_⟩, (fun i k _ hk => by cases hk), ?_, hbs, Nat.le_trans hbs hgrow1.size⟩
    · cases (vs i).ownBlock <;> simp
    · have := ((hrv i hi).lt k hk).2; omega
    · have := hsl.lt; omega
  clear hown1 hG hrv hsl
  generalize w.heap.size = G at *
  go_loopw [19] (fun i wr => ∃ k : Nat, k ≤ n ∧ i = .int .i64 k ∧ OSX 5 22 wr base bl G n vs (fun _ => .slice none 0 0) (markF k ys) (fun _ => []) ∧ Below base w wr) (fun i _ => n - (intOf i).toNat)
  case atStart => exact ⟨0, Nat.zero_le _, rfl, by rw [markF_zero]; exact hos, hb1⟩
  case round =>
    obtain ⟨k, hk, rfl, hst, hb⟩ := hrel
    by_cases hlt : k < n
    · have hlti : (k : Int) < (n : Int) := by omega
      have hc := hst.sl.cell k hlt
      obtain ⟨a, cp, hv, hcp, hat⟩ := row_shapeX (hst.rv k hlt)
      have hln := hlen k hlt
      have hm : markF k ys k = ys k := by simp [markF]
      rw [hm] at hv hcp hat
      rw [hv] at hc
      obtain ⟨wo, rfl⟩ : ∃ wo : World, wo = wr := ⟨_, rfl⟩
      clear hat
      have HV : Hid (vs k = .slice a (ys k).length cp) := hv
      clear hv hm hos hb1 hgrow1
      go_wp2
      go_loopw [26] (fun t wr => ∃ j : Nat, j ≤ (ys k).length ∧ t = .int .i64 j ∧ OSX 5 22 wr base bl G n vs (fun _ => .slice none 0 0) (pmF k j ys) (fun _ => []) ∧ Below base w wr) (fun t _ => (ys k).length - (intOf t).toNat)
      case atStart => exact ⟨0, Nat.zero_le _, rfl, by rw [pmF_zero]; exact hst, hb⟩
      case round =>
        obtain ⟨j, hj2, rfl, hst2, hb2⟩ := hrel
        by_cases hjl : j < (ys k).length
        · have hr := hst2.rv k hlt
          have hl2 := pmF_len k j ys hj2
          rw [HV.out] at hr
          obtain ⟨g, rfl, hcl, hfz⟩ := row_atX hr j (by omega)
          have hmk := hst2.mark k j g cp _ (((k : Int) + 7 * (j : Int)) % 256) hlt HV.out hjl (fun _ _ => rfl)
          rw [pmF_step k j ys hjl] at hmk
          have hji : (j : Int) < ((ys k).length : Int) := by omega
          clear hr hst2 hst hlen hc hvv hnv
          go_wp2
          go_roundw
          case rel => exact ⟨j + 1, by omega, by go_num, hmk.1, hb2.trans hmk.2⟩
          case measure => simp [intOf]; omega
        · obtain rfl : j = (ys k).length := by omega
          rw [pmF_end] at hst2
          clear hjl hst hc
          go_wp2
          go_roundw
          case rel => exact ⟨k + 1, by omega, by go_num, hst2, hb2⟩
          case measure => simp [intOf]; omega
    · obtain rfl : n = k := by omega
      clear hlt hk hos hb1 hgrow1 hnv hvv
      have hml : Hid (∀ i, (markF n ys i).length = (ys i).length) := fun i => markF_len n i ys
      go_wp2
      have HM : Hid (∀ i, i < n → markF n ys i = markL i (ys i).length) := fun i hi => markF_at n i ys hi
      generalize markF n ys = mk at *
      obtain ⟨wp, rfl⟩ : ∃ wp : World, wp = wr := ⟨_, rfl⟩
      go_loopw [41] (fun t wr => ∃ (k : Nat) (gs : Nat → Value) (zs : Nat → List Int), k ≤ n ∧ t = .int .i64 k ∧ OSX 5 22 wr base bl G n vs gs mk zs ∧ Below base w wr ∧ (∀ i, i < k → zs i = mk i ++ tailL i 24)) (fun t _ => n - (intOf t).toNat)
      case atStart => exact ⟨0, _, _, Nat.zero_le _, rfl, hst, hb, fun i hi => by omega⟩
      case round =>
        clear hst hb
        obtain ⟨k, gs, zs, hk, rfl, hst, hb, hzs⟩ := hrel
        by_cases hlt : k < n
        · have hlti : (k : Int) < (n : Int) := by omega
          have hln := hlen k hlt
          have hc := hst.sl.cell k hlt
          have hcg := hst.sg.cell k hlt
          have hfg := hst.sg.free k
          have hss := hst.start k hlt
          have hsh := SharesX.self (hst.rv k hlt)
          obtain ⟨a, cp, hv, hcp, _⟩ := row_shapeX (hst.rv k hlt)
          rw [hml.out k] at hv hcp
          rw [hv] at hc
          have HV : Hid (vs k = .slice a (ys k).length cp) := hv
          rw [hv] at hss
          obtain ⟨u, hu⟩ : ∃ u, u = gs k := ⟨_, rfl⟩
          rw [← hu] at hcg
          clear hu hv hst
          obtain ⟨wo, rfl⟩ : ∃ wo : World, wo = wr := ⟨_, rfl⟩
          have hsh0 : SharesX (.slice a (ys k).length cp) (.slice a (ys k).length cp) (mk k) (mk k) := by rw [← HV.out]; exact hsh
          clear hsh
          go_wp2
          go_loopw [9] (fun t wr => ∃ (j : Nat) (gs : Nat → Value) (zs : Nat → List Int), j ≤ 24 ∧ t = .int .i64 j ∧ OSX 5 22 wr base bl G n vs gs mk zs ∧ Below base w wr ∧ (∀ i, i < k → zs i = mk i ++ tailL i 24) ∧ zs k = mk k ++ tailL k j ∧ SharesX (vs k) (gs k) (mk k) (zs k)) (fun t _ => 24 - (intOf t).toNat)
          case atStart => exact ⟨0, _, _, by omega, rfl, hss.1, hb.trans hss.2, fun i hi => by rw [upd_ne _ _ _ _ (by omega)]; exact hzs i hi, by rw [upd_at]; simp [tailL], by rw [upd_at, upd_at, HV.out]; exact hsh0⟩
          case round =>
            clear hss hb hzs hsh0 hc hcg hfg
            obtain ⟨j, gs, zs, hj2, rfl, hst, hb, hzs, hzk, hsh⟩ := hrel
            by_cases hjl : j < 24
            · have hcg := hst.sg.cell k hlt
              have hrg := hst.rg k hlt
              obtain ⟨ga, gc, hgv, _, _⟩ := row_shapeX hrg
              have hzl : (zs k).length = (ys k).length + j := by rw [hzk]; simp [tailL_len, hml.out]
              have HZ : Hid (zs k = mk k ++ tailL k j) := hzk
              have HL : Hid ((zs k).length = (ys k).length + j) := hzl
              rw [hgv] at hcg
              have HG : Hid (gs k = .slice ga (zs k).length gc) := hgv
              have hszr := hst.bs
              have hrow : OX wr base 5 (.slice ga (zs k).length gc) (zs k).length ((zs k).map (Value.int .u8)) := by rw [← hgv]; exact hrg
              have hGne : some G ≠ (Value.slice ga (zs k).length gc).ownBlock := by rw [← hgv]; intro e; exact (hst.ng k G hlt e.symm).2 rfl
              have HGrow : Hid (∀ (w2 : World), wr.grownBy w2 (Value.slice ga (zs k).length gc).ownBlock → Slots 22 w2 G n gs) := fun w2 hg => hst.sg.grown hg hGne
              clear hzk hzl hgv hrg
              go_wp2_with (at_builtin; refine wpList_push_x rfl _ _ 22 rfl base 5 i0 (.int .u8 0) 1 Tryd.underlying22 hi hz0 hz1 hz2 rfl wr (.int .u8 (((k : Int) + 131 + 3 * (j : Int)) % 256)) rfl hrow rfl rfl (by rw [HL.out]; omega) (by rw [HL.out]; omega) hszr ?_; intro g2 c2 w2 p1 p2 p3 p4; have hcg2 := (HGrow.out w2 p2).cell k hlt; have hfg2 := (HGrow.out w2 p2).free k; rw [HG.out] at hcg2)
              have hps := hst.push k hlt (((k : Int) + 131 + 3 * (j : Int)) % 256) g2 c2 w2 hsh p1 (by rw [HG.out]; exact p2) (by rw [HG.out]; exact p3) (by rw [HG.out]; exact p4)
              go_roundw
              case rel => exact ⟨j + 1, _, _, by omega, by go_num, hps.1, hb.trans hps.2.1, fun i hi => by rw [upd_ne _ _ _ _ (by omega)]; exact hzs i hi, by rw [upd_at, HZ.out, tailL_succ, List.append_assoc], by rw [upd_at, upd_at]; exact hps.2.2⟩
              case measure => simp [intOf]; omega
            · obtain rfl : j = 24 := by omega
              clear hjl hsh
              go_wp2
              go_roundw
              case rel => exact ⟨k + 1, gs, zs, by omega, by go_num, hst, hb, fun i hi => by
                by_cases e : i = k
                · subst e; exact hzk
                · exact hzs i (by omega)⟩
              case measure => simp [intOf]; omega
        · obtain rfl : n = k := by omega
          clear hlt hk
          go_wp2
          go_loop [72] (fun t => ∃ k : Nat, k ≤ n ∧ t = .int .i64 k) (fun t => n - (intOf t).toNat)
          case atStart => exact ⟨0, Nat.zero_le _, rfl⟩
          case round =>
            obtain ⟨k, hk, rfl⟩ := hrel
            by_cases hlt : k < n
            · have hlti : (k : Int) < (n : Int) := by omega
              have hln := hlen k hlt
              have hc := hst.sl.cell k hlt
              have hcg := hst.sg.cell k hlt
              have hrv := hst.rv k hlt
              have hrg := hst.rg k hlt
              obtain ⟨a, cp, hv, hcp, _⟩ := row_shapeX hrv
              obtain ⟨ga, gc, hgv, hgc, _⟩ := row_shapeX hrg
              have hzl : (zs k).length = (ys k).length + 24 := by rw [hzs k hlt]; simp [tailL_len, hml.out]
              rw [hml.out k] at hv hcp
              rw [hzl] at hgv hgc
              rw [hv] at hc hrv
              rw [hgv] at hcg hrg
              have HB : Hid (∀ j, j < (ys k).length → ∃ g, a = some ⟨g, 0, none⟩ ∧ wr.cell? ⟨g, j, none⟩ = some (.int .u8 (((k : Int) + 7 * (j : Int)) % 256))) := by
                intro j hj
                obtain ⟨g, h1, h2, _⟩ := row_atX hrv j (by rw [hml.out]; exact hj)
                rw [HM.out k hlt, markL_get _ _ _ hj] at h2
                exact ⟨g, h1, h2⟩
              have HT : Hid (∀ j, j < 24 → ∃ g, ga = some ⟨g, 0, none⟩ ∧ wr.cell? ⟨g, (ys k).length + j, none⟩ = some (.int .u8 (((k : Int) + 131 + 3 * (j : Int)) % 256))) := by
                intro j hj
                obtain ⟨g, h1, h2, _⟩ := row_atX hrg ((ys k).length + j) (by omega)
                rw [hzs k hlt] at h2
                have e : (mk k ++ tailL k 24).getD ((ys k).length + j) 0 = ((k : Int) + 131 + 3 * (j : Int)) % 256 := by
                  have hmk := hml.out k
                  rw [List.getD, List.getElem?_append_right (by omega), show (ys k).length + j - (mk k).length = j by omega]
                  exact tailL_get k 24 j hj
                rw [e] at h2
                exact ⟨g, h1, h2⟩
              clear hrv hrg hv hgv hzl
              go_wp2
              go_loop [79] (fun t => ∃ j : Nat, j ≤ (ys k).length ∧ t = .int .i64 j) (fun t => (ys k).length - (intOf t).toNat)
              case atStart => exact ⟨0, Nat.zero_le _, rfl⟩
              case round =>
                obtain ⟨j, hj2, rfl⟩ := hrel
                by_cases hjl : j < (ys k).length
                · have hji : (j : Int) < ((ys k).length : Int) := by omega
                  obtain ⟨g, rfl, hcl⟩ := HB.out j hjl
                  go_wp2
                  go_round
                  case rel => exact ⟨j + 1, by omega, by go_num⟩
                  case measure => simp [intOf]; omega
                · obtain rfl : j = (ys k).length := by omega
                  clear hjl hj2
                  go_wp2
                  go_loop [13] (fun t => ∃ j : Nat, j ≤ 24 ∧ t = .int .i64 j) (fun t => 24 - (intOf t).toNat)
                  case atStart => exact ⟨0, by omega, rfl⟩
                  case round =>
                    obtain ⟨j, hj2, rfl⟩ := hrel
                    by_cases hjl : j < 24
                    · obtain ⟨g, rfl, hcl⟩ := HT.out j hjl
                      have hji : ((ys k).length : Int) + (j : Int) < ((ys k).length : Int) + 24 := by omega
                      go_wp2
                      go_round
                      case rel => exact ⟨j + 1, by omega, by go_num⟩
                      case measure => simp [intOf]; omega
                    · obtain rfl : j = 24 := by omega
                      go_wp2
                      go_round
                      case rel => exact ⟨k + 1, by omega, by go_num⟩
                      case measure => simp [intOf]; omega
            · obtain rfl : n = k := by omega
              clear hlt hk
              go_wp2
              go_ret
              exact ⟨rfl, hb⟩
theorem own_twoX (base : Nat) (x z : Value) (xs zs : List Int) (w : World) (hx : RowX 5 w base x xs) (hz : RowX 5 w base z zs) (hap : Ap x.ownBlock z.ownBlock) (lx : xs.length ≤ 70368744177664) (lz : zs.length ≤ 70368744177664) (hb : base ≤ w.heap.size) :
    Calls Tryd.prog 30 #[.slice (some ⟨w.heap.size, 0, none⟩) 2 2] (w.alloc (.cells #[x, z] 22)) fun e w' => e = .returned (.bool true) ∧ Below base w w' := by
  have hb0 : Below base w (w.alloc (.cells #[x, z] 22)) := (Below.refl _ _).alloc hb _
  have hbs : Below w.heap.size w (w.alloc (.cells #[x, z] 22)) := (Below.refl _ _).alloc (Nat.le_refl _) _
  refine (own_anyX base w.heap.size 2 2 (two x z) (two xs zs) (w.alloc (.cells #[x, z] 22)) (by decide) (by decide) ?_ ?_ ?_ ?_ ?_ (by simp; omega)).mono ?_
  · intro i hi
    match i, hi with
    | 0, _ => exact hx.below hbs
    | 1, _ => exact hz.below hbs
  · intro i j hi hj hne
    match i, j, hi, hj with
    | 0, 0, _, _ => exact absurd rfl hne
    | 0, 1, _, _ => exact hap
    | 1, 0, _, _ => exact hap.symm
    | 1, 1, _, _ => exact absurd rfl hne
  · refine ⟨#[x, z], heap_alloc_new w _, rfl, fun i hi => ?_⟩
    match i, hi with
    | 0, _ => rfl
    | 1, _ => rfl
  · intro i k hi hk
    match i, hi with
    | 0, _ => have := (hx.lt k hk).2; omega
    | 1, _ => have := (hz.lt k hk).2; omega
  · intro i hi
    match i, hi with
    | 0, _ => exact lx
    | 1, _ => exact lz
  · rintro e w' ⟨rfl, hb1⟩
    exact ⟨rfl, hb0.trans hb1⟩

end Go.Proofs.YtjoghmdjnkdokaaDoor

namespace Go.Proofs.YtjoghmdjnkdokaaDoor
open Go.ChangeShapes Go.WideShapes Go.ChangeAt Go.RowKit
set_option linter.unusedVariables false

/-- A slice of whole numbers that came in: what lies there, and how it was read. -/
theorem open_seg {H : Type} {enc : TypeId × Value → H} {P : Program} {W : World} {T e : TypeId} {k : IntKind} {M : Int} {a : Option Addr} {len cap : Nat} {d : DataW H} {p : List MemPlace}
    (hT : P.underlying T = some (.slice e)) (he : P.underlying e = some (.int k)) (hc : P.cellsOf e = 1) (hM : 0 ≤ M) (hwf : ∀ n, (Lit.int k n).wf = true → 0 ≤ n ∧ n ≤ M)
    (h : DataW.Trod enc P W 0 (fun _ => true) true T (.slice a len cap) d p) :
    ∃ zs : List Int, zs.length = len ∧ SegK k M W a zs ∧ len ≤ cap ∧ (a = none → cap = 0) ∧ ((d = .nil ∧ len = 0) ∨ ∃ elems spare, d = .slice elems spare ∧ elems.length = len) := by
  obtain ⟨fuel, hf⟩ := h
  rcases open_ints hT he hc hf with ⟨hcs, hx⟩ | ⟨x, l, c, zs, hcs, _, hl, hm, hz, hx, hcell, hwz⟩
  · simp [Value.cells] at hcs
    obtain ⟨rfl, rfl, rfl⟩ := hcs
    simp only [Prod.mk.injEq] at hx
    exact ⟨[], rfl, SegK.nil hM _ _, Nat.le_refl _, fun _ => rfl, Or.inl ⟨hx.1, rfl⟩⟩
  · simp [Value.cells] at hcs
    obtain ⟨rfl, rfl, rfl⟩ := hcs
    simp only [Prod.mk.injEq] at hx
    simp only [if_true] at hz
    refine ⟨zs.take len, by simp; omega, ⟨fun i hi => ?_, hM, getD_bd hM ?_⟩, hl, (by intro h; cases h), Or.inr ⟨_, _, hx.1, by simp [ChangeShapes.lits]; omega⟩⟩
    · simp at hi
      have hi2 : i < len := by omega
      have h1 := hcell i (by omega)
      obtain ⟨b, off, spot⟩ := x
      have hs : spot = none := by
        have := hcell 0 (by omega)
        simpa [Addr.add] using World.cell?_spot this
      subst hs
      refine ⟨b, off, rfl, ?_⟩
      have hadd : (⟨b, off, none⟩ : Addr).add i = ⟨b, off + i, none⟩ := by unfold Addr.add; split <;> simp_all
      rw [hadd] at h1
      rw [h1]
      simp [List.getD, hi2]
    · intro z hz1
      exact hwf z (hwz z (List.mem_of_mem_take hz1))
end Go.Proofs.YtjoghmdjnkdokaaDoor

namespace Go.Proofs.YtjoghmdjnkdokaaDoor
open Go.ChangeShapes Go.WideShapes Go.ChangeAt Go.RowKit Go.Deep
set_option linter.unusedVariables false
set_option maxRecDepth 100000

/-! A call, a script, a set-up that came in. -/
structure Oq21 where
  c : Int
  a : Int
  p : Int
  n : Int
  ba : Option Addr
  b : List Int
  bc : Nat
theorem cells_op21 : Tryd.prog.cellsOf 40 = 5 := by kernel_rfl
theorem cells_in21 : Tryd.prog.cellsOf 3 = 1 := by kernel_rfl
theorem cells_sl21 : Tryd.prog.cellsOf 22 = 1 := by kernel_rfl
theorem cells_u821 : Tryd.prog.cellsOf 5 = 1 := by kernel_rfl
structure Of21 (W : World) (o : Oq21) : Prop where
  sg : Seg W o.ba o.b
  cap : o.b.length ≤ o.bc
  nil : o.ba = none → o.bc = 0
  c : In21 o.c
  a : In21 o.a
  p : In21 o.p
  n : In21 o.n
theorem slc21 {H : Type} {enc : TypeId × Value → H} {W : World} {k : Nat} {v : Value} {y : DataW H × List MemPlace} (g : DataW.trod enc Tryd.prog W 0 (fun _ => true) true k 22 [v] = some y) :
    ∃ (ba : Option Addr) (p : List Int) (bc : Nat), v = .slice ba p.length bc ∧ Seg W ba p ∧ p.length ≤ bc ∧ (ba = none → bc = 0) ∧ ((y.1 = .nil ∧ p.length = 0) ∨ ∃ elems spare, y.1 = .slice elems spare ∧ elems.length = p.length) := by
  obtain ⟨ba, bl, bc, rfl⟩ : ∃ ba bl bc, v = .slice ba bl bc := by
    rcases open_ints Tryd.underlying22 Tryd.underlying5 cells_u821 g with ⟨hcs, _⟩ | ⟨x, l, c, zs, hcs, _⟩
    · simp at hcs; exact ⟨_, _, _, hcs⟩
    · simp at hcs; exact ⟨_, _, _, hcs⟩
  have ht : DataW.Trod enc Tryd.prog W 0 (fun _ => true) true 22 (.slice ba bl bc) y.1 y.2 := ⟨k, by simpa [Value.cells] using g⟩
  obtain ⟨p, hp, hseg, hcap, hnil, hd⟩ := open_seg (k := .u8) (M := 255) Tryd.underlying22 Tryd.underlying5 cells_u821 (by decide) (fun n hn => bounds_u8 hn) ht
  subst hp
  exact ⟨ba, p, bc, rfl, hseg, hcap, hnil, hd⟩
theorem one_op21 {H : Type} {enc : TypeId × Value → H} {W : World} {n : Nat} {cs : List Value} {x : DataW H × List MemPlace} (h : DataW.trod enc Tryd.prog W 0 (fun _ => true) true n 40 cs = some x) (hl : cs.length = 5) :
    ∃ (o : Oq21), cs = [.int .i64 o.c, .int .i64 o.a, .int .i64 o.p, .int .i64 o.n, .slice o.ba o.b.length o.bc] ∧ Of21 W o := by
  obtain ⟨xs, k, _, hx, _, hxl, hf⟩ := DataW.trod_struct Tryd.underlying40 h
  match cs, hl with
  | [v0, v1, v2, v3, v4], _ =>
    match xs, hxl with
    | [y0, y1, y2, y3, y4], _ =>
      have g0 := hf 0 _ rfl
      have g1 := hf 1 _ rfl
      have g2 := hf 2 _ rfl
      have g3 := hf 3 _ rfl
      have g4 := hf 4 _ rfl
      simp [cells_in21, cells_sl21] at g0 g1 g2 g3 g4
      obtain ⟨V0, e0, _, w0⟩ := DataW.trod_int Tryd.underlying3 g0
      obtain ⟨V1, e1, _, w1⟩ := DataW.trod_int Tryd.underlying3 g1
      obtain ⟨V2, e2, _, w2⟩ := DataW.trod_int Tryd.underlying3 g2
      obtain ⟨V3, e3, _, w3⟩ := DataW.trod_int Tryd.underlying3 g3
      simp at e0 e1 e2 e3
      subst e0 e1 e2 e3
      obtain ⟨ba, p, bc, rfl, hs, hc, hn, _⟩ := slc21 g4
      exact ⟨⟨V0, V1, V2, V3, ba, p, bc⟩, rfl, ⟨hs, hc, hn, bounds_i64 w0, bounds_i64 w1, bounds_i64 w2, bounds_i64 w3⟩⟩
/-- A call by value that came in. -/
theorem open_opv21 {H : Type} {enc : TypeId × Value → H} {W : World} {r : Reach} {b0 : Nat} {v : Value} {d : DataW H} {pl : List MemPlace}
    (hv : Value.okWide Tryd.prog W r b0 40 v) (h : DataW.Trod enc Tryd.prog W 0 (fun _ => true) true 40 v d pl) :
    ∃ o : Oq21, v = .agg #[.int .i64 o.c, .int .i64 o.a, .int .i64 o.p, .int .i64 o.n, .slice o.ba o.b.length o.bc] ∧ Of21 W o := by
  obtain ⟨cs, rfl, hsz⟩ := okWide_struct Tryd.underlying40 hv
  rw [cells_op21] at hsz
  obtain ⟨fuel, hf⟩ := h
  obtain ⟨l⟩ := cs
  obtain ⟨o, ho, h2⟩ := one_op21 (cs := l) (by simpa [Value.cells] using hf) (by simpa using hsz)
  exact ⟨o, by rw [ho], h2⟩
/-- A script in memory. -/
structure Ss21 (W : World) (a : Option Addr) (len : Nat) (O : Nat → Oq21) : Prop where
  at_ : ∀ i, i < len → ∃ g off, a = some ⟨g, off, none⟩ ∧ W.cell? ⟨g, off + i * 5, none⟩ = some (.int .i64 (O i).c) ∧ W.cell? ⟨g, off + i * 5 + 1, none⟩ = some (.int .i64 (O i).a) ∧ W.cell? ⟨g, off + i * 5 + 2, none⟩ = some (.int .i64 (O i).p) ∧ W.cell? ⟨g, off + i * 5 + 3, none⟩ = some (.int .i64 (O i).n) ∧ W.cell? ⟨g, off + i * 5 + 4, none⟩ = some (.slice (O i).ba (O i).b.length (O i).bc)
  of : ∀ i, i < len → Of21 W (O i)
theorem open_script21 {H : Type} {enc : TypeId × Value → H} {W : World} {a : Option Addr} {len cap : Nat} {d : DataW H} {pl : List MemPlace}
    (h : DataW.Trod enc Tryd.prog W 0 (fun _ => true) true 25 (.slice a len cap) d pl) :
    ∃ O : Nat → Oq21, Ss21 W a len O ∧ ((d = .nil ∧ len = 0) ∨ ∃ elems spare, d = .slice elems spare ∧ elems.length = len) := by
  obtain ⟨fuel, hf⟩ := h
  rcases open_slice Tryd.underlying25 hf with ⟨hcs, hx⟩ | ⟨x, l, c, m, n, D, Pl, hcs, _, hl, hm, hmm, hx, hat⟩
  · simp [Value.cells] at hcs
    obtain ⟨rfl, rfl, rfl⟩ := hcs
    simp only [Prod.mk.injEq] at hx
    exact ⟨fun _ => ⟨0, 0, 0, 0, none, [], 0⟩, ⟨fun i hi => by omega, fun i hi => by omega⟩, Or.inl ⟨hx.1, rfl⟩⟩
  · simp [Value.cells] at hcs
    obtain ⟨rfl, rfl, rfl⟩ := hcs
    simp only [Prod.mk.injEq] at hx
    simp only [if_true] at hmm
    subst hmm
    rw [cells_op21] at hat
    have key : ∀ i, i < m → ∃ o : Oq21, W.cell? (x.add (i * 5)) = some (.int .i64 o.c) ∧ W.cell? (x.add (i * 5 + 1)) = some (.int .i64 o.a) ∧ W.cell? (x.add (i * 5 + 2)) = some (.int .i64 o.p) ∧ W.cell? (x.add (i * 5 + 3)) = some (.int .i64 o.n) ∧ W.cell? (x.add (i * 5 + 4)) = some (.slice o.ba o.b.length o.bc) ∧ Of21 W o := by
      intro i hi
      obtain ⟨cs', h1, h2⟩ := hat i hi
      obtain ⟨_, hlen, hcell⟩ := World.cells?_some h1
      obtain ⟨o, rfl, hO⟩ := one_op21 h2 hlen
      have e0 := hcell 0 (by omega)
      have e1 := hcell 1 (by omega)
      have e2 := hcell 2 (by omega)
      have e3 := hcell 3 (by omega)
      have e4 := hcell 4 (by omega)
      rw [add_add] at e0 e1 e2 e3 e4
      exact ⟨o, by simpa using e0, by simpa using e1, by simpa using e2, by simpa using e3, by simpa using e4, hO⟩
    haveI : Inhabited Oq21 := ⟨⟨0, 0, 0, 0, none, [], 0⟩⟩
    obtain ⟨q, hq⟩ := choose_lt key
    refine ⟨q, ⟨fun i hi => ?_, fun i hi => (hq i (by omega)).2.2.2.2.2⟩, Or.inr ⟨_, _, hx.1, by simp⟩⟩
    obtain ⟨h0, h1, h2, h3, h4, _⟩ := hq i (by omega)
    obtain ⟨b, off, spot⟩ := x
    have hs : spot = none := by
      obtain ⟨h5, _⟩ := hq 0 (by omega)
      simpa [Addr.add] using World.cell?_spot h5
    subst hs
    have hadd : ∀ j, (⟨b, off, none⟩ : Addr).add j = ⟨b, off + j, none⟩ := by intro j; unfold Addr.add; split <;> simp_all
    rw [hadd] at h0 h1 h2 h3 h4
    exact ⟨b, off, rfl, h0, by rw [Nat.add_assoc]; exact h1, by rw [Nat.add_assoc]; exact h2, by rw [Nat.add_assoc]; exact h3, by rw [Nat.add_assoc]; exact h4⟩
/-- A set-up that came in. -/
structure Su21 where
  p : Int
  q : Int
  ac : Int
  a0 : Option Addr
  l0 : List Int
  k0 : Nat
  a1 : Option Addr
  l1 : List Int
  k1 : Nat
structure Sf21 (W : World) (s : Su21) : Prop where
  s0 : Seg W s.a0 s.l0
  s1 : Seg W s.a1 s.l1
  z0 : s.l0.length ≤ s.k0
  z1 : s.l1.length ≤ s.k1
  p : In21 s.p
  q : In21 s.q
  ac : In21 s.ac
theorem cells_su21 : Tryd.prog.cellsOf 24 = 5 := by kernel_rfl
theorem open_setup21 {H : Type} {enc : TypeId × Value → H} {W : World} {r : Reach} {b0 : Nat} {v : Value} {d : DataW H} {pl : List MemPlace}
    (hv : Value.okWide Tryd.prog W r b0 24 v) (h : DataW.Trod enc Tryd.prog W 0 (fun _ => true) true 24 v d pl) :
    ∃ s : Su21, v = .agg #[.int .i64 s.p, .int .i64 s.q, .int .i64 s.ac, .slice s.a0 s.l0.length s.k0, .slice s.a1 s.l1.length s.k1] ∧ Sf21 W s := by
  obtain ⟨cs, rfl, hsz⟩ := okWide_struct Tryd.underlying24 hv
  rw [cells_su21] at hsz
  obtain ⟨l⟩ := cs
  match l, hsz with
  | [u0, u1, u2, u3, u4], _ =>
    obtain ⟨fuel, hf⟩ := h
    obtain ⟨xs, kk, _, hd, _, hxl, hfl⟩ := DataW.trod_struct Tryd.underlying24 hf
    match xs, hxl with
    | [y0, y1, y2, y3, y4], _ =>
      have g0 := hfl 0 _ rfl
      have g1 := hfl 1 _ rfl
      have g2 := hfl 2 _ rfl
      have g3 := hfl 3 _ rfl
      have g4 := hfl 4 _ rfl
      simp [cells_in21, cells_sl21, Value.cells] at g0 g1 g2 g3 g4
      obtain ⟨V0, e0, _, w0⟩ := DataW.trod_int Tryd.underlying3 g0
      obtain ⟨V1, e1, _, w1⟩ := DataW.trod_int Tryd.underlying3 g1
      obtain ⟨V2, e2, _, w2⟩ := DataW.trod_int Tryd.underlying3 g2
      simp at e0 e1 e2
      subst e0 e1 e2
      obtain ⟨ba, p, bc, rfl, hs, hc, hn, _⟩ := slc21 g3
      obtain ⟨ba', p', bc', rfl, hs', hc', hn', _⟩ := slc21 g4
      exact ⟨⟨V0, V1, V2, ba, p, bc, ba', p', bc'⟩, rfl, ⟨hs, hs', hc, hc', bounds_i64 w0, bounds_i64 w1, bounds_i64 w2⟩⟩
end Go.Proofs.YtjoghmdjnkdokaaDoor

namespace Go.Proofs.YtjoghmdjnkdokaaDoor
open Go.RowKit
set_option linter.unusedVariables false

theorem info_u8' : (Tryd.prog.info? 5).map (fun i => (i.zero, i.size, i.bytes)) = some (some (.int .u8 0), 1, 1) := by kernel_rfl
def lentL (zs : List Int) : List Int := zs ++ [171, 172, 173, 174, 175]

theorem seg_five (w : World) : Seg (w.alloc (.cells #[.int .u8 171, .int .u8 172, .int .u8 173, .int .u8 174, .int .u8 175] 5)) (some ⟨w.heap.size, 0, none⟩) [171, 172, 173, 174, 175] := by
  refine ⟨fun i hi => ⟨w.heap.size, 0, rfl, ?_⟩, by decide, ?_⟩
  · simp only [List.length_cons, List.length_nil] at hi
    match i, hi with
    | 0, _ => simp
    | 1, _ => simp
    | 2, _ => simp
    | 3, _ => simp
    | 4, _ => simp
  · exact getD_bd (by decide) (by intro z hz; simp at hz; omega)

set_option maxRecDepth 100000 in
set_option maxHeartbeats 400000 in
theorem lend_any (a : Option Addr) (zs : List Int) (cap : Nat) (w : World) (hs : Seg w a zs) (hnil : a = none → cap = 0) (hl : zs.length ≤ 140737488351232) :
    Calls Tryd.prog 13 #[.slice a zs.length cap] w fun e w' => ∃ g cap', e = .returned (.tuple #[.slice (some ⟨g, 0, none⟩) (zs.length + 5) cap', .slice (some ⟨g, 0, none⟩) zs.length cap']) ∧
      w'.ownsRow w.heap.size 5 1 (.slice (some ⟨g, 0, none⟩) (zs.length + 5) cap') (zs.length + 5) ((lentL zs).map (Value.int .u8)) ∧ Below w.heap.size w w' := by
  obtain ⟨i0, hi, hz0, hz1, hz2⟩ := info_parts info_u8'
  go_enter Tryd.func13, Tryd.ntmps13
  have hm0 : (w.alloc (.cells #[] 5)).ownsRow w.heap.size 5 1 (.slice (some ⟨w.heap.size, 0, none⟩) 0 0) 0 [] := World.ownsRow_made w #[] 0 (Nat.le_refl _) (by decide) rfl
  have hb0 : Below w.heap.size w (w.alloc (.cells #[] 5)) := (Below.refl _ _).alloc (Nat.le_refl _) _
  go_wp2_with (first
    | (at_builtin; refine wpList_append_seg rfl (.tmp 5) (.tmp 6) 22 rfl w.heap.size 5 i0 (.int .u8 0) 1 Tryd.underlying22 hi hz0 hz1 hz2 rfl hm0 (hs.alloc _) hnil rfl rfl (by omega) (by omega) (by simp) ?_; intro v1 w1 hown1 hg1 hb1)
    | (at_builtin; refine wpList_append_seg rfl (.tmp 7) (.tmp 8) 22 rfl w.heap.size 5 i0 (.int .u8 0) 1 Tryd.underlying22 hi hz0 hz1 hz2 rfl (hown1.alloc _) (seg_five w1) (by intro h; cases h) rfl rfl (by simp; omega) (by simp; omega) (by have := hb1.size; simp at this ⊢; omega) ?_; intro v2 w2 hown2 hg2 hb2))
  obtain ⟨g, cap', rfl, hc2, hg, hgs⟩ := own_shape hown2 (by simp)
  have hcc : (zs.length : Int) ≤ (cap' : Int) := by simp at hc2; omega
  have hs1 := hb1.size
  have hbb : Below w.heap.size w w2 := hb0.trans (hb1.trans (((Below.refl _ _).alloc (by simp at hs1; omega) _).trans hb2))
  have hown3 : w2.ownsRow w.heap.size 5 1 (.slice (some ⟨g, 0, none⟩) (zs.length + 5) cap') (zs.length + 5) ((lentL zs).map (Value.int .u8)) := by
    have := hown2
    simp only [List.nil_append, Nat.zero_add, ← List.map_append] at this
    exact this
  clear hown2 hown1 hg1 hg2 hb1 hb2
  have e5 : 0 + zs.length + ([171, 172, 173, 174, 175] : List Int).length = zs.length + 5 := by simp
  rw [e5]
  clear e5 hc2
  go_region
  go_wp2
  go_ret2
  exact ⟨g, cap', rfl, hown3, hbb.drew⟩

theorem lent_bd {zs : List Int} (h : ∀ z ∈ zs, 0 ≤ z ∧ z ≤ 255) : ∀ z ∈ lentL zs, 0 ≤ z ∧ z ≤ 255 := by
  intro z hz
  unfold lentL at hz
  rw [List.mem_append] at hz
  rcases hz with hz | hz
  · exact h z hz
  · simp at hz; omega

set_option maxRecDepth 100000 in
/-- The longer list is as Lend made it. -/
theorem kept_any (a b : Option Addr) (xs zs : List Int) (ca cap : Nat) (w : World) (hx : Seg w b xs) (hs : Seg w a zs) (hnil : a = none → cap = 0) (hl : zs.length ≤ 140737488351232) :
    Calls Tryd.prog 16 #[.slice b xs.length ca, .slice a zs.length cap] w fun e w' => e = .returned (.bool (xs == lentL zs)) ∧ Below w.heap.size w w' := by
  go_enter Tryd.func16, Tryd.ntmps16
  go_wp2_with fail
  refine (lend_any a zs cap _ hs hnil hl).mono ?_
  rintro e w1 ⟨g, cap', rfl, hown, hb⟩
  obtain ⟨hn, a', c', hv, hseg, _, _, _⟩ := own_seg hown (M := 255) (by decide) (lent_bd hs.mem)
  have ha : a' = some ⟨g, 0, none⟩ := by simp at hv; exact hv.1.symm
  subst ha
  clear hv
  have hx1 := hx.old hb
  go_wp2_with fail
  refine (bsame_any b (some ⟨g, 0, none⟩) xs (lentL zs) ca cap' _ hx1 hseg).mono ?_
  rintro e w2 ⟨rfl, hw2⟩
  subst w2
  go_wp2
  go_ret
  exact ⟨rfl, hb⟩
end Go.Proofs.YtjoghmdjnkdokaaDoor

namespace Go.Proofs.YtjoghmdjnkdokaaDoor
open Go.RowKit Go.Shelf
set_option linter.unusedVariables false
set_option linter.unusedSimpArgs false

/-! Both devices beside each other, behind a world. -/
structure Dv21 (B V : World) (f b : Nat) (F G F' G' : Nat → Prop) (S S2 : Fs21) : Prop where
  p : Fl21 V f F' S
  d : Rl21d V b G' S2
  dj : ∀ k, F' k → ¬ G' k
  fF : ∀ k, F' k → F k ∨ B.heap.size ≤ k
  gG : ∀ k, G' k → G k ∨ B.heap.size ≤ k
  kk : Kp (fun k => F k ∨ G k) B V
section
variable {B V V' : World} {f b : Nat} {F G F' G' : Nat → Prop} {S S2 S' : Fs21}
theorem Dv21.below (h : Dv21 B V f b F G F' G' S S2) (hb : Below V.heap.size V V') : Dv21 B V' f b F G F' G' S S2 :=
  ⟨h.p.old hb, h.d.old hb, h.dj, h.fF, h.gG, h.kk.trans (Kp.of_below hb) (fun _ _ e => e)⟩
theorem Dv21.prog (h : Dv21 B V f b F G F' G' S S2) (hn : Fn21 V V' f F' S') : ∃ F'', Dv21 B V' f b F G F'' G' S' S2 := by
  obtain ⟨F'', h1, h2, h3⟩ := hn
  refine ⟨F'', h1, h.d.kp (fun k e => h3.block k (h.d.lts k e) (fun q => h.dj k q e)) h3.size, fun k e q => ?_, fun k e => ?_, h.gG, h.kk.trans h3 (fun i hi e => ?_)⟩
  · rcases h2 k e with e | e
    · exact h.dj k e q
    · have := h.d.lts k q; omega
  · rcases h2 k e with e | e
    · exact h.fF k e
    · exact .inr (Nat.le_trans h.kk.size e)
  · rcases h.fF i e with e | e
    · exact .inl e
    · omega
theorem Dv21.doc (h : Dv21 B V f b F G F' G' S S2) (hn : Rn21 V V' b G' S') : ∃ G'', Dv21 B V' f b F G F' G'' S S' := by
  obtain ⟨G'', h1, h2, h3⟩ := hn
  have hlt : ∀ k, F' k → k < V.heap.size := by
    obtain ⟨m, c, f, ta, tc, la, lc, W, _, _, _, _, _, h6⟩ := h.p
    exact h6
  refine ⟨G'', h.p.kp (fun k e => h3.block k (hlt k e) (fun q => h.dj k e q)) h3.size, h1, fun k e q => ?_, h.fF, fun k e => ?_, h.kk.trans h3 (fun i hi e => ?_)⟩
  · rcases h2 k q with q | q
    · exact h.dj k e q
    · have := hlt k e; omega
  · rcases h2 k e with e | e
    · exact h.gG k e
    · exact .inr (Nat.le_trans h.kk.size e)
  · rcases h.gG i e with e | e
    · exact .inr e
    · omega
theorem Dv21.blk (h : Dv21 B V f b F G F' G' S S2) {k : Nat} (hk : k < B.heap.size) (h1 : ¬ F k) (h2 : ¬ G k) : V.heap[k]? = B.heap[k]? :=
  h.kk.block k hk (fun e => e.elim h1 h2)
/-- A block that is none of theirs is written. -/
theorem Dv21.set (h : Dv21 B V f b F G F' G' S S2) {g : Nat} (hk : Kp (fun k => k = g) V V') (hf : ¬ F' g) (hg : ¬ G' g) (hlt : B.heap.size ≤ g ∨ F g ∨ G g) : Dv21 B V' f b F G F' G' S S2 := by
  have hltF : ∀ k, F' k → k < V.heap.size := by
    obtain ⟨m, c, f, ta, tc, la, lc, W, _, _, _, _, _, h6⟩ := h.p
    exact h6
  refine ⟨h.p.kp (fun k e => hk.block k (hltF k e) (fun q => hf (q ▸ e))) hk.size, h.d.kp (fun k e => hk.block k (h.d.lts k e) (fun q => hg (q ▸ e))) hk.size, h.dj, h.fF, h.gG, h.kk.trans hk (fun i hi e => ?_)⟩
  subst e
  rcases hlt with e | e | e
  · omega
  · exact .inl e
  · exact .inr e
end
def ds21 (S : Fs21) (c a p n : Int) (L : List Int) : Fs21 := if c = 1 then erS21 S a p else if c = 2 then pgS21 S a p L else if c = 4 then cuS21 S n L else if c = 5 then { S with on := true } else if c = 6 then tuS21 S else if c = 7 then liS21 S n else S
def lgl21 (S S' : Fs21) : Prop := S'.lg.length ≤ S.lg.length + 1 ∧ S'.pg = S.pg ∧ S'.ps = S.ps
theorem lgl21_rn (S : Fs21) (kd x y : Int) (s : Sh21) : lgl21 S (rn21 S kd x y s) := by
  unfold rn21 cu21 go21 lgl21
  split <;> simp
theorem ok21_tu' {S : Fs21} (h : Ok21 S) : Ok21 (tuS21 S) := by
  unfold tuS21
  split
  · exact ⟨h.pg, h.ps, by have := h.ac; show 1 - S.ac = 0 ∨ 1 - S.ac = 1; omega, h.lm, h.lf, h.tn, h.sh⟩
  · exact h
theorem ok21_li {S : Fs21} (h : Ok21 S) (n : Int) : Ok21 (liS21 S n) := by
  unfold liS21
  split
  · exact h
  · exact ⟨h.pg, h.ps, h.ac, by show 0 ≤ n ∧ n ≤ 1099511627776; omega, h.lf, h.tn, h.sh⟩
theorem ok21_cu' {S : Fs21} (h : Ok21 S) (n : Int) (hn : In21 n) (L : List Int) : Ok21 (cuS21 S n L) := by
  unfold cuS21
  split
  · exact h
  · split
    · exact h
    · exact ⟨h.pg, h.ps, h.ac, h.lm, by unfold In21 at hn; show 0 ≤ n ∧ n ≤ 9223372036854775807; omega, by show (if 0 < n then L else []).length ≤ S.pg; (split <;> (first | omega | simp)), h.sh⟩
theorem ok21_ds {S : Fs21} (h : Ok21 S) (c a p n : Int) (hn : In21 n) (L : List Int) : Ok21 (ds21 S c a p n L) := by
  unfold ds21
  split
  · exact ok21_er h a p
  · split
    · exact ok21_pg h a p L
    · split
      · exact ok21_cu' h n hn L
      · split
        · exact ⟨h.pg, h.ps, h.ac, h.lm, h.lf, h.tn, h.sh⟩
        · split
          · exact ok21_tu' h
          · split
            · exact ok21_li h n
            · exact h
theorem lgl21_ds (S : Fs21) (c a p n : Int) (L : List Int) : lgl21 S (ds21 S c a p n L) := by
  have h0 : lgl21 S S := ⟨by omega, rfl, rfl⟩
  unfold ds21
  split
  · unfold erS21; split
    · exact h0
    · split
      · exact h0
      · exact lgl21_rn S _ _ _ _
  · split
    · unfold pgS21; split
      · exact h0
      · split
        · exact h0
        · split
          · exact h0
          · exact lgl21_rn S _ _ _ _
    · split
      · unfold cuS21; split
        · exact h0
        · split
          · exact h0
          · exact h0
      · split
        · exact h0
        · split
          · unfold tuS21; split <;> exact h0
          · split
            · unfold liS21; split <;> exact h0
            · exact h0
theorem ox_rw21 {w : World} {g n base : Nat} {zs : List Int} (h : Rw21 w g zs) (hn : zs.length = n) (hb : base ≤ g) (hl : n ≤ 140737488355328) : RowX 5 w base (.slice (some ⟨g, 0, none⟩) n n) zs := by
  obtain ⟨X, hX⟩ := h
  subst hn
  refine ⟨by simp, .inr ⟨g, zs.length, _, rfl, hb, hX, Nat.le_refl _, by unfold maxLen; omega, by simp, ?_⟩⟩
  simp
end Go.Proofs.YtjoghmdjnkdokaaDoor
