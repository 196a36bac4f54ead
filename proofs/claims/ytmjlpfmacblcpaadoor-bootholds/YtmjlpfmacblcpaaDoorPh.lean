import Derived.Test.YtmjlpfmacblcpaaDoorProg
import Derived.Test.YtmjlpfmacblcpaaDoorPc
import Derived.Test.YtmjlpfmacblcpaaDoorPa
import Derived.Laws.BitsAllLaws
import Derived.WalkKit
import Derived.WalkSpells
import Derived.WalkLawsBesides
import Derived.Test.YtmjlpfmacblcpaaDoorPg
import Derived.Laws.MathBits
import Derived.Laws.Externs
namespace Go.Proofs.YtmjlpfmacblcpaaDoor
open Go.RowKit
set_option linter.unusedVariables false
/-- The number that bytes are, the least first. -/
def unfL : List Int → Int
  | [] => 0
  | z :: r => z + 256 * unfL r
theorem p256 (k : Nat) : (256 : Int) ^ k = 2 ^ (8 * k) := by rw [Int.pow_mul]; rfl
theorem unfL_pos : ∀ zs : List Int, (∀ z ∈ zs, 0 ≤ z ∧ z ≤ 255) → 0 ≤ unfL zs ∧ unfL zs < 256 ^ zs.length
  | [], _ => by simp [unfL]
  | z :: r, h => by
    have ih := unfL_pos r (fun y hy => h y (by simp [hy]))
    have hz := h z (by simp)
    simp only [unfL, List.length_cons, Int.pow_succ]
    omega
theorem unfL_snoc : ∀ (l : List Int) (x : Int), unfL (l ++ [x]) = unfL l + x * 2 ^ (8 * l.length)
  | [], x => by simp [unfL]
  | z :: r, x => by
    have e : x * 2 ^ (8 * (r.length + 1)) = 256 * (x * 2 ^ (8 * r.length)) := by
      rw [show 8 * (r.length + 1) = 8 * r.length + 8 by omega, Int.pow_add, ← Int.mul_assoc, Int.mul_comm]; rfl
    simp only [List.cons_append, unfL, unfL_snoc r x, List.length_cons, e]
    omega

theorem un_or (v x : Int) (k : Nat) (hv0 : 0 ≤ v) (hv1 : v < 2 ^ (8 * k)) (hk : k ≤ 7) (h0 : 0 ≤ x) (h1 : x ≤ 255) :
    bits .or .u64 v (IntKind.u64.wrap (x * 2 ^ (8 * k))) = v + x * 2 ^ (8 * k) := by
  have hp : (0 : Int) < 2 ^ (8 * k) := Int.pow_pos (by decide)
  have hm : (2 : Int) ^ (8 * k) ≤ 72057594037927936 := by
    have := Nat.pow_le_pow_right (n := 2) (by decide) (show 8 * k ≤ 56 by omega)
    have e : ∀ j : Nat, (2 : Int) ^ j = ((2 ^ j : Nat) : Int) := fun j => by simp
    rw [e]; omega
  have hx0 : 0 ≤ x * 2 ^ (8 * k) := Int.mul_nonneg h0 (Int.le_of_lt hp)
  have hx1 : x * 2 ^ (8 * k) ≤ 255 * 2 ^ (8 * k) := Int.mul_le_mul_of_nonneg_right h1 (Int.le_of_lt hp)
  have e2 : IntKind.u64.wrap (x * 2 ^ (8 * k)) = x * 2 ^ (8 * k) := by
    rw [IntKind.wrap_u64]; exact Int.emod_eq_of_lt hx0 (by omega)
  rw [e2]
  have hd : (x * 2 ^ (8 * k)) % 2 ^ (8 * k) = 0 := Int.mul_emod_left _ _
  generalize x * 2 ^ (8 * k) = y at *
  have hc2 : ((2 : Int) ^ (8 * k)) = ((2 ^ (8 * k) : Nat) : Int) := by simp
  rw [hc2] at hd hv1 hx1 hm
  obtain ⟨V, rfl⟩ := Int.eq_ofNat_of_zero_le hv0
  obtain ⟨Y, rfl⟩ := Int.eq_ofNat_of_zero_le hx0
  rw [u64_or_nat V Y (by omega) (by omega), Nat.or_comm, nat_join (8 * k) Y V (by omega) (by omega)]
  omega

set_option maxRecDepth 100000 in
set_option maxHeartbeats 400000 in
theorem unfix_arg (a : Option Addr) (n cap : Nat) (s : Int) (w : World) (hs : ¬ (1 ≤ s ∧ s ≤ 8)) :
    Calls Tryd.prog 77 #[.slice a n cap, .int .i64 s] w fun e w' => e = .returned (.tuple #[.int .u64 0, .int .i64 1]) ∧ w' = w := by
  have hd : decide (1 ≤ s ∧ s ≤ 8) = false := by simp; omega
  go_enter Tryd.func77, Tryd.ntmps77
  go_wp2_with (go_at_call 109; refine (isFixed_any _ _).mono ?_; rintro e w' ⟨rfl, hw'⟩; subst w')
  go_ret2
  exact ⟨rfl, rfl⟩

set_option maxRecDepth 100000 in
set_option maxHeartbeats 400000 in
theorem unfix_short (a : Option Addr) (n cap s : Nat) (w : World) (h1 : 1 ≤ s) (h8 : s ≤ 8) (hn : n < s) :
    Calls Tryd.prog 77 #[.slice a n cap, .int .i64 s] w fun e w' => e = .returned (.tuple #[.int .u64 0, .int .i64 11]) ∧ w' = w := by
  have hd : decide (1 ≤ (s : Int) ∧ (s : Int) ≤ 8) = true := by simp; omega
  have hn' : (n : Int) < (s : Int) := by omega
  go_enter Tryd.func77, Tryd.ntmps77
  go_wp2_with (go_at_call 109; refine (isFixed_any _ _).mono ?_; rintro e w' ⟨rfl, hw'⟩; subst w')
  go_ret2
  exact ⟨rfl, rfl⟩

set_option maxRecDepth 100000 in
set_option maxHeartbeats 1000000 in
theorem unfix_ok (a : Option Addr) (zs : List Int) (cap s : Nat) (w : World) (hs : Seg w a zs) (hcap : zs.length ≤ cap) (hl : zs.length ≤ 140737488355328) (h1 : 1 ≤ s) (h8 : s ≤ 8) (hn : s ≤ zs.length) :
    Calls Tryd.prog 77 #[.slice a zs.length cap, .int .i64 s] w fun e w' => e = .returned (.tuple #[.int .u64 (unfL (zs.take s)), .int .i64 0]) ∧ w' = w := by
  have hd : decide (1 ≤ (s : Int) ∧ (s : Int) ≤ 8) = true := by simp; omega
  have hn' : (s : Int) ≤ (zs.length : Int) := by omega
  have hcs : (s : Int) ≤ (cap : Int) := by omega
  obtain ⟨b, off, rfl, _⟩ := hs.at_ 0 (by omega)
  go_enter Tryd.func77, Tryd.ntmps77
  go_wp2_with (go_at_call 109; refine (isFixed_any _ _).mono ?_; rintro e w' ⟨rfl, hw'⟩; subst w')
  go_loop [6, 20] (fun t i => ∃ k : Nat, k ≤ s ∧ i = .int .i64 k ∧ t = .int .u64 (unfL (zs.take k))) (fun _ i => s - (intOf i).toNat)
  case atStart => exact ⟨0, Nat.zero_le _, rfl, rfl⟩
  case round =>
    obtain ⟨k, hk, rfl, rfl⟩ := hrel
    by_cases hlt : k < s
    · have hlti : (k : Int) < (s : Int) := by omega
      obtain ⟨b', off', hb', hcell⟩ := hs.at_ k (by omega)
      cases hb'
      have hx := hs.bd k
      have hu := unfL_pos (zs.take k) (fun z hz => hs.mem z (List.mem_of_mem_take hz))
      rw [show (zs.take k).length = k by simp; omega, p256] at hu
      have HT : Hid (unfL (zs.take (k + 1)) = unfL (zs.take k) + zs.getD k 0 * 2 ^ (8 * k)) := by
        show unfL _ = _
        rw [List.take_succ_eq_append_getElem (by omega), unfL_snoc, show (zs.take k).length = k by simp; omega]
        simp [List.getD, show k < zs.length by omega]
      have HO : Hid (bits .or .u64 (unfL (zs.take k)) (IntKind.u64.wrap (zs.getD k 0 * 2 ^ (8 * k))) = unfL (zs.take k) + zs.getD k 0 * 2 ^ (8 * k)) := un_or _ _ k hu.1 hu.2 (by omega) hx.1 hx.2
      generalize zs.getD k 0 = x at *
      generalize unfL (zs.take k) = u at *
      clear hu
      go_wp2
      go_round
      case rel => exact ⟨k + 1, by omega, by go_num, by rw [HT.out, ← HO.out]⟩
      case measure => simp [intOf]; omega
    · obtain rfl : k = s := by omega
      clear hlt
      go_wp2
      go_ret2
      exact ⟨rfl, rfl⟩

theorem unf_fix : ∀ (n : Nat) (v : Int), v / 2 ^ (8 * n) = 0 → unfL (fixL n v) = v
  | 0, v, h => by simp at h; simp [fixL, unfL, h]
  | n + 1, v, h => by
    have e : v / 256 / 2 ^ (8 * n) = 0 := by
      rw [Int.ediv_ediv_of_nonneg (by decide)]
      rw [show 8 * (n + 1) = 8 + 8 * n by omega, Int.pow_add] at h
      exact h
    have ih := unf_fix n (v / 256) e
    simp only [fixL, unfL, ih]
    omega
end Go.Proofs.YtmjlpfmacblcpaaDoor

namespace Go.Proofs.YtmjlpfmacblcpaaDoor
open Go.RowKit
set_option linter.unusedVariables false
theorem own_take {w : World} {base m l g cap : Nat} {e : TypeId} {xs : List Value} (h : w.ownsRow base e 1 (.slice (some ⟨g, 0, none⟩) m cap) m xs) (hl : l ≤ m) : w.ownsRow base e 1 (.slice (some ⟨g, 0, none⟩) l cap) l (xs.take l) := by
  have hx : xs.length = m := by have := h.1; simp at this; omega
  refine ⟨by simp; omega, ?_⟩
  rcases h.2 with ⟨h0, _⟩ | ⟨g', cap', cur, hv, hb, hg, hc, hm, hs, ht⟩
  · cases h0
  · simp only [Value.slice.injEq, Option.some.injEq, Addr.mk.injEq, and_true, true_and] at hv
    obtain ⟨rfl, rfl⟩ := hv
    refine .inr ⟨g, cap, cur, rfl, hb, hg, by omega, hm, hs, ?_⟩
    rw [← ht, List.take_take, Nat.mul_one, Nat.mul_one, Nat.min_eq_left hl]

end Go.Proofs.YtmjlpfmacblcpaaDoor

namespace Go.Proofs.YtmjlpfmacblcpaaDoor
open Go.RowKit
set_option linter.unusedVariables false
/-- A block of slices: its slots. -/
def Slots (sT : TypeId) (w : World) (B n : Nat) (f : Nat → Value) : Prop := ∃ cs, w.heap[B]? = some (.cells cs sT (0, 0)) ∧ cs.size = n ∧ ∀ i, i < n → cs[i]? = some (f i)
def updO {α : Type} (f : Nat → α) (i : Nat) (x : α) : Nat → α := fun j => if j = i then x else f j
theorem upd_at {α : Type} (f : Nat → α) (i : Nat) (x : α) : updO f i x i = x := by simp [updO]
theorem upd_ne {α : Type} (f : Nat → α) (i j : Nat) (x : α) (h : j ≠ i) : updO f i x j = f j := by simp [updO, h]
theorem Slots.cell {sT : TypeId} {w : World} {B n : Nat} {f : Nat → Value} (h : Slots sT w B n f) (i : Nat) (hi : i < n) : w.cell? ⟨B, i, none⟩ = some (f i) := by
  obtain ⟨cs, hh, hs, hc⟩ := h
  rw [cell_of_row w B i cs sT (0, 0) hh]
  exact hc i hi
theorem Slots.free {sT : TypeId} {w : World} {B n : Nat} {f : Nat → Value} (h : Slots sT w B n f) (i : Nat) : w.frozen? ⟨B, i, none⟩ = false := by
  obtain ⟨cs, hh, hs, hc⟩ := h
  simp [World.frozen?, hh]
theorem Slots.lt {sT : TypeId} {w : World} {B n : Nat} {f : Nat → Value} (h : Slots sT w B n f) : B < w.heap.size := by
  obtain ⟨cs, hh, hs, hc⟩ := h
  exact (Array.getElem?_eq_some_iff.1 hh).1
theorem Slots.kept {sT : TypeId} {w w' : World} {B n : Nat} {f : Nat → Value} (h : Slots sT w B n f) (he : w'.heap[B]? = w.heap[B]?) : Slots sT w' B n f := by
  obtain ⟨cs, hh, hs, hc⟩ := h
  exact ⟨cs, by rw [he]; exact hh, hs, hc⟩
theorem Slots.grown {sT : TypeId} {w w' : World} {B n : Nat} {f : Nat → Value} {row : Option Nat} (h : Slots sT w B n f) (hg : w.grownBy w' row) (hne : some B ≠ row) : Slots sT w' B n f :=
  h.kept (hg.block B h.lt hne)
theorem Slots.set {sT : TypeId} {w : World} {B n : Nat} {f : Nat → Value} (h : Slots sT w B n f) (i : Nat) (hi : i < n) (x : Value) : Slots sT (w.setCell ⟨B, i, none⟩ x) B n (updO f i x) := by
  obtain ⟨cs, hh, hs, hc⟩ := h
  refine ⟨cs.setIfInBounds i x, by simp [World.setCell, Array.getElem?_modify, hh], by simp [hs], fun j hj => ?_⟩
  by_cases e : j = i
  · subst e; rw [upd_at, Array.getElem?_setIfInBounds_self_of_lt (by omega)]
  · rw [upd_ne _ _ _ _ e, Array.getElem?_setIfInBounds_ne (by omega)]; exact hc j hj

abbrev Row (eT : TypeId) (w : World) (base : Nat) (v : Value) (ys : List Int) : Prop := w.ownsRow base eT 1 v ys.length (ys.map (Value.int .u8))
def Ap (a b : Option Nat) : Prop := ∀ k, a = some k → b ≠ some k
theorem Ap.symm {a b : Option Nat} (h : Ap a b) : Ap b a := fun k h1 h2 => h k h2 h1
theorem Ap.none (b : Option Nat) : Ap none b := fun k h => by cases h
theorem Ap.or {a b : Option Nat} (h : Ap a b) : a = .none ∨ a ≠ b := by
  cases a with
  | none => exact .inl rfl
  | some k => exact .inr fun e => h k rfl e.symm

structure OS (eT sT : TypeId) (w : World) (base bl G n : Nat) (vs gs : Nat → Value) (ys zs : Nat → List Int) : Prop where
  rv : ∀ i, i < n → Row eT w base (vs i) (ys i)
  rg : ∀ i, i < n → Row eT w base (gs i) (zs i)
  vv : ∀ i j, i < n → j < n → i ≠ j → Ap (vs i).ownBlock (vs j).ownBlock
  gv : ∀ i j, i < n → j < n → i ≠ j → Ap (gs i).ownBlock (vs j).ownBlock
  gg : ∀ i j, i < n → j < n → i ≠ j → Ap (gs i).ownBlock (gs j).ownBlock
  sl : Slots sT w bl n vs
  sg : Slots sT w G n gs
  nv : ∀ i k, i < n → (vs i).ownBlock = some k → k ≠ bl ∧ k ≠ G
  ng : ∀ i k, i < n → (gs i).ownBlock = some k → k ≠ bl ∧ k ≠ G
  ne : bl ≠ G
  bG : base ≤ G
  bs : base ≤ w.heap.size

variable {eT sT : TypeId} {w : World} {base bl G n : Nat} {vs gs : Nat → Value} {ys zs : Nat → List Int}
/-- The grown list lies elsewhere, or it goes on behind the list. -/
def Shares (v g : Value) (y z : List Int) : Prop := Ap g.ownBlock v.ownBlock ∨ ∃ b l m c, v = .slice (some ⟨b, 0, none⟩) l c ∧ g = .slice (some ⟨b, 0, none⟩) m c ∧ l ≤ m ∧ y = z.take l
theorem Shares.row {w : World} {base : Nat} {v g : Value} {y z : List Int} (h : Shares v g y z) (hg : Row eT w base g z) (hv : Ap g.ownBlock v.ownBlock → Row eT w base v y) : Row eT w base v y := by
  rcases h with h | ⟨b, l, m, c, rfl, rfl, hl, rfl⟩
  · exact hv h
  · have hm : m = z.length := by
      rcases hg.2 with ⟨h0, _⟩ | ⟨g', c', cur, h0, _⟩
      · cases h0
      · cases h0; rfl
    subst hm
    have := own_take hg hl
    rw [← List.map_take] at this
    show World.ownsRow _ _ _ _ _ _ _
    rw [show (z.take l).length = l by simp; omega]
    exact this

/-- A grown list grows by a byte. -/
theorem OS.push (h : OS eT sT w base bl G n vs gs ys zs) (i : Nat) (hi : i < n) (x : Int) (g c : Nat) (w' : World) (hsh : Shares (vs i) (gs i) (ys i) (zs i))
    (h1 : w'.ownsRow base eT 1 (.slice (some ⟨g, 0, none⟩) ((zs i).length + 1) c) ((zs i).length + 1) ((zs i).map (Value.int .u8) ++ [.int .u8 x])) (h2 : w.grownBy w' (gs i).ownBlock) (h3 : Row eT w' base (gs i) (zs i))
    (h5 : gs i = .slice (some ⟨g, 0, none⟩) (zs i).length c ∨ w.heap.size ≤ g) :
    OS eT sT (w'.setCell ⟨G, i, none⟩ (.slice (some ⟨g, 0, none⟩) ((zs i).length + 1) c)) base bl G n vs (updO gs i (.slice (some ⟨g, 0, none⟩) ((zs i).length + 1) c)) ys (updO zs i (zs i ++ [x])) ∧
      Below base w (w'.setCell ⟨G, i, none⟩ (.slice (some ⟨g, 0, none⟩) ((zs i).length + 1) c)) ∧ Shares (vs i) (.slice (some ⟨g, 0, none⟩) ((zs i).length + 1) c) (ys i) (zs i ++ [x]) := by
  obtain ⟨v', hv'⟩ : ∃ v', v' = Value.slice (some ⟨g, 0, none⟩) ((zs i).length + 1) c := ⟨_, rfl⟩
  rw [← hv'] at h1 ⊢
  have h4 : (∃ g c, gs i = .slice (some ⟨g, 0, none⟩) (zs i).length c ∧ v' = .slice (some ⟨g, 0, none⟩) ((zs i).length + 1) c) ∨ ∃ g, v'.ownBlock = some g ∧ w.heap.size ≤ g := by
    rcases h5 with e | e
    · exact .inl ⟨g, c, e, hv'⟩
    · exact .inr ⟨g, by rw [hv']; rfl, e⟩
  clear h5
  have hnew : ∀ k, v'.ownBlock = some k → (gs i).ownBlock = some k ∨ w.heap.size ≤ k := by
    intro k hk
    rcases h4 with ⟨g, c, e1, e2⟩ | ⟨g, e1, e2⟩
    · rw [e2] at hk; rw [e1]; exact .inl hk
    · rw [e1] at hk; cases hk; exact .inr e2
  have hvlt : ∀ j k, j < n → (vs j).ownBlock = some k → k < w.heap.size := fun j k hj hk => ((h.rv j hj).lt k hk).2
  have hglt : ∀ j k, j < n → (gs j).ownBlock = some k → k < w.heap.size := fun j k hj hk => ((h.rg j hj).lt k hk).2
  have apv : ∀ j, j < n → j ≠ i → Ap v'.ownBlock (vs j).ownBlock := by
    intro j hj hne k hk hk2
    rcases hnew k hk with e | e
    · exact h.gv i j hi hj (Ne.symm hne) k e hk2
    · have := hvlt j k hj hk2; omega
  have apg : ∀ j, j < n → j ≠ i → Ap v'.ownBlock (gs j).ownBlock := by
    intro j hj hne k hk hk2
    rcases hnew k hk with e | e
    · exact h.gg i j hi hj (Ne.symm hne) k e hk2
    · have := hglt j k hj hk2; omega
  have hvi : Row eT w' base (vs i) (ys i) := hsh.row h3 fun hap => (h.rv i hi).kept h2 hap.symm.or
  have hgr : w'.grownBy (w'.setCell ⟨G, i, none⟩ v') (some G) := grownBy_set (World.grownBy.refl _ _) _
  have notG : ∀ (v : Value) (hG : ∀ k, v.ownBlock = some k → k ≠ bl ∧ k ≠ G), v.ownBlock = none ∨ v.ownBlock ≠ some G := by
    intro v hG
    cases e : v.ownBlock with
    | none => exact .inl rfl
    | some k => exact .inr fun e2 => by cases e2; exact (hG G e).2 rfl
  have ng' : ∀ k, v'.ownBlock = some k → k ≠ bl ∧ k ≠ G := by
    intro k hk
    rcases hnew k hk with e | e
    · exact h.ng i k hi e
    · have a1 := h.sl.lt
      have a2 := h.sg.lt
      exact ⟨by omega, by omega⟩
  have hrow' : Row eT w' base v' (zs i ++ [x]) := by
    show World.ownsRow _ _ _ _ _ _ _
    simpa using h1
  have rowsg : (gs i).ownBlock ≠ some bl ∧ (gs i).ownBlock ≠ some G := ⟨fun e => (h.ng i bl hi e).1 rfl, fun e => (h.ng i G hi e).2 rfl⟩
  refine ⟨⟨?_, ?_, h.vv, ?_, ?_, (h.sl.grown h2 (Ne.symm rowsg.1)).grown hgr (by intro e; cases e; exact h.ne rfl), (h.sg.grown h2 (Ne.symm rowsg.2)).set i hi _, h.nv, ?_, h.ne, h.bG, ?_⟩, ?_, ?_⟩
  · intro j hj
    by_cases e : j = i
    · subst e; exact hvi.kept hgr (notG _ (fun k hk => h.nv j k hj hk))
    · exact ((h.rv j hj).kept h2 (h.gv i j hi hj (Ne.symm e)).symm.or).kept hgr (notG _ (fun k hk => h.nv j k hj hk))
  · intro j hj
    by_cases e : j = i
    · subst e; rw [upd_at, upd_at]; exact hrow'.kept hgr (notG _ ng')
    · rw [upd_ne _ _ _ _ e, upd_ne _ _ _ _ e]
      exact ((h.rg j hj).kept h2 (h.gg j i hj hi e).or).kept hgr (notG _ (fun k hk => h.ng j k hj hk))
  · intro j l hj hl hne
    by_cases e : j = i
    · subst e; rw [upd_at]; exact apv l hl (Ne.symm hne)
    · rw [upd_ne _ _ _ _ e]; exact h.gv j l hj hl hne
  · intro j l hj hl hne
    by_cases e : j = i
    · subst e; rw [upd_at, upd_ne _ _ _ _ (Ne.symm hne)]; exact apg l hl (Ne.symm hne)
    · rw [upd_ne _ _ _ _ e]
      by_cases e2 : l = i
      · subst e2; rw [upd_at]; exact (apg j hj e).symm
      · rw [upd_ne _ _ _ _ e2]; exact h.gg j l hj hl hne
  · intro j k hj
    by_cases e : j = i
    · subst e; rw [upd_at]; exact ng' k
    · rw [upd_ne _ _ _ _ e]; exact h.ng j k hj
  · have := h2.size
    have := h.bs
    simp [World.setCell]; omega
  · have hb1 : Below base w w' := (Below.refl _ _).grown h2 h.bs (fun k hk => ((h.rg i hi).lt k hk).1)
    exact hb1.trans ((Below.refl _ _).grown hgr (Nat.le_trans h.bs h2.size) (by intro j e; cases e; exact h.bG))
  · rcases h4 with ⟨g, c, e1, e2⟩ | ⟨g, e1, e2⟩
    · rcases hsh with hs | ⟨b, l, m, c2, a1, a2, a3, a4⟩
      · left
        rw [e2]
        rw [e1] at hs
        exact hs
      · right
        rw [e1] at a2
        cases a2
        exact ⟨g, l, _, c, a1, e2, by omega, by rw [List.take_append_of_le_length a3]; exact a4⟩
    · left
      intro k hk hk2
      rw [e1] at hk
      cases hk
      have := hvlt i g hi hk2
      omega
end Go.Proofs.YtmjlpfmacblcpaaDoor

namespace Go.Proofs.YtmjlpfmacblcpaaDoor
open Go.RowKit
set_option linter.unusedVariables false
def unfE (zs : List Int) (s : Int) : Int := if 1 ≤ s ∧ s ≤ 8 then (if zs.length < s.toNat then 11 else 0) else 1
def unfV (zs : List Int) (s : Int) : Int := if unfE zs s = 0 then unfL (zs.take s.toNat) else 0

theorem unfix_any (a : Option Addr) (zs : List Int) (cap : Nat) (s : Int) (w : World) (hs : Seg w a zs) (hcap : zs.length ≤ cap) (hl : zs.length ≤ 140737488355328) :
    Calls Tryd.prog 77 #[.slice a zs.length cap, .int .i64 s] w fun e w' => e = .returned (.tuple #[.int .u64 (unfV zs s), .int .i64 (unfE zs s)]) ∧ w' = w := by
  by_cases h : 1 ≤ s ∧ s ≤ 8
  · obtain ⟨n, rfl⟩ := Int.eq_ofNat_of_zero_le (show 0 ≤ s by omega)
    by_cases hz : zs.length < n
    · have e1 : unfE zs (n : Int) = 11 := by simp only [unfE, if_pos h, Int.toNat_natCast, if_pos hz]
      have e2 : unfV zs (n : Int) = 0 := by simp [unfV, e1]
      rw [e1, e2]
      exact unfix_short a _ cap n w (by omega) (by omega) hz
    · have e1 : unfE zs (n : Int) = 0 := by simp only [unfE, if_pos h, Int.toNat_natCast, if_neg hz]
      have e2 : unfV zs (n : Int) = unfL (zs.take n) := by simp only [unfV, if_pos e1, Int.toNat_natCast]
      rw [e1, e2]
      exact unfix_ok a zs cap n w hs hcap hl (by omega) (by omega) (by omega)
  · have e1 : unfE zs s = 1 := by simp only [unfE, if_neg h]
    have e2 : unfV zs s = 0 := by simp [unfV, e1]
    rw [e1, e2]
    exact unfix_arg a _ cap s w h
end Go.Proofs.YtmjlpfmacblcpaaDoor

namespace Go.Proofs.YtmjlpfmacblcpaaDoor
open Go.RowKit Go.Shelf
set_option linter.unusedVariables false
set_option linter.unusedSimpArgs false
def fo25 (k : Nat) : Nat := ([4, 12, 13, 17, 21, 25, 26, 30, 34, 38, 39] : List Nat).getD k 0
def fk25 (k : Nat) : IntKind := if fu25 k then .u32 else .i64
def dv25 (zs : List Int) (k : Nat) : Int := (fk25 k).wrap (unfL ((zs.drop (fo25 k)).take (fz25 k).toNat))
def dr25 (zs : List Int) : Rc25 := ⟨dv25 zs 0, ⟨dv25 zs 1, dv25 zs 2, dv25 zs 3, dv25 zs 4⟩, ⟨dv25 zs 5, dv25 zs 6, dv25 zs 7, dv25 zs 8⟩, dv25 zs 9⟩
def rv25 (f : Nat → Value) : Nat → Array Value
  | 0 => #[.int .i64 0, .int .i64 0, .int .i64 0, .int .i64 0, .int .u32 0, .int .i64 0, .int .i64 0, .int .i64 0, .int .u32 0, .int .i64 0]
  | n + 1 => (rv25 f n).setIfInBounds n (f n)
theorem rv25_all (f : Nat → Value) : rv25 f 10 = #[f 0, f 1, f 2, f 3, f 4, f 5, f 6, f 7, f 8, f 9] := by kernel_rfl
theorem rv25_get (f : Nat → Value) (n : Nat) (h : n < 10) : (rv25 f n)[n]? = some (.int (fk25 n) 0) := by
  rcases (by omega : n = 0 ∨ n = 1 ∨ n = 2 ∨ n = 3 ∨ n = 4 ∨ n = 5 ∨ n = 6 ∨ n = 7 ∨ n = 8 ∨ n = 9) with rfl | rfl | rfl | rfl | rfl | rfl | rfl | rfl | rfl | rfl <;> kernel_rfl
def rs25 (zs : List Int) : Nat → Array Value := rv25 (fun k => .int (fk25 k) (dv25 zs k))
theorem rs25_all (zs : List Int) : rs25 zs 10 = (dr25 zs).cs := by
  unfold rs25 dr25 Rc25.cs
  rw [rv25_all]
  generalize dv25 zs = d
  rfl
theorem rs25_get (zs : List Int) (n : Nat) (h : n < 10) : (rs25 zs n)[n]? = some (.int (fk25 n) 0) := rv25_get _ n h
/-- What Decode takes. -/
def tk25 (zs : List Int) : Prop := 43 ≤ zs.length ∧ zs.take 4 = mg25 ∧ unfL ((zs.drop 39).take 4) = wI (sumW (zs.take 39))
instance (zs : List Int) : Decidable (tk25 zs) := by unfold tk25; infer_instance
/-- What Decode answers. -/
def de25 (zs : List Int) : Rc25 × Int := if tk25 zs then (cd25 (dr25 zs), ck25 (dr25 zs)) else (zr25, 250)
theorem fo25_next (k : Nat) (h : k < 10) : fo25 (k + 1) = fo25 k + (fz25 k).toNat ∧ fo25 k + (fz25 k).toNat ≤ 39 ∧ 1 ≤ (fz25 k).toNat ∧ (fz25 k).toNat ≤ 8 ∧ fz25 k = (((fz25 k).toNat : Nat) : Int) := by
  rcases (by omega : k = 0 ∨ k = 1 ∨ k = 2 ∨ k = 3 ∨ k = 4 ∨ k = 5 ∨ k = 6 ∨ k = 7 ∨ k = 8 ∨ k = 9) with rfl | rfl | rfl | rfl | rfl | rfl | rfl | rfl | rfl | rfl <;> decide
theorem slice_lo25 (x : Addr) (n k m : Nat) (hnk : n ≤ k) (hm : m ≤ n) (hmk : m < k) (W : World) : (Instr.slice 22 (.slice (some x) n k) (some (.int .i64 (m : Int))) none none).run Tryd.prog W = .ok (.slice (some (x.add m)) (n - m) (k - m)) W := by
  have h1 : (m : Int) ≤ (n : Int) := by omega
  have h2 : (n : Int) ≤ (k : Int) := by omega
  have h0 : (0 : Int) ≤ (m : Int) := by omega
  have h3 : (0 : Int) ≤ (n : Int) := by omega
  have h4 : (m : Int) ≤ (k : Int) := by omega
  have hkm' : ¬ ((k : Int) = (m : Int)) := by omega
  have hkm : ¬ (k = m) := by omega
  go_simp
theorem add25 (g o m : Nat) : (⟨g, o, none⟩ : Addr).add m = ⟨g, o + m, none⟩ := by unfold Addr.add; split <;> simp_all
set_option maxRecDepth 100000 in
set_option maxHeartbeats 4000000 in
theorem pdec125 {w : World} {ob g o cp d s : Nat} {zs : List Int} {v z : Int} (hs : Seg w (some ⟨g, o, none⟩) zs) (h43 : 43 ≤ zs.length) (hcp : zs.length ≤ cp) (hl : zs.length ≤ 140737488355328) (hq : w.heap[ob]? = some (.cells #[.slice (some ⟨g, o + d, none⟩) (39 - d) (cp - d)] 22 (0, 0))) (hz : z = (s : Int)) (h1 : 1 ≤ s) (h8 : s ≤ 8) (hd : d + s ≤ 39) :
    Calls Tryd.prog 80 #[.int .u64 v, .int .i64 z, .pointer (some ⟨ob, 0, none⟩)] w fun e w' => e = .returned (.int .u64 (unfL ((zs.drop d).take s))) ∧ w'.heap[ob]? = some (.cells #[.slice (some ⟨g, o + (d + s), none⟩) (39 - (d + s)) (cp - (d + s))] 22 (0, 0)) ∧ Kp (fun k => k = ob) w w' := by
  subst hz
  have c0 : w.cell? ⟨ob, 0, none⟩ = some (.slice (some ⟨g, o + d, none⟩) (39 - d) (cp - d)) := cell25 hq rfl
  have f0 : w.frozen? ⟨ob, 0, none⟩ = false := free_row25 hq 0
  have hL : ((zs.take 39).drop d).length = 39 - d := by rw [List.length_drop, List.length_take]; omega
  have UF := unfix_any (some ⟨g, o + d, none⟩) ((zs.take 39).drop d) (cp - d) (s : Int) w ((hs.take 39).drop d) (by omega) (by omega)
  have hE : unfE ((zs.take 39).drop d) (s : Int) = 0 := by unfold unfE; rw [if_pos (by omega), if_neg (by simp only [Int.toNat_natCast]; omega)]
  have hV : unfV ((zs.take 39).drop d) (s : Int) = unfL ((zs.drop d).take s) := by
    unfold unfV
    rw [if_pos hE, Int.toNat_natCast]
    congr 1
    rw [List.drop_take, List.take_take, Nat.min_eq_left (by omega)]
  rw [hE, hV, hL] at UF
  have SL := slice_lo25 ⟨g, o + d, none⟩ (39 - d) (cp - d) s (by omega) (by omega) (by omega)
  rw [add25, show 39 - d - s = 39 - (d + s) by omega, show cp - d - s = cp - (d + s) by omega, show o + d + s = o + (d + s) by omega] at SL
  generalize unfL ((zs.drop d).take s) = y at *
  generalize hn : 39 - d = n at *
  generalize hk : cp - d = k at *
  generalize 39 - (d + s) = n2 at *
  generalize cp - (d + s) = k2 at *
  generalize o + d = o1 at *
  generalize o + (d + s) = o2 at *
  have HQ : Hid (w.heap[ob]? = some (.cells #[.slice (some ⟨g, o1, none⟩) n k] 22 (0, 0))) := hq
  clear hs h43 hcp hl hq h1 h8 hd hL hE hV hn hk
  go_enter Tryd.func80, Tryd.ntmps80
  go_wp2_with fail
  refine UF.mono ?_
  rintro e1 w1 ⟨rfl, hw1⟩
  subst hw1
  clear UF
  go_wp2_with fail
  go_ret
  exact ⟨rfl, by rw [setCell_row25 HQ.out]; exact set_row25 HQ.out, Kp.set (S := fun k => k = ob) rfl _⟩
end Go.Proofs.YtmjlpfmacblcpaaDoor

namespace Go.Proofs.YtmjlpfmacblcpaaDoor
open Go.RowKit
set_option linter.unusedVariables false
set_option linter.unusedSimpArgs false
set_option maxRecDepth 100000 in
set_option maxHeartbeats 1000000 in
theorem pmul64_21 (n : Nat) (hn : n ≤ 33554432) (w : World) : Calls Tryd.prog 123 #[.int .u64 1, .int .u64 (n : Int)] w fun e w' => e = .returned (.tuple #[.int .u64 0, .int .u64 (n : Int)]) ∧ w' = w := by
  have a1 : bits .and .u64 1 4294967295 = 1 := by rw [_root_.Go.and_low32 1 (by omega) (by omega)]; rfl
  have a0 : bits .and .u64 0 4294967295 = 0 := by rw [_root_.Go.and_low32 0 (by omega) (by omega)]; rfl
  have an : bits .and .u64 (n : Int) 4294967295 = (n : Int) := by rw [_root_.Go.and_low32 _ (by omega) (by omega)]; omega
  have wn : IntKind.u64.wrap (n : Int) = (n : Int) := IntWalk.u64_in _ (by omega)
  have w0 : IntKind.u64.wrap 0 = 0 := IntWalk.u64_in _ (by omega)
  have qn : (n : Int) / 4294967296 = 0 := by omega
  go_enter Tryd.func123, Tryd.ntmps123
  go_wp2
  go_ret2
  exact ⟨by simp [a1, a0, an, wn, w0, qn], rfl⟩
set_option maxRecDepth 100000 in
set_option maxHeartbeats 1000000 in
theorem pmul21 (n : Nat) (hn : n ≤ 33554432) (w : World) : Calls Tryd.prog 105 #[.int .u64 1, .int .u64 (n : Int)] w fun e w' => e = .returned (.tuple #[.int .u64 0, .int .u64 (n : Int)]) ∧ w' = w := by
  have HM := pmul64_21 n hn
  go_enter Tryd.func105, Tryd.ntmps105
  go_wp2_with fail
  refine (HM _).mono ?_
  rintro e w1 ⟨rfl, hw⟩
  subst hw
  go_wp2_with fail
  go_ret2
  exact ⟨rfl, rfl⟩
theorem digits21 : ∀ (n t : Nat) (L : List Int), ∃ X : List Int, X.length = n ∧ Extern.BytealgMakeNoZero.digits n t (L.map (Value.int .u8)).toArray = ((L ++ X).map (Value.int .u8)).toArray
  | 0, _, L => ⟨[], rfl, by simp [Extern.BytealgMakeNoZero.digits]⟩
  | n + 1, t, L => by
    obtain ⟨X, h1, h2⟩ := digits21 n (t / 256) (L ++ [Int.ofNat (t % 256)])
    refine ⟨Int.ofNat (t % 256) :: X, by simp [h1], ?_⟩
    rw [Extern.BytealgMakeNoZero.digits]
    have e : (L.map (Value.int .u8)).toArray.push (.int .u8 (Int.ofNat (t % 256))) = ((L ++ [Int.ofNat (t % 256)]).map (Value.int .u8)).toArray := by simp
    rw [e, h2]
    simp
/-- The entry MakeNoZero: a new row of some bytes. -/
theorem run_mnz21 (n : Nat) (hn : n ≤ 281474976710656) (w : World) :
    ∃ X : List Int, n ≤ X.length ∧ (callFunc 106 #[.int .i64 (n : Int)]).run Tryd.prog w = .ok (.value (.slice (some ⟨w.heap.size, 0, none⟩) n X.length)) ((w.alloc (.cells (X.map (Value.int .u8)).toArray 5)).drewN 2) := by
  have hdef : Extern.BytealgMakeNoZero.makeNoZero #[3] #[22] #[.int .i64 n] =
      (do
        let .slice elem ← underlying 22 | stuck "bytealg.MakeNoZero: slice type expected"
        if (n : Int) < 0 || (n : Int) > 2 ^ 48 then runtimePanic (.error "makeslice: len out of range")
        let cap ← choose (.appendCap (n : Int).toNat 0 elem)
        askRoom cap
        let bytes ← choose (.extern "internal/bytealg.MakeNoZero.bytes" 0)
        let a ← newRow elem (Extern.BytealgMakeNoZero.digits cap bytes #[])
        pure (.slice (some a) (n : Int).toNat cap)) := rfl
  obtain ⟨X, hX, hd⟩ := digits21 (grownCap w n 0 5) ((Question.extern "internal/bytealg.MakeNoZero.bytes" 0).cut (w.tape (w.drawn + 1) (.extern "internal/bytealg.MakeNoZero.bytes" 0))) []
  refine ⟨X, by rw [hX]; exact grownCap_ge w n 0 _, ?_⟩
  rw [run_callFunc_extern Tryd.func106 (by kernel_rfl) (by kernel_rfl) (by kernel_rfl) (e := Extern.BytealgMakeNoZero.makeNoZero #[3] #[22]) (by kernel_rfl), hdef]
  have h1 : ¬ (n : Int) < 0 := by omega
  have h2 : ¬ (281474976710656 : Int) < (n : Int) := by omega
  simp only [List.map_nil, List.nil_append] at hd
  simp [run_underlying Tryd.underlying22, h1, h2, Question.forced, newRow, Lib.size_digits, grownCap] at hX hd ⊢
  rw [hd]
  simp [hX]
  rfl
/-- copy in a drawn region. -/
theorem step_copy21 {P : Program} {ops : Array Oper} {o : Oper} {a : Act} {w : World} {K : Act → World → Prop} {Q : Exit → Act → World → Prop} {E : Prop} (hgd : o.guard = none) (d s : Operand) (dT sT : TypeId)
    (ho : o.op = .call { callee := .builtin .copy, args := #[d, s], argTypes := #[dT, sT] }) (elem : TypeId) (hu : P.underlying dT = some (.slice elem)) (hsz : (P.info? elem).map (·.size) = some 1)
    {dp sp : Option Addr} {dLen dCap sLen sCap : Nat} (hd : a.eval d = .slice dp dLen dCap) (hs : a.eval s = .slice sp sLen sCap)
    (g off : Nat) (X : List Int) (t : TypeId) (hg : w.heap[g]? = some (.cells (X.map (Value.int .u8)).toArray t (0, 0))) (cs : List Int) (m : Nat) (hm : cs.length = m) (hn : m = Nat.min sLen dLen)
    (hpos : 0 < cs.length → dp = some ⟨g, off, none⟩ ∧ Seg w sp cs) (hfit : off + m ≤ X.length)
    (h : ∀ w', Hid (w'.heap[g]? = some (.cells ((sp21 X off cs).map (Value.int .u8)).toArray t (0, 0))) → Kp (fun k => k = g) w w' → K (a.put o.dst (.int .i64 (m : Int))) w') :
    if Region.wanted o (yielded ops a.tmps) = true then Oper.wp P o a w K Q else E := by
  have hw : Region.wanted o (yielded ops a.tmps) = true := by simp [Region.wanted, hgd]
  rw [if_pos hw]
  subst hm
  obtain ⟨w', hrun, h1, h2⟩ := run_copy21 (P := P) (w := w) dT sT o.type elem hu hsz dp sp dLen dCap sLen sCap g off X t hg cs hn hpos hfit
  unfold Oper.wp
  simp [execOp, ho, resolve, invoke, builtin, hd, hs, hrun, Result.andThen]
  exact h w' h1 h2
end Go.Proofs.YtmjlpfmacblcpaaDoor
