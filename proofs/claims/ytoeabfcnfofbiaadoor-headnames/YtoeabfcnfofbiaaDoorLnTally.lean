
import Derived.Test.YtoeabfcnfofbiaaDoorLnLast
import Derived.Test.YtoeabfcnfofbiaaDoorLnHeap
import Derived.Test.YtoeabfcnfofbiaaDoorLnMk
namespace Go.Proofs.YtoeabfcnfofbiaaDoor
open Go.RowKit
set_option linter.unusedVariables false

def bump (A : List Int) (s : Nat) : List Int := A.set s (A.getD s 0 + 1)
def bumps (A : List Int) (l : List Nat) : List Int := l.foldl bump A
theorem bump_len (A : List Int) (s : Nat) : (bump A s).length = A.length := by simp [bump]
theorem bumps_len : ∀ (l : List Nat) (A : List Int), (bumps A l).length = A.length
  | [], A => rfl
  | s :: l, A => by show (bumps (bump A s) l).length = _; rw [bumps_len l, bump_len]
theorem bumps_app (A : List Int) (l r : List Nat) : bumps A (l ++ r) = bumps (bumps A l) r := List.foldl_append ..
theorem bump_get (A : List Int) (s i : Nat) (h : s < A.length) : (bump A s).getD i 0 = A.getD i 0 + (if i = s then 1 else 0) := by
  unfold bump
  simp only [List.getD, List.getElem?_set]
  by_cases e : s = i
  · subst e; simp [h]
  · have e' : ¬ i = s := fun h => e h.symm
    simp [e, e']
theorem bumps_get : ∀ (l : List Nat) (A : List Int) (i : Nat), (∀ s ∈ l, s < A.length) → (bumps A l).getD i 0 = A.getD i 0 + (l.count i : Int)
  | [], A, i, _ => by simp [bumps]
  | s :: l, A, i, h => by
    have h1 := bumps_get l (bump A s) i (fun x hx => by rw [bump_len]; exact h x (by simp [hx]))
    show (bumps (bump A s) l).getD i 0 = _
    rw [h1, bump_get A s i (h s (by simp)), List.count_cons]
    by_cases e : i = s
    · subst e; simp; omega
    · have e' : (s == i) = false := by simp; exact fun h => e h.symm
      simp [e, e']
/-- The two boxes of the count, and the lengths. -/
structure Tb (w : World) (pl pc o N B : Nat) (A : List Int) : Prop where
  cl : w.heap[pl]? = some (.cells #[.slice (some ⟨o, 0, none⟩) N N] 22 (0, 0))
  cc : w.heap[pc]? = some (.cells #[.func (.func 108) #[] #[.pointer (some ⟨pl, 0, none⟩), .pointer (some ⟨pc, 0, none⟩)]] 175 (0, 0))
  own : w.ownsRow B 3 1 (.slice (some ⟨o, 0, none⟩) N N) N (A.map (Value.int .i64))
  ne1 : pl ≠ o
  ne2 : pc ≠ o
theorem Tb.set {w w' : World} {pl pc o N B : Nat} {A A' : List Int} (h : Tb w pl pc o N B A) (hg : w.grownBy w' (some o)) (ho : w'.ownsRow B 3 1 (.slice (some ⟨o, 0, none⟩) N N) N (A'.map (Value.int .i64))) : Tb w' pl pc o N B A' :=
  ⟨by rw [hg.block pl (Array.getElem?_eq_some_iff.1 h.cl).1 (by intro e; simp at e; exact h.ne1 e)]; exact h.cl, by rw [hg.block pc (Array.getElem?_eq_some_iff.1 h.cc).1 (by intro e; simp at e; exact h.ne2 e)]; exact h.cc, ho, h.ne1, h.ne2⟩

set_option maxRecDepth 100000 in
set_option maxHeartbeats 2000000 in
theorem count_any (pl pc o N B M0 : Nat) (G : Nat → Prop) (hGo : ∀ k, G k → k ≠ o ∧ k < M0) (hN : N ≤ 100000) : ∀ (d b off : Nat) (x : Im) (t : It) (A : List Int) (w : World), M0 ≤ w.heap.size → Mn G w d x t → ItAt w b off x → b ≠ o → Tb w pl pc o N B A → A.length = N → (∀ s ∈ t.2, s < N) → (∀ i, 0 ≤ A.getD i 0 ∧ A.getD i 0 + t.2.length ≤ 4611686018427387904) →
    Calls Tryd.prog 108 #[.pointer (some ⟨b, off, none⟩), .pointer (some ⟨pl, 0, none⟩), .pointer (some ⟨pc, 0, none⟩)] w fun e w' => e = .returned (.tuple #[]) ∧ Tb w' pl pc o N B (bumps A t.2) ∧ w.grownBy w' (some o) := by
  have leafCase : ∀ (b off : Nat) (x : Im) (t : It) (A : List Int) (w : World), isLeaf x t → ItAt w b off x → Tb w pl pc o N B A → A.length = N → (∀ s ∈ t.2, s < N) → (∀ i, 0 ≤ A.getD i 0 ∧ A.getD i 0 + t.2.length ≤ 4611686018427387904) →
      Calls Tryd.prog 108 #[.pointer (some ⟨b, off, none⟩), .pointer (some ⟨pl, 0, none⟩), .pointer (some ⟨pc, 0, none⟩)] w fun e w' => e = .returned (.tuple #[]) ∧ Tb w' pl pc o N B (bumps A t.2) ∧ w.grownBy w' (some o) := by
    rintro b off ⟨xw, xs, xf, xn⟩ t A w ⟨h1, h2, h3, h4, rfl⟩ hx hT hA hs hb
    simp only at h1 h2 h3 h4
    subst h1 h2
    obtain ⟨c0, c1, c2, c3⟩ := hx
    simp only at c0 c1 c2 c3 hs hb
    obtain ⟨s, rfl⟩ : ∃ s : Nat, xs = (s : Int) := ⟨xs.toNat, by omega⟩
    simp only [Int.toNat_natCast, List.mem_singleton, List.length_singleton, forall_eq] at hs hb
    have hl := hT.cl
    have l0 : w.cell? ⟨pl, 0, none⟩ = some (.slice (some ⟨o, 0, none⟩) N N) := by simp [World.cell?, hl]
    obtain ⟨a0, fz⟩ := own_cell1 hT.own (i := s) (by omega)
    have f0 := fz s
    have hb0 := hb s
    have HB : Hid (bumps A [s] = A.set s (A.getD s 0 + 1)) := by show _ = _; rfl
    have HST := hT.own.stored s (.int .i64 (A.getD s 0 + 1))
    rw [← List.map_set, ← HB.out] at HST
    have HTT : Hid _ := HST
    clear HST
    generalize A.getD s 0 = z at *
    have zi : (s : Int) < (N : Int) := by omega
    go_enter Tryd.func108, Tryd.ntmps108
    go_wp2_with fail
    go_region
    go_wp2
    refine bodyPost_ret (results_none rfl _ _ _) rfl ?_
    obtain ⟨o2, g2⟩ := HTT.out
    exact ⟨rfl, hT.set (grownBy_drew g2) o2, grownBy_drew g2⟩
  intro d
  induction d with
  | zero =>
    intro b off x t A w hw hm hx hbo hT hA hs hb
    exact leafCase b off x t A w hm hx hT hA hs hb
  | succ d ih =>
    intro b off x t A w hw hm hx hbo hT hA hs hb
    rcases hm with hm | ⟨b1, o1, b2, o2, y, z, s, u, h1, h2, h3, h4, h5, h6, h7, h8, h9, rfl⟩
    · exact leafCase b off x t A w hm hx hT hA hs hb
    · obtain ⟨xw, xs, xf, xn⟩ := x
      simp only at h1 h2 h9
      subst h1 h2
      have hGb := (hGo b1 h3).1
      have hGb2 := (hGo b2 h4).1
      simp only [List.mem_append, List.length_append] at hs hb
      have IH1 : Hid (∀ W, Below w.heap.size w W → Calls Tryd.prog 108 #[.pointer (some ⟨b1, o1, none⟩), .pointer (some ⟨pl, 0, none⟩), .pointer (some ⟨pc, 0, none⟩)] W fun e w' => e = .returned (.tuple #[]) ∧ Tb w' pl pc o N B (bumps A s.2) ∧ w.grownBy w' (some o)) := fun W hW => by
        have hg : w.grownBy W (some o) := ⟨hW.os, hW.tape, hW.output, hW.size, fun i hi _ => hW.block i hi⟩
        have hh : ∀ k, G k → W.heap[k]? = w.heap[k]? := fun k hk => hW.block k (Nat.lt_of_lt_of_le (hGo k hk).2 hw)
        refine (ih b1 o1 y s A W (Nat.le_trans hw hW.size) (Mn.keep hh d y s h7) (h5.of_block (hW.block b1 h5.lt)) hGb (hT.set hg (own_below hT.own hW)) hA (fun q hq => hs q (.inl hq)) (fun i => by have := hb i; omega)).mono ?_
        rintro e w' ⟨r1, r2, r3⟩
        exact ⟨r1, r2, grownBy_trans hg r3⟩
      have IH2 : Hid (∀ w2 W, w.grownBy w2 (some o) → Tb w2 pl pc o N B (bumps A s.2) → Below w2.heap.size w2 W → Calls Tryd.prog 108 #[.pointer (some ⟨b2, o2, none⟩), .pointer (some ⟨pl, 0, none⟩), .pointer (some ⟨pc, 0, none⟩)] W fun e w' => e = .returned (.tuple #[]) ∧ Tb w' pl pc o N B (bumps A (s.2 ++ u.2)) ∧ w2.grownBy w' (some o)) := fun w2 W hg1 hT2 hW => by
        have hg : w2.grownBy W (some o) := ⟨hW.os, hW.tape, hW.output, hW.size, fun i hi _ => hW.block i hi⟩
        have hgg := grownBy_trans hg1 hg
        have hh : ∀ k, G k → W.heap[k]? = w.heap[k]? := fun k hk => hgg.block k (Nat.lt_of_lt_of_le (hGo k hk).2 hw) (by intro e; simp at e; exact (hGo k hk).1 e)
        refine (ih b2 o2 z u (bumps A s.2) W (Nat.le_trans hw hgg.size) (Mn.keep hh d z u h8) (h6.of_block (hh b2 h4)) hGb2 (hT2.set hg (own_below hT2.own hW)) (by rw [bumps_len]; exact hA) (fun q hq => hs q (.inr hq)) (fun i => ?_)).mono ?_
        · rw [bumps_get s.2 A i (fun q hq => by rw [hA]; exact hs q (.inl hq))]
          have h10 := hb i
          have h11 : s.2.count i ≤ s.2.length := List.count_le_length
          omega
        rintro e w' ⟨r1, r2, r3⟩
        exact ⟨r1, by rw [bumps_app]; exact r2, grownBy_trans hg r3⟩
      obtain ⟨c0, c1, c2, c3⟩ := hx
      simp only at c0 c1 c2 c3
      have pcc : w.cell? ⟨pc, 0, none⟩ = some (.func (.func 108) #[] #[.pointer (some ⟨pl, 0, none⟩), .pointer (some ⟨pc, 0, none⟩)]) := by simp [World.cell?, hT.cc]
      have HX3 : Hid (ItAt w b off ⟨xw, xs, some ⟨b1, o1, none⟩, some ⟨b2, o2, none⟩⟩) := ⟨c0, c1, c2, c3⟩
      have d0 : Below w.heap.size w w := Below.refl _ _
      have d1 : Below w.heap.size w w.drew := (Below.refl _ _).drew
      have HK : Hid (∀ W, w.grownBy W (some o) → (W.cell? ⟨pc, 0, none⟩ = some (.func (.func 108) #[] #[.pointer (some ⟨pl, 0, none⟩), .pointer (some ⟨pc, 0, none⟩)]) ∧ W.cell? ⟨b, off + 2, none⟩ = some (.pointer (some ⟨b1, o1, none⟩))) ∧ W.cell? ⟨b, off + 3, none⟩ = some (.pointer (some ⟨b2, o2, none⟩))) := fun W hW => by
        have e1 := hW.block pc (Array.getElem?_eq_some_iff.1 hT.cc).1 (by intro e; simp at e; exact hT.ne2 e)
        have e2 := HX3.out.of_block (hW.block b HX3.out.lt (by intro e; simp at e; exact hbo e))
        exact ⟨⟨(World.cell?_of_block (a := ⟨pc, 0, none⟩) e1).trans pcc, e2.c2⟩, e2.c3⟩
      clear ih leafCase h5 h6 h7 h8 h9 hs hb hA hT
      go_enter Tryd.func108, Tryd.ntmps108
      go_wp2_with fail
      go_region_held3 (fun w' => w'.cell? ⟨pc, 0, none⟩ = some (.func (.func 108) #[] #[.pointer (some ⟨pl, 0, none⟩), .pointer (some ⟨pc, 0, none⟩)]) ∧ w'.cell? ⟨b, off + 2, none⟩ = some (.pointer (some ⟨b1, o1, none⟩)))
        (first | go_keep | (exact (HK.out _ (by assumption)).1))
        (first | (go_at_call 108; refine (IH1.out _ (by assumption)).mono ?_; rintro e w2 ⟨rfl, T2, g2⟩))
      have k2 := HK.out _ g2
      have q1 := k2.1.1
      have q2 := k2.2
      have HK2 : Hid (∀ W, w2.grownBy W (some o) → W.cell? ⟨pc, 0, none⟩ = some (.func (.func 108) #[] #[.pointer (some ⟨pl, 0, none⟩), .pointer (some ⟨pc, 0, none⟩)]) ∧ W.cell? ⟨b, off + 3, none⟩ = some (.pointer (some ⟨b2, o2, none⟩))) := fun W hW => by
        have := HK.out W (grownBy_trans g2 hW)
        exact ⟨this.1.1, this.2⟩
      have IH3 : Hid _ := fun W (hW : Below w2.heap.size w2 W) => IH2.out w2 W g2 T2 hW
      have e0 : Below w2.heap.size w2 w2 := Below.refl _ _
      have e1 : Below w2.heap.size w2 w2.drew := (Below.refl _ _).drew
      clear IH1 IH2 HK k2 c0 c1 c2 c3 pcc d0 d1
      go_wp2_with fail
      go_region_held3 (fun w' => w'.cell? ⟨pc, 0, none⟩ = some (.func (.func 108) #[] #[.pointer (some ⟨pl, 0, none⟩), .pointer (some ⟨pc, 0, none⟩)]) ∧ w'.cell? ⟨b, off + 3, none⟩ = some (.pointer (some ⟨b2, o2, none⟩)))
        (first | go_keep | (exact HK2.out _ (by assumption)))
        (first | (go_at_call 108; refine (IH3.out _ (by assumption)).mono ?_; rintro e w3 ⟨rfl, T3, g3⟩))
      go_wp2
      go_end0
      exact ⟨rfl, T3, grownBy_trans g2 g3⟩
end Go.Proofs.YtoeabfcnfofbiaaDoor
