
import Derived.Test.YtoeabfcnfofbiaaDoorLnPm
namespace Go.Proofs.YtoeabfcnfofbiaaDoor
set_option linter.unusedVariables false

/-! Huffman's way: the two least are taken away, and their sum is put in their place. -/
def ins (x : Nat) : List Nat → List Nat
  | [] => [x]
  | y :: r => if x ≤ y then x :: y :: r else y :: ins x r
theorem ins_perm (x : Nat) : ∀ l : List Nat, (ins x l).Perm (x :: l)
  | [] => List.Perm.refl _
  | y :: r => by
    unfold ins
    split
    · exact List.Perm.refl _
    · exact ((ins_perm x r).cons y).trans (List.Perm.swap x y r)
theorem ins_sorted (x : Nat) : ∀ l : List Nat, l.Pairwise (· ≤ ·) → (ins x l).Pairwise (· ≤ ·)
  | [], _ => by simp [ins]
  | y :: r, h => by
    have h1 := List.pairwise_cons.1 h
    unfold ins
    split
    · rename_i hxy
      refine List.pairwise_cons.2 ⟨?_, h⟩
      intro z hz
      rcases List.mem_cons.1 hz with rfl | hz
      · exact hxy
      · have := h1.1 z hz; omega
    · rename_i hxy
      refine List.pairwise_cons.2 ⟨?_, ins_sorted x r h1.2⟩
      intro z hz
      rcases List.mem_cons.1 ((ins_perm x r).subset hz) with rfl | hz
      · omega
      · exact h1.1 z hz
def huf : Nat → List Nat → Nat
  | 0, _ => 0
  | k + 1, x :: y :: r => x + y + huf k (ins (x + y) r)
  | _ + 1, _ => 0

theorem kraft_perm {X Y : List (Nat × Nat)} (h : X.Perm Y) (L d : Nat) : kraft X L d = kraft Y L d := by
  unfold kraft
  exact ((h.filter _).map _).sum_nat
theorem cost_perm {X Y : List (Nat × Nat)} (h : X.Perm Y) : costX X = costX Y := by
  unfold costX
  exact (h.map _).sum_nat
theorem sum_dvd (D : Nat) : ∀ l : List Nat, (∀ x ∈ l, D ∣ x) → D ∣ l.sum
  | [], _ => by simp
  | x :: r, h => by
    rw [List.sum_cons]
    exact Nat.dvd_add (h x (by simp)) (sum_dvd D r (fun y hy => h y (by simp [hy])))
theorem sum_ge_len : ∀ l : List Nat, (∀ x ∈ l, 1 ≤ x) → l.length ≤ l.sum
  | [], _ => by simp
  | x :: r, h => by
    have := sum_ge_len r (fun y hy => h y (by simp [hy]))
    have := h x (by simp)
    rw [List.sum_cons, List.length_cons]
    omega
theorem kraft_len (X : List (Nat × Nat)) (L : Nat) (h : ∀ x ∈ X, 1 ≤ x.2) (hk : kraft X L 1 ≤ 2 ^ L) : X.length ≤ 2 ^ L := by
  rw [kraft_all X L h] at hk
  have := sum_ge_len (X.map fun x => 2 ^ (L - x.2)) (by
    intro y hy
    obtain ⟨x, _, rfl⟩ := List.mem_map.1 hy
    exact Nat.two_pow_pos _)
  rw [List.length_map] at this
  omega

/-- Leaves with their places as symbols. -/
theorem zip_facts (W : List Nat) (s : Nat) : (W.zipIdx s).map (·.1) = W ∧ ((W.zipIdx s).map (·.2)).Nodup := by
  refine ⟨?_, ?_⟩
  · simp
  · rw [List.zipIdx_map_snd]
    exact List.nodup_range'

/-- Huffman's cost is the least of all. -/
theorem huf_least (L : Nat) (hL : 1 ≤ L) : ∀ (k : Nat) (W : List Nat), W.Pairwise (· ≤ ·) → (∀ x ∈ W, 0 < x) → W.length = k → 2 ≤ k → ∀ X : List (Nat × Nat), (X.map (·.1)).Perm W → (∀ x ∈ X, 1 ≤ x.2 ∧ x.2 ≤ L) → kraft X L 1 ≤ 2 ^ L → huf k W ≤ costX X
  | 0, W, _, _, _, h2, _, _, _, _ => by omega
  | k + 1, [], _, _, hl, h2, _, _, _, _ => by simp at hl
  | k + 1, [w0], _, _, hl, h2, _, _, _, _ => by simp at hl; omega
  | k + 1, w0 :: w1 :: R, hs, hp, hl, h2, X, hX, hb, hk => by
    have hlX : X.length = k + 1 := by have := hX.length_eq; simp at this hl; omega
    have hlen2 : (w0 :: w1 :: R).length ≤ 2 ^ L := by
      have := kraft_len X L (fun x hx => (hb x hx).1) hk
      rw [hl]; omega
    obtain ⟨z1, z2⟩ := zip_facts (w0 :: w1 :: R) 0
    obtain ⟨LF, hLF⟩ : ∃ LF, LF = (w0 :: w1 :: R).zipIdx 0 := ⟨_, rfl⟩
    rw [← hLF] at z1 z2
    have hLFl : LF.length = (w0 :: w1 :: R).length := by rw [hLF]; simp
    have hsF : LF.Pairwise (fun a b => a.1 ≤ b.1) := by
      have : (LF.map (·.1)).Pairwise (· ≤ ·) := by rw [z1]; exact hs
      rwa [List.pairwise_map] at this
    have hpF : ∀ x ∈ LF, 0 < x.1 := by
      intro x hx
      exact hp x.1 (by rw [← z1]; exact List.mem_map.2 ⟨x, hx, rfl⟩)
    have hn : 2 ≤ LF.length := by rw [hLFl]; simp
    have hn2 : LF.length ≤ 2 ^ L := by rw [hLFl]; exact hlen2
    have hbest := pm_best LF hsF hpF z2 L hL hn hn2 X (by rw [z1]; exact hX) hb hk
    obtain ⟨p1, p2, p3, p4⟩ := pm_all LF hsF hpF z2 L hL hn hn2
    have hLF2 : LF = (w0, 0) :: (w1, 1) :: R.zipIdx 2 := by rw [hLF]; simp [List.zipIdx_cons]
    obtain ⟨l0, hl0⟩ : ∃ l, l = lenOf LF L 0 := ⟨_, rfl⟩
    obtain ⟨l1, hl1⟩ : ∃ l, l = lenOf LF L 1 := ⟨_, rfl⟩
    obtain ⟨Y, hY⟩ : ∃ Y, Y = (R.zipIdx 2).map fun x => (x.1, lenOf LF L x.2) := ⟨_, rfl⟩
    have hXP : XP LF L = (w0, l0) :: (w1, l1) :: Y := by
      rw [hY, hl0, hl1]
      conv => lhs; unfold XP; rw [hLF2]
      rw [List.map_cons, List.map_cons, ← hLF2]
    have hYf : Y.map (·.1) = R := by
      rw [hY, List.map_map]
      have := (zip_facts R 2).1
      exact this
    have hYl : ∀ y ∈ Y, y.2 ≤ l1 := by
      intro y hy
      rw [hY] at hy
      obtain ⟨x, hx, rfl⟩ := List.mem_map.1 hy
      obtain ⟨j, hj, hje⟩ := List.mem_iff_getElem.1 hx
      have h1 : LF[1]? = some (w1, 1) := by rw [hLF2]; rfl
      have h3 : LF[j + 2]? = some x := by rw [hLF2]; simp [← hje]
      have := p4 1 (j + 2) (w1, 1) x (by omega) h1 h3
      rw [hl1]
      exact this
    have h10 : l1 ≤ l0 := by
      have h1 : LF[0]? = some (w0, 0) := by rw [hLF2]; rfl
      have h3 : LF[1]? = some (w1, 1) := by rw [hLF2]; rfl
      have := p4 0 1 (w0, 0) (w1, 1) (by omega) h1 h3
      rw [hl0, hl1]
      exact this
    rw [hXP] at p1 p2 hbest
    clear p3 p4 hXP hLF hLF2 hl0 hl1 hY z1 z2 hsF hpF
    have b0 := p1 (w0, l0) (by simp)
    have b1 := p1 (w1, l1) (by simp)
    simp only at b0 b1
    have hka := kraft_all ((w0, l0) :: (w1, l1) :: Y) L (fun x hx => (p1 x hx).1)
    rw [p2] at hka
    simp only [List.map_cons, List.sum_cons] at hka
    have hsame : l0 = l1 := by
      rcases Nat.lt_or_ge l1 l0 with h | h
      · exfalso
        have d1 : 2 ^ (L - l1) ∣ (Y.map fun x => 2 ^ (L - x.2)).sum := by
          apply sum_dvd
          intro z hz
          obtain ⟨y, hy, rfl⟩ := List.mem_map.1 hz
          exact Nat.pow_dvd_pow 2 (by have := hYl y hy; omega)
        have d2 : 2 ^ (L - l1) ∣ 2 ^ L := Nat.pow_dvd_pow 2 (by omega)
        have d3 : 2 ^ (L - l1) ∣ 2 ^ (L - l1) + (Y.map fun x => 2 ^ (L - x.2)).sum := Nat.dvd_add (Nat.dvd_refl _) d1
        have d4 : 2 ^ (L - l1) ∣ 2 ^ (L - l0) := by
          rw [hka] at d2
          exact (Nat.dvd_add_iff_left d3).2 d2
        have d5 := Nat.le_of_dvd (Nat.two_pow_pos _) d4
        have d6 : 2 ^ (L - l0) < 2 ^ (L - l1) := Nat.pow_lt_pow_right (by decide) (by omega)
        omega
      · omega
    subst hsame
    have hcost : costX ((w0, l0) :: (w1, l0) :: Y) = (w0 + w1) * l0 + costX Y := by
      unfold costX
      simp only [List.map_cons, List.sum_cons, Nat.add_mul]
      omega
    rw [hcost] at hbest
    by_cases hR : R = []
    · subst hR
      have hk1 : k = 1 := by simp at hl; omega
      subst hk1
      have : w0 + w1 ≤ (w0 + w1) * l0 := Nat.le_mul_of_pos_right _ b0.1
      simp only [huf, ins]
      omega
    · have hRl : 1 ≤ R.length := by
        cases R with
        | nil => exact absurd rfl hR
        | cons a r => simp
      have hl02 : 2 ≤ l0 := by
        rcases Nat.lt_or_ge l0 2 with h | h
        · exfalso
          have e0 : l0 = 1 := by omega
          subst e0
          have hYs : Y.map (fun x => 2 ^ (L - x.2)) = Y.map (fun _ => 2 ^ (L - 1)) := by
            apply List.map_congr_left
            intro y hy
            have h1 := hYl y hy
            have h2 := (p1 y (by simp [hy])).1
            rw [show y.2 = 1 by omega]
          have hYn : Y.length = R.length := by rw [← hYf, List.length_map]
          have hpos : 0 < (Y.map fun x => 2 ^ (L - x.2)).sum := by
            have := sum_ge_len (Y.map fun x => 2 ^ (L - x.2)) (by
              intro z hz
              obtain ⟨y, _, rfl⟩ := List.mem_map.1 hz
              exact Nat.two_pow_pos _)
            rw [List.length_map] at this
            omega
          have h7 : 2 ^ L = 2 ^ (L - 1) * 2 := by
            have : 2 ^ L = 2 ^ (L - 1 + 1) := by rw [Nat.sub_add_cancel hL]
            rw [this, Nat.pow_succ]
          omega
        · exact h
      have ih := huf_least L hL k (ins (w0 + w1) R) (ins_sorted _ R (List.pairwise_cons.1 (List.pairwise_cons.1 hs).2).2) ?_ ?_ ?_ ((w0 + w1, l0 - 1) :: Y) ?_ ?_ ?_
      · have hc2 : costX ((w0 + w1, l0 - 1) :: Y) = (w0 + w1) * (l0 - 1) + costX Y := by
          unfold costX
          simp only [List.map_cons, List.sum_cons]
        have h8 : (w0 + w1) * l0 = (w0 + w1) * (l0 - 1) + (w0 + w1) := by
          have : l0 = l0 - 1 + 1 := by omega
          rw [this, Nat.mul_add, Nat.mul_one, Nat.add_sub_cancel]
        rw [hc2] at ih
        simp only [huf]
        omega
      · intro z hz
        rcases List.mem_cons.1 ((ins_perm _ R).subset hz) with rfl | hz
        · have := hp w0 (by simp); omega
        · exact hp z (by simp [hz])
      · rw [(ins_perm _ R).length_eq]
        simp at hl ⊢
        omega
      · simp at hl; omega
      · rw [List.map_cons, hYf]
        exact (ins_perm _ R).symm
      · intro z hz
        rcases List.mem_cons.1 hz with rfl | hz
        · simp only; omega
        · exact p1 z (by simp [hz])
      · rw [kraft_all _ L (by
          intro z hz
          rcases List.mem_cons.1 hz with rfl | hz
          · simp only; omega
          · exact (p1 z (by simp [hz])).1)]
        simp only [List.map_cons, List.sum_cons]
        have h9 : 2 ^ (L - (l0 - 1)) = 2 ^ (L - l0) + 2 ^ (L - l0) := by
          rw [show L - (l0 - 1) = L - l0 + 1 by omega, Nat.pow_succ]; omega
        omega

/-- Huffman's way gives a code of that cost, no word of which is as long as there are leaves. -/
theorem huf_has : ∀ (k : Nat) (W : List Nat), W.length = k → 2 ≤ k → ∀ L : Nat, k ≤ L + 1 → ∃ X : List (Nat × Nat), (X.map (·.1)).Perm W ∧ (∀ x ∈ X, 1 ≤ x.2 ∧ x.2 + 1 ≤ k) ∧ kraft X L 1 = 2 ^ L ∧ costX X = huf k W
  | 0, W, _, h2, _, _ => by omega
  | k + 1, [], hl, h2, _, _ => by simp at hl
  | k + 1, [w0], hl, h2, _, _ => by simp at hl; omega
  | k + 1, w0 :: w1 :: R, hl, h2, L, hL => by
    by_cases hR : R = []
    · subst hR
      have hk1 : k = 1 := by simp at hl; omega
      subst hk1
      refine ⟨[(w0, 1), (w1, 1)], by simp, ?_, ?_, ?_⟩
      · intro x hx
        rcases List.mem_cons.1 hx with rfl | hx
        · exact ⟨by simp, by simp⟩
        · rcases List.mem_cons.1 hx with rfl | hx
          · exact ⟨by simp, by simp⟩
          · cases hx
      · rw [kraft_all _ L (by
          intro x hx
          rcases List.mem_cons.1 hx with rfl | hx
          · simp
          · rcases List.mem_cons.1 hx with rfl | hx
            · simp
            · cases hx)]
        simp only [List.map_cons, List.map_nil, List.sum_cons, List.sum_nil]
        have : 2 ^ L = 2 ^ (L - 1 + 1) := by rw [Nat.sub_add_cancel (by omega)]
        rw [this, Nat.pow_succ]
        omega
      · simp only [huf, ins, costX, List.map_cons, List.map_nil, List.sum_cons, List.sum_nil]
        omega
    · have hRl : 1 ≤ R.length := by
        cases R with
        | nil => exact absurd rfl hR
        | cons a r => simp
      have hlR : R.length + 1 = k := by simp at hl; omega
      obtain ⟨X, x1, x2, x3, x4⟩ := huf_has k (ins (w0 + w1) R) (by rw [(ins_perm _ R).length_eq]; simpa using hlR) (by omega) L (by omega)
      have hp : (X.map (·.1)).Perm ((w0 + w1) :: R) := x1.trans (ins_perm _ R)
      obtain ⟨x, hx, hxe⟩ := List.mem_map.1 (hp.symm.subset (List.mem_cons_self))
      have hY := List.perm_cons_erase hx
      obtain ⟨Y, hYe⟩ : ∃ Y, Y = X.erase x := ⟨_, rfl⟩
      rw [← hYe] at hY
      obtain ⟨a, l⟩ := x
      simp only at hxe
      subst hxe
      have hb := x2 _ hx
      simp only at hb
      have hYb : ∀ y ∈ Y, 1 ≤ y.2 ∧ y.2 + 1 ≤ k := fun y hy => x2 y (hY.symm.subset (List.mem_cons_of_mem _ hy))
      have hYm : (Y.map (·.1)).Perm R := by
        have h1 := (hY.map (·.1)).symm.trans hp
        rw [List.map_cons] at h1
        exact h1.cons_inv
      refine ⟨(w0, l + 1) :: (w1, l + 1) :: Y, ?_, ?_, ?_, ?_⟩
      · rw [List.map_cons, List.map_cons]
        exact (hYm.cons _).cons _
      · intro y hy
        rcases List.mem_cons.1 hy with rfl | hy
        · exact ⟨by simp, by simp only; omega⟩
        · rcases List.mem_cons.1 hy with rfl | hy
          · exact ⟨by simp, by simp only; omega⟩
          · have := hYb y hy; omega
      · rw [kraft_perm hY, kraft_all _ L (by
          intro y hy
          rcases List.mem_cons.1 hy with rfl | hy
          · exact hb.1
          · exact (hYb y hy).1)] at x3
        rw [kraft_all _ L (by
          intro y hy
          rcases List.mem_cons.1 hy with rfl | hy
          · simp
          · rcases List.mem_cons.1 hy with rfl | hy
            · simp
            · exact (hYb y hy).1)]
        simp only [List.map_cons, List.sum_cons] at x3 ⊢
        have h9 : 2 ^ (L - l) = 2 ^ (L - (l + 1)) + 2 ^ (L - (l + 1)) := by
          rw [show L - l = L - (l + 1) + 1 by omega, Nat.pow_succ]; omega
        omega
      · rw [cost_perm hY] at x4
        simp only [huf, costX, List.map_cons, List.sum_cons, Nat.mul_add, Nat.add_mul, Nat.mul_one] at x4 ⊢
        omega

/-- Where the limit does not press, package-merge costs what Huffman's way costs. -/
theorem pm_huf (LF : List (Nat × Nat)) (hs : LF.Pairwise (fun a b => a.1 ≤ b.1)) (hp : ∀ x ∈ LF, 0 < x.1) (hd : (LF.map (·.2)).Nodup) (L : Nat) (hn : 2 ≤ LF.length) (hL : LF.length ≤ L + 1) (hn2 : LF.length ≤ 2 ^ L) :
    costX (XP LF L) = huf LF.length (LF.map (·.1)) := by
  have hL1 : 1 ≤ L := by omega
  have hsW : (LF.map (·.1)).Pairwise (· ≤ ·) := by rw [List.pairwise_map]; exact hs
  have hpW : ∀ x ∈ LF.map (·.1), 0 < x := by
    intro x hx
    obtain ⟨y, hy, rfl⟩ := List.mem_map.1 hx
    exact hp y hy
  obtain ⟨p1, p2, p3, p4⟩ := pm_all LF hs hp hd L hL1 hn hn2
  have hup := huf_least L hL1 LF.length (LF.map (·.1)) hsW hpW (by simp) hn (XP LF L) (by
    unfold XP
    rw [List.map_map]
    exact List.Perm.refl _) p1 (by omega)
  obtain ⟨X, x1, x2, x3, x4⟩ := huf_has LF.length (LF.map (·.1)) (by simp) hn L hL
  have hlo := pm_best LF hs hp hd L hL1 hn hn2 X x1 (fun x hx => by have := x2 x hx; omega) (by omega)
  omega
end Go.Proofs.YtoeabfcnfofbiaaDoor
