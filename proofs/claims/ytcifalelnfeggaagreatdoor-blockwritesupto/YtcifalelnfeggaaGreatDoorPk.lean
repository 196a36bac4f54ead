import Derived.Test.YtcifalelnfeggaaGreatDoorPj
import Derived.Test.YtcifalelnfeggaaGreatDoorPa
import Derived.Test.YtcifalelnfeggaaGreatDoorPb
import Derived.Laws.EntriesVeiled
import Derived.Deep.OwnRows
import Derived.Test.YtcifalelnfeggaaGreatDoorPf
import Derived.Test.YtcifalelnfeggaaGreatDoorPe
namespace Go.Proofs.YtcifalelnfeggaaGreatDoor
open Go.RowKit
set_option linter.unusedVariables false

theorem pk_le (M : Nat) : ∀ l : List It, (∀ t ∈ l, t.1 ≤ M) → ∀ t ∈ pk l, t.1 ≤ 2 * M
  | [], _ => by simp [pk]
  | [_], _ => by simp [pk]
  | a :: b :: r, h => by
    intro t ht
    simp only [pk, List.mem_cons] at ht
    rcases ht with rfl | ht
    · have := h a (by simp)
      have := h b (by simp)
      simp only
      omega
    · exact pk_le M r (fun x hx => h x (by simp [hx])) t ht
theorem row_le (F : List It) (M : Nat) (h : ∀ t ∈ F, t.1 ≤ M) : ∀ k, ∀ t ∈ row F k, t.1 ≤ M * 2 ^ k
  | 0, t, ht => by simpa using h t ht
  | k + 1, t, ht => by
    have ih := pk_le (M * 2 ^ k) (row F k) (row_le F M h k)
    simp only [row] at ht
    rcases List.mem_append.1 ((List.merge_perm_append _).mem_iff.1 ht) with ht | ht
    · have := h t ht
      exact Nat.le_trans this (Nat.le_mul_of_pos_right _ (Nat.two_pow_pos _))
    · have := ih t ht
      rw [Nat.pow_succ]
      have e : M * (2 ^ k * 2) = 2 * (M * 2 ^ k) := by rw [Nat.mul_comm (2 ^ k) 2, Nat.mul_left_comm]
      rw [e]; exact this
theorem row_len_le (F : List It) : ∀ k, (row F k).length ≤ 2 * F.length
  | 0 => by simp [row]; omega
  | k + 1 => by have := row_len_le F k; rw [row_len]; omega
def Gq (o : Nat) (W : World) : Nat → Prop := fun k => k ≠ o ∧ k < W.heap.size
theorem pow14 : ∀ j : Fin 15, 2 ^ j.val ≤ 16384 := by decide

set_option maxRecDepth 100000 in
set_option maxHeartbeats 600000 in
theorem lastRow_any (a : Option Addr) (n ca lim o : Nat) (L : List Im) (F : List It) (w : World) (hn : Hid (L.length = n)) (hR : RL w a L) (hL : ML (Gq o w) w 0 L F) (hao : ∀ x, a = some x → x.block ≠ o) (ho : o < w.heap.size)
    (hF : ∀ t ∈ F, t.1 ≤ 1099511627776) (hl : n ≤ 288) (hca : n ≤ ca) (hna : a = none → ca = 0) (h1 : 1 ≤ lim) (h15 : lim ≤ 15) :
    Calls Tryz.prog 95 #[.slice a n ca, .int .i64 lim] w fun e w' => ∃ b c R, e = .returned (.slice b R.length c) ∧ R.length ≤ c ∧ RL w' b R ∧ (∀ x, b = some x → x.block ≠ o) ∧ ML (Gq o w') w' (lim - 1) R (row F (lim - 1)) ∧ Below w.heap.size w w' := by
  obtain ⟨J, hJ⟩ : ∃ J, lim = J + 1 := ⟨lim - 1, by omega⟩
  have rJ : (lim : Int) - 1 = (J : Int) := by omega
  have HJ : Hid (lim = J + 1) := hJ
  have hJ14 : J ≤ 14 := by omega
  clear hJ
  have hFl := hL.len
  have HFl : Hid (F.length = n) := by have := hn.out; show _ = _; omega
  have HRL : Hid (∀ j, (row F j).length ≤ 576) := fun j => by have := row_len_le F j; have := HFl.out; omega
  have HRB : Hid (∀ j, j ≤ 14 → ∀ t ∈ row F j, t.1 ≤ 1152921504606846976) := fun j hj t ht => by
    have h2 := row_le F 1099511627776 hF j t ht
    have h3 := pow14 ⟨j, by omega⟩
    simp only at h3
    exact Nat.le_trans h2 (Nat.le_trans (Nat.mul_le_mul_left _ h3) (by decide))
  clear hFl
  go_enter Tryz.func95, Tryz.ntmps95
  go_wp2_with fail
  go_loopw [5, 9] (fun tr ti wr => ∃ (j m c : Nat) (b : Option Addr) (R : List Im), j ≤ J ∧ ti = .int .i64 (j : Int) ∧ tr = .slice b m c ∧ Hid (R.length = m) ∧ m ≤ c ∧ RL wr b R ∧ Below w.heap.size w wr ∧ Hid ((∀ x, b = some x → x.block ≠ o) ∧ ML (Gq o wr) wr j R (row F j))) (fun _ ti _ => J - (intOf ti).toNat)
  case atStart => exact ⟨0, n, ca, a, L, Nat.zero_le _, rfl, rfl, hn, hca, hR, Below.refl _ _, (⟨hao, hL⟩ : _ ∧ _)⟩
  case round =>
    obtain ⟨j, m, c, b, R, hj, rfl, rfl, hm, hmc, rr, BR, HX⟩ := hrel
    by_cases hjJ : j < J
    · have hjJi : (j : Int) < (J : Int) := by omega
      have hm576 : m ≤ 576 := by have := HX.out.2.len; have := hm.out; have := HRL.out j; omega
      have CP := packed_any b m c j R (row F j) (Gq o wr) wr hm rr HX.out.2 (fun k hk => hk.2) (HRB.out j (by omega)) (by omega)
      go_wp2_with fail
      refine CP.mono ?_
      rintro e w2 ⟨b2, c2, P, rfl, hPl, ⟨hPc, hPn⟩, rp, mp, B2⟩
      have Bw2 : Below w.heap.size w w2 := BR.trans (B2.mono BR.size)
      have ho2 : o < w2.heap.size := Nat.lt_of_lt_of_le ho Bw2.size
      have rl2 := hR.old Bw2
      have ml2 : ML (Gq o w2) w2 (j + 1) L F := by
        refine ⟨hL.len, fun k hk => ?_⟩
        have := hL.mn k hk
        exact Mn.leaf this _
      have mp2 : ML (Gq o w2) w2 (j + 1) P (pk (row F j)) := by
        by_cases hR0 : 0 < R.length
        · refine mp.mono (fun k hk => ?_)
          rcases hk with ⟨h2, h3⟩ | ⟨off, e⟩
          · exact ⟨h2, Nat.lt_of_lt_of_le h3 B2.size⟩
          · refine ⟨HX.out.1 _ e, ?_⟩
            obtain ⟨b', off', e2, it⟩ := rr.at_ 0 hR0
            rw [e] at e2
            cases e2
            exact Nat.lt_of_lt_of_le it.lt B2.size
        · refine ⟨mp.len, fun k hk => ?_⟩
          have := hm.out
          omega
      obtain ⟨pl, hpl⟩ : ∃ pl, P.length = pl := ⟨_, rfl⟩
      have HPL : Hid (P.length = pl) := hpl
      rw [hpl] at hPc hPl ⊢
      have hpl2 : pl ≤ 576 := by omega
      clear hPl hpl
      have CM := merged_any a b2 n pl ca c2 (j + 1) L P F (pk (row F j)) (Gq o w2) w2 hn HPL rl2 rp ml2 mp2 (fun k hk => hk.2) (by omega) (by omega) hca hPc hna hPn
      clear CP
      go_wp2_with fail
      refine CM.mono ?_
      rintro e w3 ⟨b3, c3, R3, rfl, hR3, hRc3, hRn3, rr3, hb3, m3, B3⟩
      have HX3 : Hid ((∀ x, b3 = some x → x.block ≠ o) ∧ ML (Gq o w3) w3 (j + 1) R3 (row F (j + 1))) := ⟨fun x hx => by have := hb3 x hx; omega, m3.mono (fun k hk => ⟨hk.1, Nat.lt_of_lt_of_le hk.2 B3.size⟩)⟩
      clear CM hR3
      go_wp2
      go_roundw
      case rel => exact ⟨j + 1, R3.length, c3, b3, R3, by omega, by go_num, rfl, (rfl : _ = _), hRc3, rr3, Bw2.trans (B3.mono Bw2.size), HX3.out⟩
      case measure => simp [intOf]; omega
    · obtain rfl : j = J := by omega
      go_wp2
      go_ret
      have e := hm.out
      have ej := HJ.out
      have ej2 : lim - 1 = j := by omega
      rw [ej2]
      exact ⟨b, c, R, by rw [e]; rfl, by rw [e]; exact hmc, rr, HX.out.1, HX.out.2, BR⟩
end Go.Proofs.YtcifalelnfeggaaGreatDoor

namespace Go.Proofs.YtcifalelnfeggaaGreatDoor
set_option linter.unusedVariables false

/-! A row of numbers of which two change places; heaps. -/
def swp (zs : List Int) (i j : Nat) : List Int := (zs.set i (zs.getD j 0)).set j (zs.getD i 0)
theorem swp_len (zs : List Int) (i j : Nat) : (swp zs i j).length = zs.length := by simp [swp]
theorem swp_getD (zs : List Int) (i j k : Nat) (hi : i < zs.length) (hj : j < zs.length) : (swp zs i j).getD k 0 = if k = j then zs.getD i 0 else if k = i then zs.getD j 0 else zs.getD k 0 := by
  unfold swp
  simp only [List.getD, List.getElem?_set, List.length_set]
  by_cases h1 : j = k
  · subst h1; simp [hj]
  · have h1' : ¬ k = j := fun e => h1 e.symm
    by_cases h2 : i = k
    · subst h2; simp [h1, h1', hi]
    · have h2' : ¬ k = i := fun e => h2 e.symm
      simp [h1, h1', h2, h2']
theorem set_perm : ∀ (zs : List Int) (i : Nat) (x : Int), i < zs.length → (zs.getD i 0 :: zs.set i x).Perm (x :: zs)
  | [], _, _, h => by simp at h
  | z :: r, 0, x, _ => by simpa using List.Perm.swap x z r
  | z :: r, i + 1, x, h => by
    have := set_perm r i x (by simpa using h)
    simp only [List.getD_cons_succ, List.set_cons_succ]
    exact (List.Perm.swap z (r.getD i 0) (r.set i x)).trans ((this.cons z).trans (List.Perm.swap x z r))
theorem swp_perm (zs : List Int) (i j : Nat) (hi : i < zs.length) (hj : j < zs.length) : (swp zs i j).Perm zs := by
  unfold swp
  have h1 := set_perm zs i (zs.getD j 0) hi
  have h2 := set_perm (zs.set i (zs.getD j 0)) j (zs.getD i 0) (by simpa using hj)
  have h3 : (zs.set i (zs.getD j 0)).getD j 0 = zs.getD j 0 := by
    simp only [List.getD, List.getElem?_set]
    by_cases e : i = j
    · subst e; simp [hi]
    · simp [e]
  rw [h3] at h2
  exact (List.Perm.cons_inv (h2.trans h1))

def kid (q c : Nat) : Prop := c = 2 * q + 1 ∨ c = 2 * q + 2
/-- From lo on, no parent is greater than its children. -/
def hp (z : Nat → Int) (n lo : Nat) : Prop := ∀ q c, lo ≤ q → kid q c → c < n → z q ≤ z c
/-- .. but for the parent i, whose own parent is not greater than i's children. -/
def dn (z : Nat → Int) (n lo i : Nat) : Prop := (∀ q c, lo ≤ q → q ≠ i → kid q c → c < n → z q ≤ z c) ∧ ∀ q c, lo ≤ q → kid q i → kid i c → c < n → z q ≤ z c
theorem dn_start {z : Nat → Int} {n i : Nat} (h : hp z n (i + 1)) : dn z n i i :=
  ⟨fun q c hq hne hk hc => h q c (by omega) hk hc, fun q c hq hk => by unfold kid at hk; omega⟩
theorem dn_leaf {z : Nat → Int} {n lo i : Nat} (h : dn z n lo i) (hn : n ≤ 2 * i + 1) : hp z n lo := by
  intro q c hq hk hc
  by_cases e : q = i
  · subst e; unfold kid at hk; omega
  · exact h.1 q c hq e hk hc
theorem dn_stop {z : Nat → Int} {n lo i j : Nat} (h : dn z n lo i) (hj : ∀ c, kid i c → c < n → z j ≤ z c) (hs : ¬ z j < z i) : hp z n lo := by
  intro q c hq hk hc
  by_cases e : q = i
  · subst e; have := hj c hk hc; omega
  · exact h.1 q c hq e hk hc
theorem dn_step {z z' : Nat → Int} {n lo i j : Nat} (h : dn z n lo i) (hlo : lo ≤ i) (hk : kid i j) (hjn : j < n) (hj : ∀ c, kid i c → c < n → z j ≤ z c) (hs : z j < z i)
    (hz : ∀ k, z' k = if k = j then z i else if k = i then z j else z k) : dn z' n lo j := by
  have hij : i < j := by unfold kid at hk; omega
  constructor
  · intro q c hq hne hqc hc
    have hqlt : q < c := by unfold kid at hqc; omega
    rw [hz q, hz c, if_neg hne]
    by_cases e : q = i
    · subst e
      rw [if_pos rfl]
      by_cases e2 : c = j
      · rw [if_pos e2]; omega
      · rw [if_neg e2, if_neg (by omega)]; exact hj c hqc hc
    · rw [if_neg e]
      have e2 : c ≠ j := by
        rintro rfl
        unfold kid at hk hqc
        omega
      rw [if_neg e2]
      by_cases e3 : c = i
      · rw [if_pos e3]; subst e3; exact h.2 q j hq hqc hk hjn
      · rw [if_neg e3]; exact h.1 q c hq e hqc hc
  · intro q c hq hqj hjc hc
    have e : q = i := by unfold kid at hk hqj; omega
    subst e
    have hjc' : j < c := by unfold kid at hjc; omega
    rw [hz q, hz c, if_neg (by omega), if_pos rfl, if_neg (by omega), if_neg (by omega)]
    exact h.1 j c (by omega) (by omega) hjc hc
theorem hp_root {z : Nat → Int} {n : Nat} (h : hp z n 0) : ∀ i, i < n → z 0 ≤ z i := by
  intro i
  induction i using Nat.strongRecOn with
  | ind i ih =>
    intro hi
    by_cases e : i = 0
    · subst e; exact Int.le_refl _
    · have h1 := ih ((i - 1) / 2) (by omega) (by omega)
      have h2 := h ((i - 1) / 2) i (Nat.zero_le _) (by unfold kid; omega) hi
      omega
/-- All is well but for j against its parent. -/
def upI (z : Nat → Int) (n j : Nat) : Prop := (∀ q c, kid q c → c < n → c ≠ j → z q ≤ z c) ∧ ∀ q c, kid q j → kid j c → c < n → z q ≤ z c
theorem up_root {z : Nat → Int} {n : Nat} (h : upI z n 0) : hp z n 0 := by
  intro q c _ hk hc
  exact h.1 q c hk hc (by unfold kid at hk; omega)
theorem up_stop {z : Nat → Int} {n i j : Nat} (h : upI z n j) (hij : kid i j) (hs : ¬ z j < z i) : hp z n 0 := by
  intro q c _ hk hc
  by_cases e : c = j
  · subst e
    have : q = i := by unfold kid at hij hk; omega
    subst this
    omega
  · exact h.1 q c hk hc e
theorem up_step {z z' : Nat → Int} {n i j : Nat} (h : upI z n j) (hij : kid i j) (hjn : j < n) (hs : z j < z i) (hz : ∀ k, z' k = if k = j then z i else if k = i then z j else z k) : upI z' n i := by
  have hlt : i < j := by unfold kid at hij; omega
  constructor
  · intro q c hqc hc hne
    have hq : q < c := by unfold kid at hqc; omega
    rw [hz q, hz c]
    by_cases e : c = j
    · subst e
      have : q = i := by unfold kid at hij hqc; omega
      subst this
      rw [if_neg (by omega), if_pos rfl, if_pos rfl]; omega
    · rw [if_neg e, if_neg hne]
      by_cases e2 : q = j
      · subst e2; rw [if_pos rfl]; exact h.2 i c hij hqc hc
      · rw [if_neg e2]
        by_cases e3 : q = i
        · subst e3; rw [if_pos rfl]; have := h.1 q c hqc hc e; omega
        · rw [if_neg e3]; exact h.1 q c hqc hc e
  · intro q c hqi hic hc
    have hq : q < i := by unfold kid at hqi; omega
    have hcl : i < c := by unfold kid at hic; omega
    rw [hz q, hz c, if_neg (by omega), if_neg (by omega)]
    have h1 := h.1 q i hqi (by omega) (by omega)
    by_cases e : c = j
    · rw [if_pos e]; exact h1
    · rw [if_neg e, if_neg (by omega)]
      have := h.1 i c hic hc e
      omega
/-- One more at the end: all is well but for it. -/
theorem up_start {z z' : Nat → Int} {n : Nat} (h : hp z n 0) (hz : ∀ k, k < n → z' k = z k) : upI z' (n + 1) n := by
  constructor
  · intro q c hk hc hne
    have : q < c := by unfold kid at hk; omega
    rw [hz q (by omega), hz c (by omega)]
    exact h q c (Nat.zero_le _) hk (by omega)
  · intro q c hq hk hc
    unfold kid at hk; omega
theorem hp_cut {z z' : Nat → Int} {n m lo : Nat} (h : hp z n lo) (hm : m ≤ n) (hz : ∀ k, lo ≤ k → k < m → z' k = z k) : hp z' m lo := by
  intro q c hq hk hc
  have : q < c := by unfold kid at hk; omega
  rw [hz q hq (by omega), hz c (by omega) hc]
  exact h q c hq hk (by omega)
end Go.Proofs.YtcifalelnfeggaaGreatDoor

namespace Go.Proofs.YtcifalelnfeggaaGreatDoor
open Go.RowKit
set_option linter.unusedVariables false

def bump (A : List Int) (s : Nat) : List Int := A.set s (A.getD s 0 + 1)
def bumps (A : List Int) (l : List Nat) : List Int := l.foldl bump A
theorem bump_len (A : List Int) (s : Nat) : (bump A s).length = A.length := by simp [bump]
theorem bumps_len : ∀ (l : List Nat) (A : List Int), (bumps A l).length = A.length
  | [], A => rfl
  | s :: l, A => by show (bumps (bump A s) l).length = _; rw [bumps_len l, bump_len]
theorem bumps_app (A : List Int) (l r : List Nat) : bumps A (l ++ r) = bumps (bumps A l) r := List.foldl_append ..
theorem bump_get (A : List Int) (s i : Nat) (h : s < A.length) : (bump A s).getD i 0 = A.getD i 0 + (if i = s then 1 else 0) := by
  unfold bump
  simp only [List.getD, List.getElem?_set]
  by_cases e : s = i
  · subst e; simp [h]
  · have e' : ¬ i = s := fun h => e h.symm
    simp [e, e']
theorem bumps_get : ∀ (l : List Nat) (A : List Int) (i : Nat), (∀ s ∈ l, s < A.length) → (bumps A l).getD i 0 = A.getD i 0 + (l.count i : Int)
  | [], A, i, _ => by simp [bumps]
  | s :: l, A, i, h => by
    have h1 := bumps_get l (bump A s) i (fun x hx => by rw [bump_len]; exact h x (by simp [hx]))
    show (bumps (bump A s) l).getD i 0 = _
    rw [h1, bump_get A s i (h s (by simp)), List.count_cons]
    by_cases e : i = s
    · subst e; simp; omega
    · have e' : (s == i) = false := by simp; exact fun h => e h.symm
      simp [e, e']
/-- The two boxes of the count, and the lengths. -/
structure Tb (w : World) (pl pc o N B : Nat) (A : List Int) : Prop where
  cl : w.heap[pl]? = some (.cells #[.slice (some ⟨o, 0, none⟩) N N] 39 (0, 0))
  cc : w.heap[pc]? = some (.cells #[.func (.func 117) #[] #[.pointer (some ⟨pl, 0, none⟩), .pointer (some ⟨pc, 0, none⟩)]] 193 (0, 0))
  own : w.ownsRow B 3 1 (.slice (some ⟨o, 0, none⟩) N N) N (A.map (Value.int .i64))
  ne1 : pl ≠ o
  ne2 : pc ≠ o
theorem Tb.set {w w' : World} {pl pc o N B : Nat} {A A' : List Int} (h : Tb w pl pc o N B A) (hg : w.grownBy w' (some o)) (ho : w'.ownsRow B 3 1 (.slice (some ⟨o, 0, none⟩) N N) N (A'.map (Value.int .i64))) : Tb w' pl pc o N B A' :=
  ⟨by rw [hg.block pl (Array.getElem?_eq_some_iff.1 h.cl).1 (by intro e; simp at e; exact h.ne1 e)]; exact h.cl, by rw [hg.block pc (Array.getElem?_eq_some_iff.1 h.cc).1 (by intro e; simp at e; exact h.ne2 e)]; exact h.cc, ho, h.ne1, h.ne2⟩

set_option maxRecDepth 100000 in
set_option maxHeartbeats 2000000 in
theorem count_any (pl pc o N B M0 : Nat) (G : Nat → Prop) (hGo : ∀ k, G k → k ≠ o ∧ k < M0) (hN : N ≤ 100000) : ∀ (d b off : Nat) (x : Im) (t : It) (A : List Int) (w : World), M0 ≤ w.heap.size → Mn G w d x t → ItAt w b off x → b ≠ o → Tb w pl pc o N B A → A.length = N → (∀ s ∈ t.2, s < N) → (∀ i, 0 ≤ A.getD i 0 ∧ A.getD i 0 + t.2.length ≤ 4611686018427387904) →
    Calls Tryz.prog 117 #[.pointer (some ⟨b, off, none⟩), .pointer (some ⟨pl, 0, none⟩), .pointer (some ⟨pc, 0, none⟩)] w fun e w' => e = .returned (.tuple #[]) ∧ Tb w' pl pc o N B (bumps A t.2) ∧ w.grownBy w' (some o) := by
  have leafCase : ∀ (b off : Nat) (x : Im) (t : It) (A : List Int) (w : World), isLeaf x t → ItAt w b off x → Tb w pl pc o N B A → A.length = N → (∀ s ∈ t.2, s < N) → (∀ i, 0 ≤ A.getD i 0 ∧ A.getD i 0 + t.2.length ≤ 4611686018427387904) →
      Calls Tryz.prog 117 #[.pointer (some ⟨b, off, none⟩), .pointer (some ⟨pl, 0, none⟩), .pointer (some ⟨pc, 0, none⟩)] w fun e w' => e = .returned (.tuple #[]) ∧ Tb w' pl pc o N B (bumps A t.2) ∧ w.grownBy w' (some o) := by
    rintro b off ⟨xw, xs, xf, xn⟩ t A w ⟨h1, h2, h3, h4, rfl⟩ hx hT hA hs hb
    simp only at h1 h2 h3 h4
    subst h1 h2
    obtain ⟨c0, c1, c2, c3⟩ := hx
    simp only at c0 c1 c2 c3 hs hb
    obtain ⟨s, rfl⟩ : ∃ s : Nat, xs = (s : Int) := ⟨xs.toNat, by omega⟩
    simp only [Int.toNat_natCast, List.mem_singleton, List.length_singleton, forall_eq] at hs hb
    have hl := hT.cl
    have l0 : w.cell? ⟨pl, 0, none⟩ = some (.slice (some ⟨o, 0, none⟩) N N) := by simp [World.cell?, hl]
    obtain ⟨a0, fz⟩ := own_cell1 hT.own (i := s) (by omega)
    have f0 := fz s
    have hb0 := hb s
    have HB : Hid (bumps A [s] = A.set s (A.getD s 0 + 1)) := by show _ = _; rfl
    have HST := hT.own.stored s (.int .i64 (A.getD s 0 + 1))
    rw [← List.map_set, ← HB.out] at HST
    have HTT : Hid _ := HST
    clear HST
    generalize A.getD s 0 = z at *
    have zi : (s : Int) < (N : Int) := by omega
    go_enter Tryz.func117, Tryz.ntmps117
    go_wp2_with fail
    go_region
    go_wp2
    refine bodyPost_ret (results_none rfl _ _ _) rfl ?_
    obtain ⟨o2, g2⟩ := HTT.out
    exact ⟨rfl, hT.set (grownBy_drew g2) o2, grownBy_drew g2⟩
  intro d
  induction d with
  | zero =>
    intro b off x t A w hw hm hx hbo hT hA hs hb
    exact leafCase b off x t A w hm hx hT hA hs hb
  | succ d ih =>
    intro b off x t A w hw hm hx hbo hT hA hs hb
    rcases hm with hm | ⟨b1, o1, b2, o2, y, z, s, u, h1, h2, h3, h4, h5, h6, h7, h8, h9, rfl⟩
    · exact leafCase b off x t A w hm hx hT hA hs hb
    · obtain ⟨xw, xs, xf, xn⟩ := x
      simp only at h1 h2 h9
      subst h1 h2
      have hGb := (hGo b1 h3).1
      have hGb2 := (hGo b2 h4).1
      simp only [List.mem_append, List.length_append] at hs hb
      have IH1 : Hid (∀ W, Below w.heap.size w W → Calls Tryz.prog 117 #[.pointer (some ⟨b1, o1, none⟩), .pointer (some ⟨pl, 0, none⟩), .pointer (some ⟨pc, 0, none⟩)] W fun e w' => e = .returned (.tuple #[]) ∧ Tb w' pl pc o N B (bumps A s.2) ∧ w.grownBy w' (some o)) := fun W hW => by
        have hg : w.grownBy W (some o) := ⟨hW.os, hW.tape, hW.output, hW.size, fun i hi _ => hW.block i hi⟩
        have hh : ∀ k, G k → W.heap[k]? = w.heap[k]? := fun k hk => hW.block k (Nat.lt_of_lt_of_le (hGo k hk).2 hw)
        refine (ih b1 o1 y s A W (Nat.le_trans hw hW.size) (Mn.keep hh d y s h7) (h5.of_block (hW.block b1 h5.lt)) hGb (hT.set hg (own_below hT.own hW)) hA (fun q hq => hs q (.inl hq)) (fun i => by have := hb i; omega)).mono ?_
        rintro e w' ⟨r1, r2, r3⟩
        exact ⟨r1, r2, grownBy_trans hg r3⟩
      have IH2 : Hid (∀ w2 W, w.grownBy w2 (some o) → Tb w2 pl pc o N B (bumps A s.2) → Below w2.heap.size w2 W → Calls Tryz.prog 117 #[.pointer (some ⟨b2, o2, none⟩), .pointer (some ⟨pl, 0, none⟩), .pointer (some ⟨pc, 0, none⟩)] W fun e w' => e = .returned (.tuple #[]) ∧ Tb w' pl pc o N B (bumps A (s.2 ++ u.2)) ∧ w2.grownBy w' (some o)) := fun w2 W hg1 hT2 hW => by
        have hg : w2.grownBy W (some o) := ⟨hW.os, hW.tape, hW.output, hW.size, fun i hi _ => hW.block i hi⟩
        have hgg := grownBy_trans hg1 hg
        have hh : ∀ k, G k → W.heap[k]? = w.heap[k]? := fun k hk => hgg.block k (Nat.lt_of_lt_of_le (hGo k hk).2 hw) (by intro e; simp at e; exact (hGo k hk).1 e)
        refine (ih b2 o2 z u (bumps A s.2) W (Nat.le_trans hw hgg.size) (Mn.keep hh d z u h8) (h6.of_block (hh b2 h4)) hGb2 (hT2.set hg (own_below hT2.own hW)) (by rw [bumps_len]; exact hA) (fun q hq => hs q (.inr hq)) (fun i => ?_)).mono ?_
        · rw [bumps_get s.2 A i (fun q hq => by rw [hA]; exact hs q (.inl hq))]
          have h10 := hb i
          have h11 : s.2.count i ≤ s.2.length := List.count_le_length
          omega
        rintro e w' ⟨r1, r2, r3⟩
        exact ⟨r1, by rw [bumps_app]; exact r2, grownBy_trans hg r3⟩
      obtain ⟨c0, c1, c2, c3⟩ := hx
      simp only at c0 c1 c2 c3
      have pcc : w.cell? ⟨pc, 0, none⟩ = some (.func (.func 117) #[] #[.pointer (some ⟨pl, 0, none⟩), .pointer (some ⟨pc, 0, none⟩)]) := by simp [World.cell?, hT.cc]
      have HX3 : Hid (ItAt w b off ⟨xw, xs, some ⟨b1, o1, none⟩, some ⟨b2, o2, none⟩⟩) := ⟨c0, c1, c2, c3⟩
      have d0 : Below w.heap.size w w := Below.refl _ _
      have d1 : Below w.heap.size w w.drew := (Below.refl _ _).drew
      have HK : Hid (∀ W, w.grownBy W (some o) → (W.cell? ⟨pc, 0, none⟩ = some (.func (.func 117) #[] #[.pointer (some ⟨pl, 0, none⟩), .pointer (some ⟨pc, 0, none⟩)]) ∧ W.cell? ⟨b, off + 2, none⟩ = some (.pointer (some ⟨b1, o1, none⟩))) ∧ W.cell? ⟨b, off + 3, none⟩ = some (.pointer (some ⟨b2, o2, none⟩))) := fun W hW => by
        have e1 := hW.block pc (Array.getElem?_eq_some_iff.1 hT.cc).1 (by intro e; simp at e; exact hT.ne2 e)
        have e2 := HX3.out.of_block (hW.block b HX3.out.lt (by intro e; simp at e; exact hbo e))
        exact ⟨⟨(World.cell?_of_block (a := ⟨pc, 0, none⟩) e1).trans pcc, e2.c2⟩, e2.c3⟩
      clear ih leafCase h5 h6 h7 h8 h9 hs hb hA hT
      go_enter Tryz.func117, Tryz.ntmps117
      go_wp2_with fail
      go_region_held3 (fun w' => w'.cell? ⟨pc, 0, none⟩ = some (.func (.func 117) #[] #[.pointer (some ⟨pl, 0, none⟩), .pointer (some ⟨pc, 0, none⟩)]) ∧ w'.cell? ⟨b, off + 2, none⟩ = some (.pointer (some ⟨b1, o1, none⟩)))
        (first | go_keep | (exact (HK.out _ (by assumption)).1))
        (first | (go_at_call 117; refine (IH1.out _ (by assumption)).mono ?_; rintro e w2 ⟨rfl, T2, g2⟩))
      have k2 := HK.out _ g2
      have q1 := k2.1.1
      have q2 := k2.2
      have HK2 : Hid (∀ W, w2.grownBy W (some o) → W.cell? ⟨pc, 0, none⟩ = some (.func (.func 117) #[] #[.pointer (some ⟨pl, 0, none⟩), .pointer (some ⟨pc, 0, none⟩)]) ∧ W.cell? ⟨b, off + 3, none⟩ = some (.pointer (some ⟨b2, o2, none⟩))) := fun W hW => by
        have := HK.out W (grownBy_trans g2 hW)
        exact ⟨this.1.1, this.2⟩
      have IH3 : Hid _ := fun W (hW : Below w2.heap.size w2 W) => IH2.out w2 W g2 T2 hW
      have e0 : Below w2.heap.size w2 w2 := Below.refl _ _
      have e1 : Below w2.heap.size w2 w2.drew := (Below.refl _ _).drew
      clear IH1 IH2 HK k2 c0 c1 c2 c3 pcc d0 d1
      go_wp2_with fail
      go_region_held3 (fun w' => w'.cell? ⟨pc, 0, none⟩ = some (.func (.func 117) #[] #[.pointer (some ⟨pl, 0, none⟩), .pointer (some ⟨pc, 0, none⟩)]) ∧ w'.cell? ⟨b, off + 3, none⟩ = some (.pointer (some ⟨b2, o2, none⟩)))
        (first | go_keep | (exact HK2.out _ (by assumption)))
        (first | (go_at_call 117; refine (IH3.out _ (by assumption)).mono ?_; rintro e w3 ⟨rfl, T3, g3⟩))
      go_wp2
      go_end0
      exact ⟨rfl, T3, grownBy_trans g2 g3⟩
end Go.Proofs.YtcifalelnfeggaaGreatDoor

namespace Go.Proofs.YtcifalelnfeggaaGreatDoor
open Go.RowKit
set_option linter.unusedVariables false

def syms (ts : List It) (k : Nat) : List Nat := (ts.take k).flatMap (·.2)
theorem syms_snoc (ts : List It) (k : Nat) (h : k < ts.length) : syms ts (k + 1) = syms ts k ++ (ts.getD k it0).2 := by
  unfold syms
  rw [List.take_add_one, List.flatMap_append, List.getElem?_eq_getElem h]
  simp [List.getD, h]

set_option maxRecDepth 100000 in
set_option maxHeartbeats 2000000 in
theorem tally_any (o N B : Nat) (b : Option Addr) (m c d : Nat) (A : List Int) (R : List Im) (ts : List It) (w : World) (hm : Hid (R.length = m)) (hR : RL w b R) (hM : ML (Gq o w) w d R ts) (hb : ∀ x, b = some x → x.block ≠ o)
    (hO : w.ownsRow B 3 1 (.slice (some ⟨o, 0, none⟩) N N) N (A.map (Value.int .i64))) (ho : o < w.heap.size) (hA : Hid (A.length = N)) (hN : N ≤ 100000) (hmm : m ≤ 100000)
    (hs : ∀ s ∈ syms ts m, s < N) (hA0 : ∀ i, A.getD i 0 = 0) (hlen : (syms ts m).length ≤ 4611686018427387904) :
    Calls Tryz.prog 94 #[.slice (some ⟨o, 0, none⟩) N N, .slice b m c] w fun e w' => e = .returned (.tuple #[]) ∧ w'.ownsRow B 3 1 (.slice (some ⟨o, 0, none⟩) N N) N ((bumps A (syms ts m)).map (Value.int .i64)) ∧ w.grownBy w' (some o) := by
  have T2 : Tb ((w.alloc (.cells #[.slice (some ⟨o, 0, none⟩) N N] 39)).alloc (.cells #[(.func (.func 117) #[] #[.pointer (some ⟨w.heap.size, 0, none⟩), .pointer (some ⟨w.heap.size + 1, 0, none⟩)])] 193)) w.heap.size (w.heap.size + 1) o N B A := by
    have B1 : Below w.heap.size w ((w.alloc (.cells #[.slice (some ⟨o, 0, none⟩) N N] 39)).alloc (.cells #[(.func (.func 117) #[] #[.pointer (some ⟨w.heap.size, 0, none⟩), .pointer (some ⟨w.heap.size + 1, 0, none⟩)])] 193)) := ((Below.refl _ _).alloc (Nat.le_refl _) _).alloc (by simp) _
    refine ⟨?_, ?_, own_below hO B1, by omega, by omega⟩
    · rw [Below.heap_alloc _ _ _ (by simp)]
      exact heap_alloc_new w _
    · have := heap_alloc_new (w.alloc (.cells #[.slice (some ⟨o, 0, none⟩) N N] 39)) (.cells #[(.func (.func 117) #[] #[.pointer (some ⟨w.heap.size, 0, none⟩), .pointer (some ⟨w.heap.size + 1, 0, none⟩)])] 193)
      simpa using this
  have B2 : Below w.heap.size w ((w.alloc (.cells #[.slice (some ⟨o, 0, none⟩) N N] 39)).alloc (.cells #[(.func (.func 117) #[] #[.pointer (some ⟨w.heap.size, 0, none⟩), .pointer (some ⟨w.heap.size + 1, 0, none⟩)])] 193)) := ((Below.refl _ _).alloc (Nat.le_refl _) _).alloc (by simp) _
  have hlt : Hid (R.length = ts.length) := hM.len
  go_enter Tryz.func94, Tryz.ntmps94
  go_wp2_with fail
  generalize ((w.alloc (.cells #[.slice (some ⟨o, 0, none⟩) N N] 39)).alloc (.cells #[(.func (.func 117) #[] #[.pointer (some ⟨w.heap.size, 0, none⟩), .pointer (some ⟨w.heap.size + 1, 0, none⟩)])] 193)) = w2 at *
  obtain ⟨pl, hpl⟩ : ∃ pl, pl = w.heap.size := ⟨_, rfl⟩
  have HPL : Hid (pl = w.heap.size) := hpl
  rw [← hpl] at T2 ⊢
  clear hpl
  generalize pl + 1 = pc at *
  go_loopw [9] (fun ti wr => ∃ k : Nat, k ≤ m ∧ ti = .int .i64 (k : Int) ∧ Tb wr pl pc o N B (bumps A (syms ts k)) ∧ w2.grownBy wr (some o)) (fun ti _ => m - (intOf ti).toNat)
  case atStart => exact ⟨0, Nat.zero_le _, rfl, by simpa [syms, bumps] using T2, World.grownBy.refl _ _⟩
  case round =>
    obtain ⟨k, hk, rfl, hT, hG⟩ := hrel
    by_cases hkm : k < m
    · have hkmi : (k : Int) < (m : Int) := by omega
      obtain ⟨g, off, rfl, x⟩ := hR.at_ k (by have := hm.out; omega)
      have hgo : g ≠ o := hb _ rfl
      have hkeep : ∀ q, q ≠ o → q < w.heap.size → wr.heap[q]? = w.heap[q]? := fun q h1 h2 => by rw [hG.block q (Nat.lt_of_lt_of_le h2 B2.size) (by intro e; simp at e; exact h1 e), B2.block q h2]
      have x2 := x.of_block (hkeep g hgo x.lt)
      have m2 := Mn.keep (w' := wr) (fun q hq => hkeep q hq.1 hq.2) d _ _ (hM.mn k (by have := hm.out; omega))
      have HSY : Hid (syms ts (k + 1) = syms ts k ++ (ts.getD k it0).2) := syms_snoc ts k (by have := hm.out; have := hlt.out; omega)
      have hpre : ∀ q, q ≤ m → ∃ r, syms ts m = syms ts q ++ r := by
        intro q hq
        refine ⟨((ts.take m).drop q).flatMap (·.2), ?_⟩
        unfold syms
        rw [← List.flatMap_append]
        congr 1
        have : (ts.take m).take q = ts.take q := by rw [List.take_take, Nat.min_eq_left hq]
        rw [← this, List.take_append_drop]
      have hs1 : ∀ s ∈ (ts.getD k it0).2, s < N := by
        intro s h1
        obtain ⟨r, hr⟩ := hpre (k + 1) (by omega)
        exact hs s (by rw [hr, HSY.out]; exact List.mem_append.2 (.inl (List.mem_append.2 (.inr h1))))
      have hl1 : (syms ts k).length + (ts.getD k it0).2.length ≤ 4611686018427387904 := by
        obtain ⟨r, hr⟩ := hpre (k + 1) (by omega)
        rw [hr, HSY.out] at hlen
        simp only [List.length_append] at hlen
        omega
      have hs0 : ∀ s ∈ syms ts k, s < A.length := by
        intro s h1
        obtain ⟨r, hr⟩ := hpre k hk
        rw [hA.out]
        exact hs s (by rw [hr]; simp [h1])
      have hbb : ∀ i, 0 ≤ (bumps A (syms ts k)).getD i 0 ∧ (bumps A (syms ts k)).getD i 0 + (ts.getD k it0).2.length ≤ 4611686018427387904 := fun i => by
        rw [bumps_get _ _ _ hs0, hA0 i]
        have : (syms ts k).count i ≤ (syms ts k).length := List.count_le_length
        omega
      have HC : Hid (∀ W, Below wr.heap.size wr W → Calls Tryz.prog 117 #[.pointer (some ⟨g, off + k * 4, none⟩), .pointer (some ⟨pl, 0, none⟩), .pointer (some ⟨pc, 0, none⟩)] W fun e w' => e = .returned (.tuple #[]) ∧ Tb w' pl pc o N B (bumps A (syms ts (k + 1))) ∧ wr.grownBy w' (some o)) := fun W hW => by
        have hg : wr.grownBy W (some o) := grown_old hW _
        have hsz : w.heap.size ≤ wr.heap.size := Nat.le_trans B2.size hG.size
        refine (count_any pl pc o N B w.heap.size (Gq o w) (fun q hq => hq) hN d g (off + k * 4) _ (ts.getD k it0) (bumps A (syms ts k)) W (Nat.le_trans hsz hW.size) (Mn.keep (fun q hq => hW.block q (Nat.lt_of_lt_of_le hq.2 hsz)) d _ _ m2) (x2.of_block (hW.block g x2.lt)) hgo (hT.set hg (own_below hT.own hW)) (by rw [bumps_len]; exact hA.out) hs1 hbb).mono ?_
        rintro e w' ⟨r1, r2, r3⟩
        exact ⟨r1, by rw [HSY.out, bumps_app]; exact r2, grownBy_trans hg r3⟩
      have pcc : wr.cell? ⟨pc, 0, none⟩ = some (.func (.func 117) #[] #[.pointer (some ⟨pl, 0, none⟩), .pointer (some ⟨pc, 0, none⟩)]) := by simp [World.cell?, hT.cc]
      have HK : Hid (∀ W, wr.grownBy W (some o) → W.cell? ⟨pc, 0, none⟩ = some (.func (.func 117) #[] #[.pointer (some ⟨pl, 0, none⟩), .pointer (some ⟨pc, 0, none⟩)])) := fun W hW => (World.cell?_of_block (a := ⟨pc, 0, none⟩) (hW.block pc (Array.getElem?_eq_some_iff.1 hT.cc).1 (by intro e; simp at e; exact hT.ne2 e))).trans pcc
      have d0 : Below wr.heap.size wr wr := Below.refl _ _
      have d1 : Below wr.heap.size wr wr.drew := (Below.refl _ _).drew
      clear hT x x2 m2 hkeep hpre hs1 hl1 hs0 hbb
      go_wp2_with fail
      go_region_held3 (fun w' => w'.cell? ⟨pc, 0, none⟩ = some (.func (.func 117) #[] #[.pointer (some ⟨pl, 0, none⟩), .pointer (some ⟨pc, 0, none⟩)]))
        (first | go_keep | (exact HK.out _ (by assumption)))
        (first | (go_at_call 117; refine (HC.out _ (by assumption)).mono ?_; rintro e w3 ⟨rfl, T3, g3⟩))
      clear HC HK pcc d0 d1
      go_wp2
      go_roundw
      case rel => exact ⟨k + 1, by omega, by go_num, T3, grownBy_trans hG g3⟩
      case measure => simp [intOf]; omega
    · obtain rfl : k = m := by omega
      go_wp2
      go_end0
      exact ⟨rfl, hT.own, grownBy_trans (grown_old (HPL.out ▸ B2) _) hG⟩
end Go.Proofs.YtcifalelnfeggaaGreatDoor

namespace Go.Proofs.YtcifalelnfeggaaGreatDoor
set_option linter.unusedVariables false

/-! Huffman's way: the two least are taken away, and their sum is put in their place. -/
def ins (x : Nat) : List Nat → List Nat
  | [] => [x]
  | y :: r => if x ≤ y then x :: y :: r else y :: ins x r
theorem ins_perm (x : Nat) : ∀ l : List Nat, (ins x l).Perm (x :: l)
  | [] => List.Perm.refl _
  | y :: r => by
    unfold ins
    split
    · exact List.Perm.refl _
    · exact ((ins_perm x r).cons y).trans (List.Perm.swap x y r)
theorem ins_sorted (x : Nat) : ∀ l : List Nat, l.Pairwise (· ≤ ·) → (ins x l).Pairwise (· ≤ ·)
  | [], _ => by simp [ins]
  | y :: r, h => by
    have h1 := List.pairwise_cons.1 h
    unfold ins
    split
    · rename_i hxy
      refine List.pairwise_cons.2 ⟨?_, h⟩
      intro z hz
      rcases List.mem_cons.1 hz with rfl | hz
      · exact hxy
      · have := h1.1 z hz; omega
    · rename_i hxy
      refine List.pairwise_cons.2 ⟨?_, ins_sorted x r h1.2⟩
      intro z hz
      rcases List.mem_cons.1 ((ins_perm x r).subset hz) with rfl | hz
      · omega
      · exact h1.1 z hz
def huf : Nat → List Nat → Nat
  | 0, _ => 0
  | k + 1, x :: y :: r => x + y + huf k (ins (x + y) r)
  | _ + 1, _ => 0

theorem kraft_perm {X Y : List (Nat × Nat)} (h : X.Perm Y) (L d : Nat) : kraft X L d = kraft Y L d := by
  unfold kraft
  exact ((h.filter _).map _).sum_nat
theorem cost_perm {X Y : List (Nat × Nat)} (h : X.Perm Y) : costX X = costX Y := by
  unfold costX
  exact (h.map _).sum_nat
theorem sum_dvd (D : Nat) : ∀ l : List Nat, (∀ x ∈ l, D ∣ x) → D ∣ l.sum
  | [], _ => by simp
  | x :: r, h => by
    rw [List.sum_cons]
    exact Nat.dvd_add (h x (by simp)) (sum_dvd D r (fun y hy => h y (by simp [hy])))
theorem sum_ge_len : ∀ l : List Nat, (∀ x ∈ l, 1 ≤ x) → l.length ≤ l.sum
  | [], _ => by simp
  | x :: r, h => by
    have := sum_ge_len r (fun y hy => h y (by simp [hy]))
    have := h x (by simp)
    rw [List.sum_cons, List.length_cons]
    omega
theorem kraft_len (X : List (Nat × Nat)) (L : Nat) (h : ∀ x ∈ X, 1 ≤ x.2) (hk : kraft X L 1 ≤ 2 ^ L) : X.length ≤ 2 ^ L := by
  rw [kraft_all X L h] at hk
  have := sum_ge_len (X.map fun x => 2 ^ (L - x.2)) (by
    intro y hy
    obtain ⟨x, _, rfl⟩ := List.mem_map.1 hy
    exact Nat.two_pow_pos _)
  rw [List.length_map] at this
  omega

/-- Leaves with their places as symbols. -/
theorem zip_facts (W : List Nat) (s : Nat) : (W.zipIdx s).map (·.1) = W ∧ ((W.zipIdx s).map (·.2)).Nodup := by
  refine ⟨?_, ?_⟩
  · simp
  · rw [List.zipIdx_map_snd]
    exact List.nodup_range'

/-- Huffman's cost is the least of all. -/
theorem huf_least (L : Nat) (hL : 1 ≤ L) : ∀ (k : Nat) (W : List Nat), W.Pairwise (· ≤ ·) → (∀ x ∈ W, 0 < x) → W.length = k → 2 ≤ k → ∀ X : List (Nat × Nat), (X.map (·.1)).Perm W → (∀ x ∈ X, 1 ≤ x.2 ∧ x.2 ≤ L) → kraft X L 1 ≤ 2 ^ L → huf k W ≤ costX X
  | 0, W, _, _, _, h2, _, _, _, _ => by omega
  | k + 1, [], _, _, hl, h2, _, _, _, _ => by simp at hl
  | k + 1, [w0], _, _, hl, h2, _, _, _, _ => by simp at hl; omega
  | k + 1, w0 :: w1 :: R, hs, hp, hl, h2, X, hX, hb, hk => by
    have hlX : X.length = k + 1 := by have := hX.length_eq; simp at this hl; omega
    have hlen2 : (w0 :: w1 :: R).length ≤ 2 ^ L := by
      have := kraft_len X L (fun x hx => (hb x hx).1) hk
      rw [hl]; omega
    obtain ⟨z1, z2⟩ := zip_facts (w0 :: w1 :: R) 0
    obtain ⟨LF, hLF⟩ : ∃ LF, LF = (w0 :: w1 :: R).zipIdx 0 := ⟨_, rfl⟩
    rw [← hLF] at z1 z2
    have hLFl : LF.length = (w0 :: w1 :: R).length := by rw [hLF]; simp
    have hsF : LF.Pairwise (fun a b => a.1 ≤ b.1) := by
      have : (LF.map (·.1)).Pairwise (· ≤ ·) := by rw [z1]; exact hs
      rwa [List.pairwise_map] at this
    have hpF : ∀ x ∈ LF, 0 < x.1 := by
      intro x hx
      exact hp x.1 (by rw [← z1]; exact List.mem_map.2 ⟨x, hx, rfl⟩)
    have hn : 2 ≤ LF.length := by rw [hLFl]; simp
    have hn2 : LF.length ≤ 2 ^ L := by rw [hLFl]; exact hlen2
    have hbest := pm_best LF hsF hpF z2 L hL hn hn2 X (by rw [z1]; exact hX) hb hk
    obtain ⟨p1, p2, p3, p4⟩ := pm_all LF hsF hpF z2 L hL hn hn2
    have hLF2 : LF = (w0, 0) :: (w1, 1) :: R.zipIdx 2 := by rw [hLF]; simp [List.zipIdx_cons]
    obtain ⟨l0, hl0⟩ : ∃ l, l = lenOf LF L 0 := ⟨_, rfl⟩
    obtain ⟨l1, hl1⟩ : ∃ l, l = lenOf LF L 1 := ⟨_, rfl⟩
    obtain ⟨Y, hY⟩ : ∃ Y, Y = (R.zipIdx 2).map fun x => (x.1, lenOf LF L x.2) := ⟨_, rfl⟩
    have hXP : XP LF L = (w0, l0) :: (w1, l1) :: Y := by
      rw [hY, hl0, hl1]
      conv => lhs; unfold XP; rw [hLF2]
      rw [List.map_cons, List.map_cons, ← hLF2]
    have hYf : Y.map (·.1) = R := by
      rw [hY, List.map_map]
      have := (zip_facts R 2).1
      exact this
    have hYl : ∀ y ∈ Y, y.2 ≤ l1 := by
      intro y hy
      rw [hY] at hy
      obtain ⟨x, hx, rfl⟩ := List.mem_map.1 hy
      obtain ⟨j, hj, hje⟩ := List.mem_iff_getElem.1 hx
      have h1 : LF[1]? = some (w1, 1) := by rw [hLF2]; rfl
      have h3 : LF[j + 2]? = some x := by rw [hLF2]; simp [← hje]
      have := p4 1 (j + 2) (w1, 1) x (by omega) h1 h3
      rw [hl1]
      exact this
    have h10 : l1 ≤ l0 := by
      have h1 : LF[0]? = some (w0, 0) := by rw [hLF2]; rfl
      have h3 : LF[1]? = some (w1, 1) := by rw [hLF2]; rfl
      have := p4 0 1 (w0, 0) (w1, 1) (by omega) h1 h3
      rw [hl0, hl1]
      exact this
    rw [hXP] at p1 p2 hbest
    clear p3 p4 hXP hLF hLF2 hl0 hl1 hY z1 z2 hsF hpF
    have b0 := p1 (w0, l0) (by simp)
    have b1 := p1 (w1, l1) (by simp)
    simp only at b0 b1
    have hka := kraft_all ((w0, l0) :: (w1, l1) :: Y) L (fun x hx => (p1 x hx).1)
    rw [p2] at hka
    simp only [List.map_cons, List.sum_cons] at hka
    have hsame : l0 = l1 := by
      rcases Nat.lt_or_ge l1 l0 with h | h
      · exfalso
        have d1 : 2 ^ (L - l1) ∣ (Y.map fun x => 2 ^ (L - x.2)).sum := by
          apply sum_dvd
          intro z hz
          obtain ⟨y, hy, rfl⟩ := List.mem_map.1 hz
          exact Nat.pow_dvd_pow 2 (by have := hYl y hy; omega)
        have d2 : 2 ^ (L - l1) ∣ 2 ^ L := Nat.pow_dvd_pow 2 (by omega)
        have d3 : 2 ^ (L - l1) ∣ 2 ^ (L - l1) + (Y.map fun x => 2 ^ (L - x.2)).sum := Nat.dvd_add (Nat.dvd_refl _) d1
        have d4 : 2 ^ (L - l1) ∣ 2 ^ (L - l0) := by
          rw [hka] at d2
          exact (Nat.dvd_add_iff_left d3).2 d2
        have d5 := Nat.le_of_dvd (Nat.two_pow_pos _) d4
        have d6 : 2 ^ (L - l0) < 2 ^ (L - l1) := Nat.pow_lt_pow_right (by decide) (by omega)
        omega
      · omega
    subst hsame
    have hcost : costX ((w0, l0) :: (w1, l0) :: Y) = (w0 + w1) * l0 + costX Y := by
      unfold costX
      simp only [List.map_cons, List.sum_cons, Nat.add_mul]
      omega
    rw [hcost] at hbest
    by_cases hR : R = []
    · subst hR
      have hk1 : k = 1 := by simp at hl; omega
      subst hk1
      have : w0 + w1 ≤ (w0 + w1) * l0 := Nat.le_mul_of_pos_right _ b0.1
      simp only [huf, ins]
      omega
    · have hRl : 1 ≤ R.length := by
        cases R with
        | nil => exact absurd rfl hR
        | cons a r => simp
      have hl02 : 2 ≤ l0 := by
        rcases Nat.lt_or_ge l0 2 with h | h
        · exfalso
          have e0 : l0 = 1 := by omega
          subst e0
          have hYs : Y.map (fun x => 2 ^ (L - x.2)) = Y.map (fun _ => 2 ^ (L - 1)) := by
            apply List.map_congr_left
            intro y hy
            have h1 := hYl y hy
            have h2 := (p1 y (by simp [hy])).1
            rw [show y.2 = 1 by omega]
          have hYn : Y.length = R.length := by rw [← hYf, List.length_map]
          have hpos : 0 < (Y.map fun x => 2 ^ (L - x.2)).sum := by
            have := sum_ge_len (Y.map fun x => 2 ^ (L - x.2)) (by
              intro z hz
              obtain ⟨y, _, rfl⟩ := List.mem_map.1 hz
              exact Nat.two_pow_pos _)
            rw [List.length_map] at this
            omega
          have h7 : 2 ^ L = 2 ^ (L - 1) * 2 := by
            have : 2 ^ L = 2 ^ (L - 1 + 1) := by rw [Nat.sub_add_cancel hL]
            rw [this, Nat.pow_succ]
          omega
        · exact h
      have ih := huf_least L hL k (ins (w0 + w1) R) (ins_sorted _ R (List.pairwise_cons.1 (List.pairwise_cons.1 hs).2).2) ?_ ?_ ?_ ((w0 + w1, l0 - 1) :: Y) ?_ ?_ ?_
      · have hc2 : costX ((w0 + w1, l0 - 1) :: Y) = (w0 + w1) * (l0 - 1) + costX Y := by
          unfold costX
          simp only [List.map_cons, List.sum_cons]
        have h8 : (w0 + w1) * l0 = (w0 + w1) * (l0 - 1) + (w0 + w1) := by
          have : l0 = l0 - 1 + 1 := by omega
          rw [this, Nat.mul_add, Nat.mul_one, Nat.add_sub_cancel]
        rw [hc2] at ih
        simp only [huf]
        omega
      · intro z hz
        rcases List.mem_cons.1 ((ins_perm _ R).subset hz) with rfl | hz
        · have := hp w0 (by simp); omega
        · exact hp z (by simp [hz])
      · rw [(ins_perm _ R).length_eq]
        simp at hl ⊢
        omega
      · simp at hl; omega
      · rw [List.map_cons, hYf]
        exact (ins_perm _ R).symm
      · intro z hz
        rcases List.mem_cons.1 hz with rfl | hz
        · simp only; omega
        · exact p1 z (by simp [hz])
      · rw [kraft_all _ L (by
          intro z hz
          rcases List.mem_cons.1 hz with rfl | hz
          · simp only; omega
          · exact (p1 z (by simp [hz])).1)]
        simp only [List.map_cons, List.sum_cons]
        have h9 : 2 ^ (L - (l0 - 1)) = 2 ^ (L - l0) + 2 ^ (L - l0) := by
          rw [show L - (l0 - 1) = L - l0 + 1 by omega, Nat.pow_succ]; omega
        omega

/-- Huffman's way gives a code of that cost, no word of which is as long as there are leaves. -/
theorem huf_has : ∀ (k : Nat) (W : List Nat), W.length = k → 2 ≤ k → ∀ L : Nat, k ≤ L + 1 → ∃ X : List (Nat × Nat), (X.map (·.1)).Perm W ∧ (∀ x ∈ X, 1 ≤ x.2 ∧ x.2 + 1 ≤ k) ∧ kraft X L 1 = 2 ^ L ∧ costX X = huf k W
  | 0, W, _, h2, _, _ => by omega
  | k + 1, [], hl, h2, _, _ => by simp at hl
  | k + 1, [w0], hl, h2, _, _ => by simp at hl; omega
  | k + 1, w0 :: w1 :: R, hl, h2, L, hL => by
    by_cases hR : R = []
    · subst hR
      have hk1 : k = 1 := by simp at hl; omega
      subst hk1
      refine ⟨[(w0, 1), (w1, 1)], by simp, ?_, ?_, ?_⟩
      · intro x hx
        rcases List.mem_cons.1 hx with rfl | hx
        · exact ⟨by simp, by simp⟩
        · rcases List.mem_cons.1 hx with rfl | hx
          · exact ⟨by simp, by simp⟩
          · cases hx
      · rw [kraft_all _ L (by
          intro x hx
          rcases List.mem_cons.1 hx with rfl | hx
          · simp
          · rcases List.mem_cons.1 hx with rfl | hx
            · simp
            · cases hx)]
        simp only [List.map_cons, List.map_nil, List.sum_cons, List.sum_nil]
        have : 2 ^ L = 2 ^ (L - 1 + 1) := by rw [Nat.sub_add_cancel (by omega)]
        rw [this, Nat.pow_succ]
        omega
      · simp only [huf, ins, costX, List.map_cons, List.map_nil, List.sum_cons, List.sum_nil]
        omega
    · have hRl : 1 ≤ R.length := by
        cases R with
        | nil => exact absurd rfl hR
        | cons a r => simp
      have hlR : R.length + 1 = k := by simp at hl; omega
      obtain ⟨X, x1, x2, x3, x4⟩ := huf_has k (ins (w0 + w1) R) (by rw [(ins_perm _ R).length_eq]; simpa using hlR) (by omega) L (by omega)
      have hp : (X.map (·.1)).Perm ((w0 + w1) :: R) := x1.trans (ins_perm _ R)
      obtain ⟨x, hx, hxe⟩ := List.mem_map.1 (hp.symm.subset (List.mem_cons_self))
      have hY := List.perm_cons_erase hx
      obtain ⟨Y, hYe⟩ : ∃ Y, Y = X.erase x := ⟨_, rfl⟩
      rw [← hYe] at hY
      obtain ⟨a, l⟩ := x
      simp only at hxe
      subst hxe
      have hb := x2 _ hx
      simp only at hb
      have hYb : ∀ y ∈ Y, 1 ≤ y.2 ∧ y.2 + 1 ≤ k := fun y hy => x2 y (hY.symm.subset (List.mem_cons_of_mem _ hy))
      have hYm : (Y.map (·.1)).Perm R := by
        have h1 := (hY.map (·.1)).symm.trans hp
        rw [List.map_cons] at h1
        exact h1.cons_inv
      refine ⟨(w0, l + 1) :: (w1, l + 1) :: Y, ?_, ?_, ?_, ?_⟩
      · rw [List.map_cons, List.map_cons]
        exact (hYm.cons _).cons _
      · intro y hy
        rcases List.mem_cons.1 hy with rfl | hy
        · exact ⟨by simp, by simp only; omega⟩
        · rcases List.mem_cons.1 hy with rfl | hy
          · exact ⟨by simp, by simp only; omega⟩
          · have := hYb y hy; omega
      · rw [kraft_perm hY, kraft_all _ L (by
          intro y hy
          rcases List.mem_cons.1 hy with rfl | hy
          · exact hb.1
          · exact (hYb y hy).1)] at x3
        rw [kraft_all _ L (by
          intro y hy
          rcases List.mem_cons.1 hy with rfl | hy
          · simp
          · rcases List.mem_cons.1 hy with rfl | hy
            · simp
            · exact (hYb y hy).1)]
        simp only [List.map_cons, List.sum_cons] at x3 ⊢
        have h9 : 2 ^ (L - l) = 2 ^ (L - (l + 1)) + 2 ^ (L - (l + 1)) := by
          rw [show L - l = L - (l + 1) + 1 by omega, Nat.pow_succ]; omega
        omega
      · rw [cost_perm hY] at x4
        simp only [huf, costX, List.map_cons, List.sum_cons, Nat.mul_add, Nat.add_mul, Nat.mul_one] at x4 ⊢
        omega

/-- Where the limit does not press, package-merge costs what Huffman's way costs. -/
theorem pm_huf (LF : List (Nat × Nat)) (hs : LF.Pairwise (fun a b => a.1 ≤ b.1)) (hp : ∀ x ∈ LF, 0 < x.1) (hd : (LF.map (·.2)).Nodup) (L : Nat) (hn : 2 ≤ LF.length) (hL : LF.length ≤ L + 1) (hn2 : LF.length ≤ 2 ^ L) :
    costX (XP LF L) = huf LF.length (LF.map (·.1)) := by
  have hL1 : 1 ≤ L := by omega
  have hsW : (LF.map (·.1)).Pairwise (· ≤ ·) := by rw [List.pairwise_map]; exact hs
  have hpW : ∀ x ∈ LF.map (·.1), 0 < x := by
    intro x hx
    obtain ⟨y, hy, rfl⟩ := List.mem_map.1 hx
    exact hp y hy
  obtain ⟨p1, p2, p3, p4⟩ := pm_all LF hs hp hd L hL1 hn hn2
  have hup := huf_least L hL1 LF.length (LF.map (·.1)) hsW hpW (by simp) hn (XP LF L) (by
    unfold XP
    rw [List.map_map]
    exact List.Perm.refl _) p1 (by omega)
  obtain ⟨X, x1, x2, x3, x4⟩ := huf_has LF.length (LF.map (·.1)) (by simp) hn L hL
  have hlo := pm_best LF hs hp hd L hL1 hn hn2 X x1 (fun x hx => by have := x2 x hx; omega) (by omega)
  omega
end Go.Proofs.YtcifalelnfeggaaGreatDoor

namespace Go.Proofs.YtcifalelnfeggaaGreatDoor
open Go.RowKit
set_option linter.unusedVariables false

/-- The leaves of counts, as pairs, in order. -/
def insP (x : Nat × Nat) : List (Nat × Nat) → List (Nat × Nat)
  | [] => [x]
  | y :: r => if y.1 ≤ x.1 then y :: insP x r else x :: y :: r
def pairs (zs : List Int) (k : Nat) : List (Nat × Nat) := ((List.range k).filter fun i => decide (zs.getD i 0 ≠ 0)).map fun i => ((zs.getD i 0).toNat, i)
def LFz (zs : List Int) : List (Nat × Nat) := (pairs zs zs.length).foldl (fun l x => insP x l) []
def pl (x y : Nat × Nat) : Prop := x.1 < y.1 ∨ (x.1 = y.1 ∧ x.2 < y.2)
theorem insP_perm (x : Nat × Nat) : ∀ l, (insP x l).Perm (x :: l)
  | [] => List.Perm.refl _
  | y :: r => by
    unfold insP
    split
    · exact ((insP_perm x r).cons y).trans (List.Perm.swap x y r)
    · exact List.Perm.refl _
theorem insP_ord (x : Nat × Nat) : ∀ l : List (Nat × Nat), l.Pairwise pl → (∀ y ∈ l, y.2 < x.2) → (insP x l).Pairwise pl
  | [], _, _ => by simp [insP]
  | y :: r, h, hx => by
    obtain ⟨h1, h2⟩ := List.pairwise_cons.1 h
    unfold insP
    split
    · rename_i hle
      refine List.pairwise_cons.2 ⟨fun z hz => ?_, insP_ord x r h2 (fun z hz => hx z (by simp [hz]))⟩
      rcases List.mem_cons.1 ((insP_perm x r).mem_iff.1 hz) with rfl | hz
      · have := hx y (by simp); unfold pl; omega
      · exact h1 z hz
    · rename_i hle
      refine List.pairwise_cons.2 ⟨fun z hz => ?_, h⟩
      rcases List.mem_cons.1 hz with rfl | hz
      · unfold pl; omega
      · have := h1 z hz; unfold pl at *; omega
theorem fold_ins : ∀ (l acc : List (Nat × Nat)), l.Pairwise (fun x y => x.2 < y.2) → acc.Pairwise pl → (∀ x ∈ l, ∀ y ∈ acc, y.2 < x.2) → (l.foldl (fun l x => insP x l) acc).Perm (acc ++ l) ∧ (l.foldl (fun l x => insP x l) acc).Pairwise pl
  | [], acc, _, h, _ => by simp [h]
  | x :: r, acc, h, ha, hx => by
    obtain ⟨h1, h2⟩ := List.pairwise_cons.1 h
    have ih := fold_ins r (insP x acc) h2 (insP_ord x acc ha (hx x (by simp))) (fun y hy z hz => by
      rcases List.mem_cons.1 ((insP_perm x acc).mem_iff.1 hz) with rfl | hz
      · exact h1 y hy
      · exact hx y (by simp [hy]) z hz)
    refine ⟨?_, ih.2⟩
    refine ih.1.trans ?_
    refine (List.Perm.append_right r (insP_perm x acc)).trans ?_
    exact (List.perm_middle (a := x) (l₁ := acc) (l₂ := r)).symm
theorem pairs_ord (zs : List Int) (k : Nat) : (pairs zs k).Pairwise (fun x y => x.2 < y.2) := by
  unfold pairs
  rw [List.pairwise_map]
  exact (List.pairwise_lt_range.filter _).imp (fun h => h)
theorem LFz_perm (zs : List Int) : (LFz zs).Perm (pairs zs zs.length) := by
  have := (fold_ins (pairs zs zs.length) [] (pairs_ord zs _) List.Pairwise.nil (by simp)).1
  rw [List.nil_append] at this
  exact this
theorem LFz_ord (zs : List Int) : (LFz zs).Pairwise pl := (fold_ins (pairs zs zs.length) [] (pairs_ord zs _) List.Pairwise.nil (by simp)).2
/-- A list in order is the only one of its items. -/
theorem ord_eq : ∀ (l r : List (Nat × Nat)), l.Perm r → l.Pairwise pl → r.Pairwise pl → l = r
  | [], r, h, _, _ => by have := h.length_eq; exact (List.eq_nil_of_length_eq_zero (by simpa using this.symm)).symm
  | x :: l, [], h, _, _ => by have := h.length_eq; simp at this
  | x :: l, y :: r, h, h1, h2 => by
    obtain ⟨a1, a2⟩ := List.pairwise_cons.1 h1
    obtain ⟨b1, b2⟩ := List.pairwise_cons.1 h2
    have e : x = y := by
      have hx : x ∈ y :: r := h.mem_iff.1 (by simp)
      have hy : y ∈ x :: l := h.mem_iff.2 (by simp)
      rcases List.mem_cons.1 hx with e | hx
      · exact e
      · rcases List.mem_cons.1 hy with e | hy
        · exact e.symm
        · have p1 := b1 x hx
          have p2 := a1 y hy
          unfold pl at p1 p2
          omega
    subst e
    rw [ord_eq l r h.cons_inv a2 b2]
def toP (x : Im) : Nat × Nat := (x.wt.toNat, x.sy.toNat)
theorem leaf_toP {zs : List Int} (k : Nat) : (leafL zs k).map toP = pairs zs k := by
  unfold leafL pairs
  rw [List.map_map]
  apply List.map_congr_left
  intro i _
  simp [toP, leafI]
theorem leaf_good {zs : List Int} (h : ∀ i, 0 ≤ zs.getD i 0) {k : Nat} : ∀ x ∈ leafL zs k, x.fs = none ∧ x.sn = none ∧ 0 < x.wt ∧ 0 ≤ x.sy ∧ x.sy < k ∧ x.wt = zs.getD x.sy.toNat 0 := by
  intro x hx
  unfold leafL at hx
  obtain ⟨i, hi, rfl⟩ := List.mem_map.1 hx
  obtain ⟨h1, h2⟩ := List.mem_filter.1 hi
  have := h i
  simp at h1 h2
  refine ⟨rfl, rfl, ?_, ?_, ?_, ?_⟩
  · show 0 < zs.getD i 0
    have : ¬ zs.getD i 0 = 0 := h2
    omega
  · show (0 : Int) ≤ (i : Int); omega
  · show (i : Int) < (k : Int); omega
  · show zs.getD i 0 = zs.getD (i : Int).toNat 0; simp
/-- The sorted row is the leaves of the counts. -/
theorem sorted_LF {zs : List Int} (h : ∀ i, 0 ≤ zs.getD i 0) {Y : Nat → Im} {m : Nat} (hp : (lst Y 0 m).Perm (leafL zs zs.length)) (ho : so Y 0 m) : (lst Y 0 m).map toP = LFz zs := by
  have hg : ∀ x ∈ lst Y 0 m, 0 < x.wt ∧ 0 ≤ x.sy := fun x hx => by have := leaf_good h x (hp.mem_iff.1 hx); exact ⟨this.2.2.1, this.2.2.2.1⟩
  refine ord_eq _ _ ?_ ?_ (LFz_ord zs)
  · have := hp.map toP
    rw [leaf_toP] at this
    exact this.trans (LFz_perm zs).symm
  · rw [List.pairwise_map]
    have : (lst Y 0 m).Pairwise kl := by
      rw [List.pairwise_iff_getElem]
      intro i j hi hj hij
      have hl : (lst Y 0 m).length = m := by simp [lst]
      have e1 : (lst Y 0 m)[i] = Y i := by have := lst_get Y 0 m i (by omega) im0; simpa [List.getD, hi] using this
      have e2 : (lst Y 0 m)[j] = Y j := by have := lst_get Y 0 m j (by omega) im0; simpa [List.getD, hj] using this
      rw [e1, e2]
      exact ho i j (Nat.zero_le _) hij (by omega)
    refine List.Pairwise.imp_of_mem ?_ this
    intro x y hx hy hxy
    have := hg x hx
    have := hg y hy
    unfold kl at hxy
    unfold pl toP
    simp only
    omega
end Go.Proofs.YtcifalelnfeggaaGreatDoor

namespace Go.Proofs.YtcifalelnfeggaaGreatDoor
open Go.RowKit
set_option linter.unusedVariables false

def nUse (zs : List Int) : Nat := (LFz zs).length
def errL (lim : Int) (zs : List Int) : Int := if lim < 1 ∨ 15 < lim then 1 else if errOf zs = 0 then (if 2 ^ lim.toNat < nUse zs then 41 else 0) else errOf zs
def lensL (lim : Nat) (zs : List Int) : List Int :=
  if nUse zs = 0 then List.replicate zs.length 0 else if nUse zs = 1 then (List.replicate zs.length 0).set ((LFz zs).getD 0 (0, 0)).2 1 else bumps (List.replicate zs.length 0) (taken (LFz zs) lim)
def lensR (lim : Int) (zs : List Int) : List Int := if errL lim zs = 0 then lensL lim.toNat zs else []

/-- The leaves' row, as a list with its meaning. -/
theorem leaf_row {zs : List Int} (h : ∀ i, 0 ≤ zs.getD i 0) {G : Nat → Prop} {w : World} {Y : Nat → Im} {m : Nat} (hp : (lst Y 0 m).Perm (leafL zs zs.length)) (ho : so Y 0 m) : ML G w 0 (lst Y 0 m) (itF (LFz zs)) := by
  have hs := sorted_LF h hp ho
  refine ⟨by unfold itF; rw [← hs]; simp, fun k hk => ?_⟩
  have hm : (lst Y 0 m).getD k im0 ∈ lst Y 0 m := by simp [List.getD, hk]
  obtain ⟨g1, g2, g3, g4, _⟩ := leaf_good h _ (hp.mem_iff.1 hm)
  refine ⟨g1, g2, by omega, g4, ?_⟩
  unfold itF
  rw [← hs]
  simp [List.getD, hk, toP]
theorem lst_RL {w : World} {g m : Nat} {Y : Nat → Im} (h : Sr w g m Y) : RL w (some ⟨g, 0, none⟩) (lst Y 0 m) := by
  refine ⟨fun k hk => ⟨g, 0, rfl, ?_⟩⟩
  have hl : (lst Y 0 m).length = m := by simp [lst]
  have e : (lst Y 0 m).getD k im0 = Y k := by have := lst_get Y 0 m k (by omega) im0; simpa using this
  rw [e, Nat.zero_add]
  exact h.it (by omega)
theorem lst_len (Y : Nat → Im) (m : Nat) : (lst Y 0 m).length = m := by simp [lst]

theorem pk_sym (Q : Nat → Prop) : ∀ l : List It, (∀ t ∈ l, ∀ s ∈ t.2, Q s) → ∀ t ∈ pk l, ∀ s ∈ t.2, Q s
  | [], _ => by simp [pk]
  | [_], _ => by simp [pk]
  | a :: b :: r, h => by
    intro t ht s hs
    simp only [pk, List.mem_cons] at ht
    rcases ht with rfl | ht
    · rcases List.mem_append.1 hs with hs | hs
      · exact h a (by simp) s hs
      · exact h b (by simp) s hs
    · exact pk_sym Q r (fun x hx => h x (by simp [hx])) t ht s hs
theorem row_sym (F : List It) (Q : Nat → Prop) (h : ∀ t ∈ F, ∀ s ∈ t.2, Q s) : ∀ k, ∀ t ∈ row F k, ∀ s ∈ t.2, Q s
  | 0 => h
  | k + 1 => by
    intro t ht
    simp only [row] at ht
    rcases List.mem_append.1 ((List.merge_perm_append _).mem_iff.1 ht) with ht | ht
    · exact h t ht
    · exact pk_sym Q _ (row_sym F Q h k) t ht
theorem pk_sl (M : Nat) : ∀ l : List It, (∀ t ∈ l, t.2.length ≤ M) → ∀ t ∈ pk l, t.2.length ≤ 2 * M
  | [], _ => by simp [pk]
  | [_], _ => by simp [pk]
  | a :: b :: r, h => by
    intro t ht
    simp only [pk, List.mem_cons] at ht
    rcases ht with rfl | ht
    · have := h a (by simp)
      have := h b (by simp)
      simp only [List.length_append]
      omega
    · exact pk_sl M r (fun x hx => h x (by simp [hx])) t ht
theorem row_sl (F : List It) (h : ∀ t ∈ F, t.2.length ≤ 1) : ∀ k, ∀ t ∈ row F k, t.2.length ≤ 2 ^ k
  | 0, t, ht => by simpa using h t ht
  | k + 1, t, ht => by
    simp only [row] at ht
    rcases List.mem_append.1 ((List.merge_perm_append _).mem_iff.1 ht) with ht | ht
    · exact Nat.le_trans (h t ht) (Nat.one_le_two_pow)
    · have := pk_sl (2 ^ k) (row F k) (row_sl F h k) t ht
      rw [Nat.pow_succ]; omega
theorem flat_len (M : Nat) : ∀ l : List It, (∀ t ∈ l, t.2.length ≤ M) → (l.flatMap (·.2)).length ≤ l.length * M
  | [], _ => by simp
  | a :: r, h => by
    have := flat_len M r (fun x hx => h x (by simp [hx]))
    have := h a (by simp)
    simp only [List.flatMap_cons, List.length_append, List.length_cons, Nat.succ_mul]
    omega
theorem RL.takeL {w : World} {b : Option Addr} {R : List Im} (h : RL w b R) (k : Nat) : RL w b (R.take k) := by
  refine ⟨fun i hi => ?_⟩
  simp at hi
  obtain ⟨g, off, e, it⟩ := h.at_ i (by omega)
  have : (R.take k).getD i im0 = R.getD i im0 := by simp [List.getD, show i < k by omega]
  exact ⟨g, off, e, by rw [this]; exact it⟩
theorem ML.takeL {G : Nat → Prop} {w : World} {d : Nat} {R : List Im} {ts : List It} (h : ML G w d R ts) (k : Nat) : ML G w d (R.take k) (ts.take k) := by
  refine ⟨by simp [h.len], fun i hi => ?_⟩
  simp at hi
  have e1 : (R.take k).getD i im0 = R.getD i im0 := by simp [List.getD, show i < k by omega]
  have e2 : (ts.take k).getD i it0 = ts.getD i it0 := by simp [List.getD, show i < k by omega]
  rw [e1, e2]
  exact h.mn i (by omega)
theorem LF_mem {zs : List Int} (h : ∀ i, 0 ≤ zs.getD i 0) {x : Nat × Nat} (hx : x ∈ LFz zs) : x.2 < zs.length ∧ zs.getD x.2 0 = (x.1 : Int) ∧ 0 < x.1 := by
  have h1 := (LFz_perm zs).mem_iff.1 hx
  unfold pairs at h1
  obtain ⟨i, hi, rfl⟩ := List.mem_map.1 h1
  obtain ⟨h2, h3⟩ := List.mem_filter.1 hi
  have h4 := h i
  have h5 : ¬ zs.getD i 0 = 0 := by simpa using h3
  rw [List.mem_range] at h2
  refine ⟨h2, ?_, ?_⟩
  · simp only; omega
  · simp only; omega
theorem itF_len (LF : List (Nat × Nat)) : (itF LF).length = LF.length := by simp [itF]

set_option maxRecDepth 100000 in
set_option maxHeartbeats 2000000 in
theorem lengths_ok (lim : Nat) (a : Option Addr) (zs : List Int) (n cap : Nat) (hn : Hid (zs.length = n)) (w : World) (hs : SegZ w a zs) (h1 : 1 ≤ lim) (h15 : lim ≤ 15) (he : errOf zs = 0) :
    Calls Tryz.prog 68 #[.int .i64 lim, .slice a n cap] w fun e w' => ∃ b c, e = .returned (.tuple #[.slice b (lensR lim zs).length c, .int .i64 (errL lim zs)]) ∧ SegZ w' b (lensR lim zs) ∧ Below w.heap.size w w' := by
  obtain ⟨h288, hbx⟩ := errOf_zero he
  have hn288 : n ≤ 288 := by have := hn.out; omega
  have HC : Hid (∀ W, SegZ W a zs → Calls Tryz.prog 92 #[.slice a n cap] W fun e w' => e = .returned (.int .i64 0) ∧ w' = W) := fun W hW => by
    have := refusal_any a zs cap W hW (by have := hn.out; omega)
    rw [he, hn.out] at this
    exact this
  have HE : Hid (errOf zs = 0) := he
  clear he h288
  have l1 : ¬ (lim : Int) < 1 := by omega
  have l2 : ¬ (15 : Int) < (lim : Int) := by omega
  go_enter Tryz.func68, Tryz.ntmps68
  go_wp2_with fail
  refine (HC.out _ hs).mono ?_
  rintro e w' ⟨rfl, hw'⟩
  subst w'
  go_wp2_with fail
  refine (leaves_any a zs n cap hn _ hs hn288).mono ?_
  rintro e w1 ⟨b, m, c, Y, rfl, LF, B1⟩
  obtain ⟨P, hP⟩ : ∃ P : Nat, P = 2 ^ lim := ⟨_, rfl⟩
  have hPb : P ≤ 32768 := by rw [hP]; exact Nat.le_trans (Nat.pow_le_pow_right (by decide) h15) (by decide)
  have hPw : RowKit.wrap64 ((2 : Int) ^ lim) = (P : Int) := by
    have e : ((2 : Int) ^ lim) = (P : Int) := by rw [hP]; exact (Int.natCast_pow 2 lim).symm
    rw [e, ← IntWalk.i64_left]
    exact IntWalk.i64_in _ (by omega)
  have HSRT : Hid ((lst Y 0 m).map toP = LFz zs) := sorted_LF (fun i => (hbx i).1) LF.pm LF.ord
  have HNU : Hid (nUse zs = m) := by show _ = _; unfold nUse; rw [← HSRT.out]; simp [lst]
  have HM288 : Hid (m ≤ 288) := by
    have h3 := LF.len
    have h4 := leafL_len zs zs.length
    have := hn.out
    show _ ≤ _
    omega
  have HPP : Hid (P = 2 ^ lim) := hP
  have hm288 : m ≤ 288 := HM288.out
  clear hP
  by_cases hmP : P < m
  · have hmPi : (P : Int) < (m : Int) := by omega
    have HER : Hid (errL lim zs = 41 ∧ lensR lim zs = []) := by
      have e1 : errL lim zs = 41 := by
        unfold errL
        rw [if_neg (by omega), if_pos HE.out, if_pos (by rw [HNU.out, Int.toNat_natCast, ← HPP.out]; exact hmP)]
      exact ⟨e1, by unfold lensR; rw [e1]; rfl⟩
    go_wp2
    go_ret2
    exact ⟨none, 0, by rw [HER.out.1, HER.out.2]; rfl, by rw [HER.out.2]; exact SegZ.nil _ _, B1⟩
  · have hmPi : ¬ (P : Int) < (m : Int) := by omega
    have HER : Hid (errL lim zs = 0 ∧ lensR lim zs = lensL lim zs) := by
      have e1 : errL lim zs = 0 := by
        unfold errL
        rw [if_neg (by omega), if_pos HE.out, if_neg (by rw [HNU.out, Int.toNat_natCast, ← HPP.out]; exact hmP)]
      exact ⟨e1, by unfold lensR; rw [if_pos e1, Int.toNat_natCast]⟩
    have hmk := run_make_ints n (by omega) w1
    have O2 := own_zeros w1 n (by omega)
    have B2 : Below w1.heap.size w1 (w1.alloc (.cells (Array.replicate n (.int .i64 0)) 3)) := (Below.refl _ _).alloc (Nat.le_refl _) _
    have hsz2 : w1.heap.size < (w1.alloc (.cells (Array.replicate n (.int .i64 0)) 3)).heap.size := by simp
    obtain ⟨o, ho⟩ : ∃ o, o = w1.heap.size := ⟨_, rfl⟩
    have HO : Hid (o = w1.heap.size) := ho
    generalize w1.alloc (.cells (Array.replicate n (.int .i64 0)) 3) = w2 at *
    rw [← ho] at O2 hmk hsz2
    have B12 : Below w.heap.size w w2 := B1.trans (B2.mono B1.size)
    have hzb : ∀ z ∈ List.replicate n (0 : Int), -9223372036854775808 ≤ z ∧ z ≤ 9223372036854775807 := fun z hz => by obtain ⟨_, rfl⟩ := List.mem_replicate.1 hz; omega
    clear ho
    by_cases hm0 : m = 0
    · subst hm0
      have HLL : Hid (lensL lim zs = List.replicate n 0) := by show _ = _; unfold lensL; rw [if_pos HNU.out, hn.out]
      go_wp2
      go_ret2
      refine ⟨some ⟨o, 0, none⟩, n, ?_, ?_, B12⟩
      · rw [HER.out.1, HER.out.2, HLL.out, List.length_replicate]; rfl
      · rw [HER.out.2, HLL.out]
        exact own_segZ O2 hzb
    · obtain ⟨g, rfl, S1, hgB, hgs, hmc⟩ := LF.row (by omega)
      have S2 := S1.old hgs B2
      have hgo : g ≠ o := by have := HO.out; omega
      by_cases hm1 : m = 1
      · subst hm1
        have it0' := S2.it (k := 0) (by omega)
        have hy : Y 0 ∈ leafL zs zs.length := LF.pm.mem_iff.1 (mem_lst.2 ⟨0, Nat.le_refl _, by omega, rfl⟩)
        obtain ⟨g1, g2, g3, g4, g5, g6⟩ := leaf_good (fun i => (hbx i).1) _ hy
        obtain ⟨s, hsy⟩ : ∃ s : Nat, (Y 0).sy = (s : Int) := ⟨(Y 0).sy.toNat, by omega⟩
        have HLL : Hid (lensL lim zs = (List.replicate n 0).set s 1) := by
          show _ = _
          unfold lensL
          rw [if_neg (by rw [HNU.out]; decide), if_pos HNU.out, ← HSRT.out, hn.out]
          have : lst Y 0 1 = [Y 0] := rfl
          rw [this]
          simp [toP, hsy]
        have hsn : s < n := by have := hn.out; omega
        obtain ⟨c0, c1, c2, c3⟩ := it0'
        rw [hsy] at c1
        simp only [Nat.zero_mul, Nat.zero_add] at c0 c1 c2 c3
        obtain ⟨a0, fz⟩ := own_cell1 O2 (i := s) (by simp; omega)
        have f0 := fz s
        have HST := O2.stored s (.int .i64 1)
        rw [← List.map_set] at HST
        have HSS : Hid _ := HST
        clear HST
        have zi : (s : Int) < (n : Int) := by omega
        have hl9 : ((List.replicate n (0 : Int)).set s 1).length = n := by simp
        clear hsy g1 g2 g3 g4 g5 g6 hy
        generalize (List.replicate n (0 : Int)).getD s 0 = zz at *
        go_wp2
        go_ret2
        obtain ⟨o3, g3⟩ := HSS.out
        refine ⟨some ⟨o, 0, none⟩, n, ?_, ?_, B12.trans ((Below.refl _ _).grown g3 B12.size (by intro k e; simp at e; have := HO.out; have := B1.size; omega))⟩
        · rw [HER.out.1, HER.out.2, HLL.out, hl9]; rfl
        · rw [HER.out.2, HLL.out]
          refine own_segZ o3 (fun z hz => ?_)
          rcases List.mem_or_eq_of_mem_set hz with hz | rfl
          · exact hzb z hz
          · omega
      · have hm2 : 2 ≤ m := by omega
        have hLl := lst_len Y m
        have hLFl : (LFz zs).length = m := HNU.out
        have hFl : (itF (LFz zs)).length = m := by rw [itF_len]; exact hLFl
        have CL := lastRow_any (some ⟨g, 0, none⟩) m c lim o (lst Y 0 m) (itF (LFz zs)) w2 hLl (lst_RL S2) (leaf_row (fun i => (hbx i).1) LF.pm LF.ord) (by intro x hx; cases hx; exact hgo) hsz2 (fun t ht => by
          unfold itF at ht
          obtain ⟨x, hx, rfl⟩ := List.mem_map.1 ht
          have h3 := LF_mem (fun i => (hbx i).1) hx
          have h4 := hbx x.2
          simp only
          omega) hm288 hmc (by intro h; cases h) h1 h15
        have HHAS : Hid (2 * m - 2 ≤ (row (itF (LFz zs)) (lim - 1)).length) := by
          have h3 := row_has (itF (LFz zs)) lim h1 (by rw [hFl, ← HPP.out]; omega)
          rw [hFl] at h3
          exact h3
        have HLL : Hid (lensL lim zs = bumps (List.replicate n 0) (taken (LFz zs) lim)) := by
          show _ = _
          unfold lensL
          rw [if_neg (by rw [HNU.out]; omega), if_neg (by rw [HNU.out]; omega), hn.out]
        obtain ⟨q, hq⟩ : ∃ q, q = 2 * m - 2 := ⟨_, rfl⟩
        have rq : 2 * (m : Int) - 2 = (q : Int) := by omega
        have HQ : Hid (q = 2 * m - 2) := hq
        have HTK : Hid (taken (LFz zs) lim = syms ((row (itF (LFz zs)) (lim - 1)).take q) q) := by
          show _ = _
          unfold taken syms
          rw [List.take_take, Nat.min_self, hq, hLFl]
        have HSY : Hid (∀ s ∈ taken (LFz zs) lim, s < n) := by
          intro s hs
          unfold taken at hs
          obtain ⟨t, ht, hst⟩ := List.mem_flatMap.1 hs
          have h3 := row_sym (itF (LFz zs)) (fun s => s < n) (fun t ht s hs => by
            unfold itF at ht
            obtain ⟨x, hx, rfl⟩ := List.mem_map.1 ht
            simp at hs
            subst hs
            have := (LF_mem (fun i => (hbx i).1) hx).1
            have := hn.out
            omega) (lim - 1) t (List.mem_of_mem_take ht)
          exact h3 s hst
        have HLN : Hid ((taken (LFz zs) lim).length ≤ 4611686018427387904) := by
          unfold taken
          have h3 := flat_len 16384 ((row (itF (LFz zs)) (lim - 1)).take (2 * (LFz zs).length - 2)) (fun t ht => by
            have h4 := row_sl (itF (LFz zs)) (fun t ht => by
              unfold itF at ht
              obtain ⟨x, hx, rfl⟩ := List.mem_map.1 ht
              simp) (lim - 1) t (List.mem_of_mem_take ht)
            have h5 := pow14 ⟨lim - 1, by omega⟩
            simp only at h5
            omega)
          have h6 : ((row (itF (LFz zs)) (lim - 1)).take (2 * (LFz zs).length - 2)).length ≤ 576 := by
            rw [hLFl, List.length_take]; omega
          show _ ≤ _
          have h7 := Nat.mul_le_mul_right 16384 h6
          omega
        have hmi1 : ¬ (m : Int) = 1 := by omega
        have hmi2 : (1 : Int) < (m : Int) := by omega
        clear hq hLl hFl hLFl
        go_wp2_with fail
        refine CL.mono ?_
        rintro e w3 ⟨b3, c3, R, rfl, hRc, rr, hbo, mr, B3⟩
        have hRl : q ≤ R.length := by have := mr.len; have := HHAS.out; have := HQ.out; omega
        have hqc : (q : Int) ≤ (c3 : Int) := by omega
        have CT := tally_any o n o b3 q c3 (lim - 1) (List.replicate n 0) (R.take q) ((row (itF (LFz zs)) (lim - 1)).take q) w3 (by show _ = _; simp; omega) (rr.takeL q) (mr.takeL q) hbo (own_below O2 B3) (Nat.lt_of_lt_of_le hsz2 B3.size) (by show _ = _; simp) (by omega) (by omega) (by rw [← HTK.out]; exact HSY.out) (fun i => by
          by_cases h : i < n
          · simp [List.getD, h]
          · simp [List.getD, h]) (by rw [← HTK.out]; exact HLN.out)
        rw [← HTK.out] at CT
        clear CL
        go_wp2_with fail
        refine CT.mono ?_
        rintro e w4 ⟨rfl, O4, g4⟩
        go_wp2
        go_ret2
        have hbl : (bumps (List.replicate n (0 : Int)) (taken (LFz zs) lim)).length = n := by rw [bumps_len]; simp
        refine ⟨some ⟨o, 0, none⟩, n, ?_, ?_, ?_⟩
        · rw [HER.out.1, HER.out.2, HLL.out, hbl]; rfl
        · rw [HER.out.2, HLL.out]
          refine own_segZ O4 (fun z hz => ?_)
          obtain ⟨i, hi, rfl⟩ := List.mem_iff_getElem.1 hz
          have h3 := bumps_get (taken (LFz zs) lim) (List.replicate n (0 : Int)) i (fun s hs => by simp; exact HSY.out s hs)
          have h4 : (taken (LFz zs) lim).count i ≤ (taken (LFz zs) lim).length := List.count_le_length
          have h5 := HLN.out
          have h6 : (List.replicate n (0 : Int)).getD i 0 = 0 := by
            by_cases h : i < n
            · simp [List.getD, h]
            · simp [List.getD, h]
          rw [h6] at h3
          simp only [List.getD, List.getElem?_eq_getElem hi, Option.getD_some] at h3
          omega
        · have B13 : Below w.heap.size w w3 := B12.trans (B3.mono B12.size)
          exact B13.trans ((Below.refl _ _).grown g4 B13.size (by intro k e; simp at e; have := HO.out; have := B1.size; omega))

def LenQ (w : World) (lim : Int) (zs : List Int) (e : Ending) (w' : World) : Prop := ∃ b c, e = .returned (.tuple #[.slice b (lensR lim zs).length c, .int .i64 (errL lim zs)]) ∧ SegZ w' b (lensR lim zs) ∧ Below w.heap.size w w'
set_option maxRecDepth 100000 in
theorem lengths_any (lim : Int) (a : Option Addr) (zs : List Int) (n cap : Nat) (hn : Hid (zs.length = n)) (w : World) (hs : SegZ w a zs) (hl : n ≤ 9223372036854775807) :
    Calls Tryz.prog 68 #[.int .i64 lim, .slice a n cap] w fun e w' => LenQ w lim zs e w' := by
  by_cases h1 : lim < 1
  · have HER : Hid (errL lim zs = 1 ∧ lensR lim zs = []) := by
      have e1 : errL lim zs = 1 := by unfold errL; rw [if_pos (.inl h1)]
      exact ⟨e1, by unfold lensR; rw [e1]; rfl⟩
    go_enter Tryz.func68, Tryz.ntmps68
    go_wp2
    go_ret2
    exact ⟨none, 0, by rw [HER.out.1, HER.out.2]; rfl, by rw [HER.out.2]; exact SegZ.nil _ _, Below.refl _ _⟩
  · by_cases h2 : 15 < lim
    · have HER : Hid (errL lim zs = 1 ∧ lensR lim zs = []) := by
        have e1 : errL lim zs = 1 := by unfold errL; rw [if_pos (.inr h2)]
        exact ⟨e1, by unfold lensR; rw [e1]; rfl⟩
      go_enter Tryz.func68, Tryz.ntmps68
      go_wp2
      go_ret2
      exact ⟨none, 0, by rw [HER.out.1, HER.out.2]; rfl, by rw [HER.out.2]; exact SegZ.nil _ _, Below.refl _ _⟩
    · by_cases he : errOf zs = 0
      · obtain ⟨l, rfl⟩ : ∃ l : Nat, lim = (l : Int) := ⟨lim.toNat, by omega⟩
        exact lengths_ok l a zs n cap hn w hs (by omega) (by omega) he
      · have HER : Hid (errL lim zs = errOf zs ∧ lensR lim zs = []) := by
          have e1 : errL lim zs = errOf zs := by unfold errL; rw [if_neg (by omega), if_neg he]
          exact ⟨e1, by unfold lensR; rw [e1, if_neg he]⟩
        have HC := refusal_any a zs cap w hs (by have := hn.out; omega)
        rw [hn.out] at HC
        generalize errOf zs = E at *
        go_enter Tryz.func68, Tryz.ntmps68
        go_wp2_with fail
        refine HC.mono ?_
        rintro e w' ⟨rfl, hw'⟩
        subst w'
        go_wp2
        go_ret2
        exact ⟨none, 0, by rw [HER.out.1, HER.out.2]; rfl, by rw [HER.out.2]; exact SegZ.nil _ _, Below.refl _ _⟩
end Go.Proofs.YtcifalelnfeggaaGreatDoor

namespace Go.Proofs.YtcifalelnfeggaaGreatDoor
set_option linter.unusedVariables false

theorem sum_mul (c : Nat) (f : Nat → Nat) : ∀ l : List Nat, (l.map fun i => c * f i).sum = c * (l.map f).sum
  | [] => by simp
  | x :: r => by
    have := sum_mul c f r
    simp only [List.map_cons, List.sum_cons, this, Nat.mul_add]
/-- The symbols in use among the first k. -/
def usI (zs : List Int) (k : Nat) : List Nat := (List.range k).filter fun i => decide (zs.getD i 0 ≠ 0)
theorem usI_snoc (zs : List Int) (k : Nat) : usI zs (k + 1) = usI zs k ++ (if zs.getD k 0 = 0 then [] else [k]) := by
  unfold usI
  rw [List.range_succ, List.filter_append]
  congr 1
  by_cases h : zs.getD k 0 = 0
  · rw [if_pos h, List.filter_cons, if_neg (by simpa using h), List.filter_nil]
  · rw [if_neg h, List.filter_cons, if_pos (decide_eq_true h), List.filter_nil]
theorem usI_mem {zs : List Int} {k i : Nat} : i ∈ usI zs k ↔ i < k ∧ zs.getD i 0 ≠ 0 := by
  unfold usI
  rw [List.mem_filter, List.mem_range]
  simp
theorem pairs_usI (zs : List Int) (k : Nat) : pairs zs k = (usI zs k).map fun i => ((zs.getD i 0).toNat, i) := rfl
/-- Sums over the leaves are sums over the symbols in use. -/
theorem LF_sum (zs : List Int) (f : Nat → Nat) : ((LFz zs).map fun x => f x.2).sum = ((usI zs zs.length).map f).sum := by
  have h := ((LFz_perm zs).map fun x => f x.2).sum_nat
  rw [h, pairs_usI, List.map_map]
  rfl
theorem nUse_us (zs : List Int) : nUse zs = (usI zs zs.length).length := by
  unfold nUse
  rw [(LFz_perm zs).length_eq, pairs_usI, List.length_map]
theorem repl_get (n i : Nat) : (List.replicate n (0 : Int)).getD i 0 = 0 := by
  by_cases h : i < n
  · simp [List.getD, h]
  · simp [List.getD, h]
theorem nn {zs : List Int} (he : errOf zs = 0) : ∀ i, 0 ≤ zs.getD i 0 := fun i => ((errOf_zero he).2 i).1
theorem LF_facts {zs : List Int} (he : errOf zs = 0) : (LFz zs).Pairwise (fun a b => a.1 ≤ b.1) ∧ (∀ x ∈ LFz zs, 0 < x.1) ∧ ((LFz zs).map (·.2)).Nodup := by
  refine ⟨(LFz_ord zs).imp (fun h => by unfold pl at h; omega), fun x hx => (LF_mem (nn he) hx).2.2, ?_⟩
  have h1 : ((pairs zs zs.length).map (·.2)).Nodup := by
    rw [List.nodup_iff_pairwise_ne, List.pairwise_map]
    exact (pairs_ord zs zs.length).imp (fun h => by omega)
  exact ((LFz_perm zs).map (·.2)).nodup_iff.2 h1
theorem us_LF {zs : List Int} {i : Nat} (h : i ∈ usI zs zs.length) : ((zs.getD i 0).toNat, i) ∈ LFz zs := by
  refine (LFz_perm zs).mem_iff.2 ?_
  rw [pairs_usI]
  exact List.mem_map.2 ⟨i, h, rfl⟩
/-- The length of a symbol, as a natural number. -/
theorem lens_get {zs : List Int} (he : errOf zs = 0) {lim : Nat} (h1 : 1 ≤ lim) (hl : nUse zs ≤ 2 ^ lim) (hn : 2 ≤ nUse zs) (i : Nat) : (lensL lim zs).getD i 0 = (lenOf (LFz zs) lim i : Int) := by
  unfold lensL
  rw [if_neg (by omega), if_neg (by omega), bumps_get _ _ _ (fun s hs => ?_), repl_get]
  · unfold lenOf; omega
  · rw [List.length_replicate]
    unfold taken at hs
    obtain ⟨t, ht, hst⟩ := List.mem_flatMap.1 hs
    exact row_sym (itF (LFz zs)) (fun s => s < zs.length) (fun t ht s hs => by
      unfold itF at ht
      obtain ⟨x, hx, rfl⟩ := List.mem_map.1 ht
      simp at hs
      subst hs
      exact (LF_mem (nn he) hx).1) (lim - 1) t (List.mem_of_mem_take ht) s hst
theorem lens_none {zs : List Int} (he : errOf zs = 0) {lim i : Nat} (h : zs.getD i 0 = 0) : (lensL lim zs).getD i 0 = 0 := by
  unfold lensL
  split
  · exact repl_get _ _
  · split
    · rename_i h0 h1
      have hm : (LFz zs).getD 0 (0, 0) ∈ LFz zs := by
        unfold nUse at h1
        simp [List.getD, show 0 < (LFz zs).length by omega]
      have h2 := LF_mem (nn he) hm
      have hne : ((LFz zs).getD 0 (0, 0)).2 ≠ i := by
        intro e
        rw [e] at h2
        omega
      simp only [List.getD, List.getElem?_set] at hne ⊢
      rw [if_neg hne]
      exact repl_get _ _
    · rw [bumps_get _ _ _ (fun s hs => ?_), repl_get]
      · have : (taken (LFz zs) lim).count i = 0 := by
          rw [List.count_eq_zero]
          intro hs
          unfold taken at hs
          obtain ⟨t, ht, hst⟩ := List.mem_flatMap.1 hs
          have h3 := row_sym (itF (LFz zs)) (fun s => zs.getD s 0 ≠ 0) (fun t ht s hs => by
            unfold itF at ht
            obtain ⟨x, hx, rfl⟩ := List.mem_map.1 ht
            simp at hs
            subst hs
            have := LF_mem (nn he) hx
            omega) (lim - 1) t (List.mem_of_mem_take ht) i hst
          exact h3 h
        omega
      · rw [List.length_replicate]
        unfold taken at hs
        obtain ⟨t, ht, hst⟩ := List.mem_flatMap.1 hs
        exact row_sym (itF (LFz zs)) (fun s => s < zs.length) (fun t ht s hs => by
          unfold itF at ht
          obtain ⟨x, hx, rfl⟩ := List.mem_map.1 ht
          simp at hs
          subst hs
          exact (LF_mem (nn he) hx).1) (lim - 1) t (List.mem_of_mem_take ht) s hst
theorem lens_one {zs : List Int} (he : errOf zs = 0) {lim : Nat} (h1 : nUse zs = 1) : ∃ s, usI zs zs.length = [s] ∧ (lensL lim zs).getD s 0 = 1 ∧ s < zs.length := by
  have h2 := nUse_us zs
  rw [h1] at h2
  obtain ⟨s, hs⟩ := List.length_eq_one_iff.1 h2.symm
  have hm : s ∈ usI zs zs.length := by rw [hs]; simp
  have h3 := us_LF hm
  have h4 : LFz zs = [((zs.getD s 0).toNat, s)] := by
    obtain ⟨x, hx⟩ := List.length_eq_one_iff.1 (show (LFz zs).length = 1 from h1)
    rw [hx] at h3
    simp only [List.mem_singleton] at h3
    rw [hx, h3]
  have h5 := (usI_mem.1 hm).1
  refine ⟨s, hs, ?_, h5⟩
  unfold lensL
  rw [if_neg (by omega), if_pos h1, h4]
  simp [List.getD, h5]
theorem lens_len {zs : List Int} (lim : Nat) : (lensL lim zs).length = zs.length := by
  unfold lensL
  split
  · simp
  · split
    · simp
    · rw [bumps_len]; simp
/-- Each symbol in use has a length from 1 to the limit. -/
theorem lens_bd {zs : List Int} (he : errOf zs = 0) {lim i : Nat} (h1 : 1 ≤ lim) (hl : nUse zs ≤ 2 ^ lim) (hi : i ∈ usI zs zs.length) : 1 ≤ (lensL lim zs).getD i 0 ∧ (lensL lim zs).getD i 0 ≤ lim := by
  have h0 : 1 ≤ nUse zs := by rw [nUse_us]; exact List.length_pos_of_mem hi
  by_cases h2 : nUse zs = 1
  · obtain ⟨s, e1, e2, _⟩ := lens_one he (lim := lim) h2
    rw [e1] at hi
    simp only [List.mem_singleton] at hi
    subst hi
    rw [e2]; omega
  · rw [lens_get he h1 hl (by omega)]
    obtain ⟨f1, f2, f3⟩ := LF_facts he
    have h3 := (pm_all (LFz zs) f1 f2 f3 lim h1 (by unfold nUse at *; omega) hl).1 ((zs.getD i 0).toNat, lenOf (LFz zs) lim i) (by
      unfold XP
      exact List.mem_map.2 ⟨_, us_LF hi, rfl⟩)
    simp only at h3
    omega
theorem lens_kraft {zs : List Int} (he : errOf zs = 0) {lim : Nat} (h1 : 1 ≤ lim) (h15 : lim ≤ 15) (hl : nUse zs ≤ 2 ^ lim) (hn : 2 ≤ nUse zs) : ((usI zs zs.length).map fun i => 2 ^ (15 - ((lensL lim zs).getD i 0).toNat)).sum = 32768 := by
  obtain ⟨f1, f2, f3⟩ := LF_facts he
  have hp := pm_all (LFz zs) f1 f2 f3 lim h1 hn hl
  have hk := hp.2.1
  rw [kraft_all _ _ (fun x hx => (hp.1 x hx).1)] at hk
  unfold XP at hk
  rw [List.map_map] at hk
  have h2 := LF_sum zs (fun i => 2 ^ (lim - lenOf (LFz zs) lim i))
  have h3 : ((LFz zs).map fun x => 2 ^ (lim - lenOf (LFz zs) lim x.2)).sum = 2 ^ lim := hk
  rw [h3] at h2
  have h4 : ((usI zs zs.length).map fun i => 2 ^ (15 - ((lensL lim zs).getD i 0).toNat)) = (usI zs zs.length).map fun i => 2 ^ (15 - lim) * 2 ^ (lim - lenOf (LFz zs) lim i) := by
    apply List.map_congr_left
    intro i hi
    have h5 := lens_bd he h1 hl hi
    rw [lens_get he h1 hl hn] at h5 ⊢
    rw [← Nat.pow_add]
    congr 1
    omega
  rw [h4, sum_mul, ← h2, ← Nat.pow_add, show 15 - lim + lim = 15 by omega]
end Go.Proofs.YtcifalelnfeggaaGreatDoor

namespace Go.Proofs.YtcifalelnfeggaaGreatDoor
open Go.RowKit
set_option linter.unusedVariables false

def NxtQ (w : World) (b br : Nat) (zs : List Int) (H : List Bool) (t : Nat) (e : Ending) (w' : World) : Prop :=
  ((∃ s, Beg zs H s ∧ e = .returned (.tuple #[.int .i64 (s : Int), .bool true, .int .i64 0]) ∧ Rd w' br (H.drop (ln zs s)) (t + ln zs s)) ∨ ((∀ s, ¬ Beg zs H s) ∧ May zs H ∧ e = .returned (.tuple #[.int .i64 0, .bool false, .int .i64 0]) ∧ Rd w' br H t) ∨ ((∀ s, ¬ Beg zs H s) ∧ ¬ May zs H ∧ e = .returned (.tuple #[.int .i64 0, .bool false, .int .i64 54]) ∧ Rd w' br H t)) ∧ Kp (fun k => k = br) w w'

set_option maxRecDepth 100000 in
set_option maxHeartbeats 1000000 in
theorem next5_any (b most : Nat) (zs : List Int) (br : Nat) (H : List Bool) (t : Nat) (w : World) (hD : De w b most zs) (hR : Rd w br H t) (ht : t ≤ 4611686018427387000) :
    Calls Tryz.prog 144 #[.pointer (some ⟨b, 0, none⟩), .pointer (some ⟨br, 0, none⟩)] w fun e w' => NxtQ w b br zs H t e w' := by
  obtain ⟨S, hS, hY, hb⟩ := hD.row
  have c0 := arr_cell hb (i := 0) (by simp [dl])
  have e0 : (dl most zs S).getD 0 0 = (most : Int) := rfl
  rw [e0] at c0
  have hm0 : ¬ (most : Int) = 0 := by have := hD.mo; omega
  have CH := has_any br H t w hR
  obtain ⟨n, hn⟩ : ∃ n, n = min H.length 15 := ⟨_, rfl⟩
  have HN : Hid (n = min H.length 15) := hn
  have hth : there H (n : Int) = true := there_of (by omega) (by omega)
  have CP := peek_any br H t (n : Int) w hR
  rw [hth] at CP
  have hV : takeV H (n : Int) = num (H.take n) := by unfold takeV; rw [hth]; simp
  rw [hV] at CP
  have CF := find_any b most zs H n HN w hD
  have hle := hR.le
  have HCT : Hid (∀ s, Beg zs H s → ln zs s ≤ 15 → Calls Tryz.prog 122 #[.pointer (some ⟨br, 0, none⟩), .int .i64 (ln zs s : Int)] w fun e w' => (∃ x y, e = .returned (.tuple #[x, y])) ∧ Rd w' br (H.drop (ln zs s)) (t + ln zs s) ∧ w.grownBy w' (some br)) := by
    intro s hs hl
    have := take_any br H t (ln zs s : Int) w hR (by omega)
    have h1 : there H (ln zs s : Int) = true := there_of (by omega) hs.2.2.1
    refine this.mono ?_
    rintro e w' ⟨rfl, h2, h3⟩
    refine ⟨⟨_, _, rfl⟩, ?_, h3⟩
    unfold takeL takeT at h2
    rw [h1] at h2
    simpa using h2
  have HLN : Hid (∀ s, Beg zs H s → 0 < ln zs s ∧ ln zs s ≤ 15) := fun s hs => ⟨ln_pos (errS_zero (errC_zero hD.ok).1).2 hs.2.1, ((errS_zero (errC_zero hD.ok).1).2.ln s).2⟩
  clear e0 hV hth
  by_cases hc : H.length ≤ 15
  · have en : (H.length : Int) = (n : Int) := by omega
    rw [en] at CH
    have hci : (n : Int) ≤ 15 := by omega
    have hci2 : ¬ (15 : Int) < (n : Int) := by omega
    clear hn hc en hle
    go_enter Tryz.func144, Tryz.ntmps144
    go_wp2_with fail
    refine CH.mono ?_
    rintro e w1 ⟨rfl, hw1⟩
    subst w1
    go_wp2_with fail
    refine CP.mono ?_
    rintro e w1 ⟨rfl, hw1⟩
    subst w1
    go_wp2_with fail
    refine CF.mono ?_
    rintro e w1 ⟨sy, le, er, rfl, hF, hw1⟩
    subst w1
    rcases hF with ⟨s, h1, rfl, rfl, rfl⟩ | ⟨h1, h2, rfl, rfl, rfl⟩ | ⟨h1, h2, rfl, rfl, rfl⟩
    · have CT := HCT.out s h1 (HLN.out s h1).2
      have HB : Hid (Beg zs H s) := h1
      have hl0 : ¬ (ln zs s : Int) = 0 := by have := (HLN.out s h1).1; omega
      clear h1
      go_wp2_with fail
      refine CT.mono ?_
      rintro e w1 ⟨⟨x, y, rfl⟩, h3, h4⟩
      go_wp2_with fail
      go_ret3
      exact ⟨.inl ⟨s, HB.out, rfl, h3⟩, Kp.grown h4 (fun i hi => by cases hi; rfl)⟩
    · have HB : Hid ((∀ s, ¬ Beg zs H s) ∧ May zs H) := ⟨h1, h2⟩
      clear h1 h2
      go_wp2_with fail
      go_ret3
      exact ⟨.inr (.inl ⟨HB.out.1, HB.out.2, rfl, hR⟩), Kp.refl _ _⟩
    · have HB : Hid ((∀ s, ¬ Beg zs H s) ∧ ¬ May zs H) := ⟨h1, h2⟩
      clear h1 h2
      go_wp2_with fail
      go_ret3
      exact ⟨.inr (.inr ⟨HB.out.1, HB.out.2, rfl, hR⟩), Kp.refl _ _⟩
  · obtain rfl : n = 15 := by omega
    obtain ⟨m, em⟩ : ∃ m, m = H.length := ⟨_, rfl⟩
    rw [← em] at CH
    have hci : ¬ (m : Int) ≤ 15 := by omega
    have hci2 : (15 : Int) < (m : Int) := by omega
    have e15 : ((15 : Nat) : Int) = 15 := rfl
    rw [e15] at CP CF
    clear hn e15 em hc hle
    go_enter Tryz.func144, Tryz.ntmps144
    go_wp2_with fail
    refine CH.mono ?_
    rintro e w1 ⟨rfl, hw1⟩
    subst w1
    go_wp2_with fail
    refine CP.mono ?_
    rintro e w1 ⟨rfl, hw1⟩
    subst w1
    go_wp2_with fail
    refine CF.mono ?_
    rintro e w1 ⟨sy, le, er, rfl, hF, hw1⟩
    subst w1
    rcases hF with ⟨s, h1, rfl, rfl, rfl⟩ | ⟨h1, h2, rfl, rfl, rfl⟩ | ⟨h1, h2, rfl, rfl, rfl⟩
    · have CT := HCT.out s h1 (HLN.out s h1).2
      have HB : Hid (Beg zs H s) := h1
      have hl0 : ¬ (ln zs s : Int) = 0 := by have := (HLN.out s h1).1; omega
      clear h1
      go_wp2_with fail
      refine CT.mono ?_
      rintro e w1 ⟨⟨x, y, rfl⟩, h3, h4⟩
      go_wp2_with fail
      go_ret3
      exact ⟨.inl ⟨s, HB.out, rfl, h3⟩, Kp.grown h4 (fun i hi => by cases hi; rfl)⟩
    · have HB : Hid ((∀ s, ¬ Beg zs H s) ∧ May zs H) := ⟨h1, h2⟩
      clear h1 h2
      go_wp2_with fail
      go_ret3
      exact ⟨.inr (.inl ⟨HB.out.1, HB.out.2, rfl, hR⟩), Kp.refl _ _⟩
    · have HB : Hid ((∀ s, ¬ Beg zs H s) ∧ ¬ May zs H) := ⟨h1, h2⟩
      clear h1 h2
      go_wp2_with fail
      go_ret3
      exact ⟨.inr (.inr ⟨HB.out.1, HB.out.2, rfl, hR⟩), Kp.refl _ _⟩
end Go.Proofs.YtcifalelnfeggaaGreatDoor

namespace Go.Proofs.YtcifalelnfeggaaGreatDoor
open Go.RowKit
set_option linter.unusedVariables false

theorem WrL.below {w w' : World} {b B N : Nat} {v : Value} {L : List Bool} (h : WrL w b B v L) (hk : Kp (WS b v) w w') (h1 : N ≤ b) (h2 : N ≤ B) : Below N w w' :=
  hk.below (fun i e => by
    rcases e with e | e
    · omega
    · have := (h.own_lt i e).1; omega) (by have := h.b_lt; omega)
theorem heap_new (w : World) (o : Obj) : (w.alloc o).heap[w.heap.size]? = some o := heap_alloc_new w o
theorem toB_five : toB (([] : List Bool) ++ bN 5 3 ++ bN 1 2) = [13] := by
  rw [toB_eq (by decide)]
  rw [show (([] : List Bool) ++ bN 5 3 ++ bN 1 2).drop 8 = [] from by decide, toB_nil]
  decide

end Go.Proofs.YtcifalelnfeggaaGreatDoor
