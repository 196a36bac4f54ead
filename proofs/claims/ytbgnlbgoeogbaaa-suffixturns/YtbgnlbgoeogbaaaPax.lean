import Derived.Test.YtbgnlbgoeogbaaaPaw
import Derived.Test.YtbgnlbgoeogbaaaPaa
import Derived.Lib.SmallJoins
import Derived.Deep.OwnRows
import Derived.Test.YtbgnlbgoeogbaaaPau
namespace Go.Proofs.Ytbgnlbgoeogbaaa
open Go.RowKit
set_option linter.unusedVariables false
set_option linter.unusedSimpArgs false

theorem seg_lit (w : World) (zs : List Int) (t : TypeId) (fr : Nat × Nat) (h : ∀ z ∈ zs, 0 ≤ z ∧ z ≤ 255) : Seg (w.alloc (.cells (zs.map (Value.int .u8)).toArray t fr)) (some ⟨w.heap.size, 0, none⟩) zs := by
  refine ⟨fun i hi => ⟨w.heap.size, 0, rfl, ?_⟩, by decide, getD_bd (by decide) h⟩
  have e : zs.getD i 0 = zs[i] := by simp [List.getD, hi]
  rw [e, Nat.zero_add, World.cell?_alloc_mark]
  simp [hi]
theorem parts_nil (w : World) (a : Option Addr) : Parts w a [] := ⟨fun i h => by simp at h, fun i h => by simp at h, fun i h => by simp at h⟩
theorem parts_one (w : World) (g n : Nat) (a : Option Addr) (zs : List Int) (cap : Nat) (t : TypeId) (h : Seg w a zs) (hg : g = w.heap.size) (hn : n = zs.length) (hl : zs.length ≤ 9223372036854775807) :
    Parts (w.alloc (.cells #[.slice a n cap] t)) (some ⟨g, 0, none⟩) [⟨a, zs, cap⟩] := by
  subst hg hn
  refine ⟨fun i hi => ⟨w.heap.size, 0, rfl, ?_⟩, fun i hi => ?_, fun i hi => ?_⟩ <;> (obtain rfl : i = 0 := by simpa using hi)
  · rw [World.cell?_alloc_mark]
    rfl
  · exact h.alloc _
  · exact hl
theorem flat_one (a : Option Addr) (zs : List Int) (cap : Nat) : flat [⟨a, zs, cap⟩] = zs := by simp [flat]
def nine : List Int := [49, 50, 51, 52, 53, 54, 55, 56, 57]
theorem nine_sum : wI (sumW nine) = 3421780262 := by decide +kernel
theorem none_sum : wI (sumW []) = 0 := by decide +kernel

theorem balloc {w w' : World} (h : Below w.heap.size w w') (o : Obj) : Below w.heap.size w (w'.alloc o) := h.alloc h.size o
theorem nine_bd : ∀ z ∈ nine, 0 ≤ z ∧ z ≤ 255 := by decide
end Go.Proofs.Ytbgnlbgoeogbaaa

namespace Go.Proofs.Ytbgnlbgoeogbaaa
open Go.RowKit
set_option linter.unusedVariables false
set_option linter.unusedSimpArgs false
theorem info_u8z : (Try.prog.info? 5).map (fun i => (i.zero, i.size, i.bytes)) = some (some (.int .u8 0), 1, 1) := by kernel_rfl
theorem made_zeros (n : Nat) : madeCells #[.int .u8 0] n = ((List.replicate n (0 : Int)).map (Value.int .u8)).toArray := by
  apply Array.toList_inj.1
  rw [toList_madeCells_one]
  simp
theorem run_make_zeros (n : Nat) (h : n ≤ 281474976710656) (w : World) :
    (Instr.makeSlice 41 (.int .i64 (n : Int)) (.int .i64 (n : Int))).run Try.prog w = .ok (.slice (some ⟨w.heap.size, 0, none⟩) n n) (w.alloc (.cells ((List.replicate n (0 : Int)).map (Value.int .u8)).toArray 5)) := by
  rw [← made_zeros]
  exact run_make_row' 41 5 (.int .u8 0) 1 Try.underlying41 info_u8z rfl .i64 .i64 n (by omega) (by omega) w
theorem zeros_bd (n : Nat) : ∀ z ∈ List.replicate n (0 : Int), 0 ≤ z ∧ z ≤ 255 := by
  intro z hz
  obtain ⟨_, rfl⟩ := List.mem_replicate.1 hz
  decide
end Go.Proofs.Ytbgnlbgoeogbaaa

namespace Go.Proofs.Ytbgnlbgoeogbaaa
open Go.RowKit
set_option linter.unusedVariables false

/-! The landed Unturn: longer, Unturn. -/
noncomputable def nt13 (B : Nat → Int) (n i u : Nat) : Nat := bk12 n B (u : Int) + cn12 (fun j => B j = (u : Int) ∧ j < i) n
theorem nt13_zero (B : Nat → Int) (n u : Nat) : nt13 B n 0 u = bk12 n B (u : Int) := by
  unfold nt13
  rw [cn12_none (fun j _ h => by omega)]
  omega
theorem nt13_hit {B : Nat → Int} {n i v : Nat} (hi : i < n) (hv : B i = (v : Int)) : nt13 B n (i + 1) v = nt13 B n i v + 1 := by
  unfold nt13
  rw [cn12_upd (P := fun j => B j = (v : Int) ∧ j < i) (Q := fun j => B j = (v : Int) ∧ j < i + 1) (j := i) hi (by omega) (fun j _ => by
    constructor
    · rintro ⟨h1, h2⟩
      by_cases c : j = i
      · exact Or.inr c
      · exact Or.inl ⟨h1, by omega⟩
    · rintro (⟨h1, h2⟩ | h1)
      · exact ⟨h1, by omega⟩
      · subst h1; exact ⟨hv, by omega⟩)]
  omega
theorem nt13_not {B : Nat → Int} {n i v u : Nat} (hv : B i = (v : Int)) (hu : u ≠ v) : nt13 B n (i + 1) u = nt13 B n i u := by
  unfold nt13
  rw [cn12_congr (P := fun j => B j = (u : Int) ∧ j < i + 1) (Q := fun j => B j = (u : Int) ∧ j < i) (fun j _ => by
    constructor
    · rintro ⟨h1, h2⟩
      have : j ≠ i := by intro e; subst e; omega
      exact ⟨h1, by omega⟩
    · rintro ⟨h1, h2⟩
      exact ⟨h1, by omega⟩)]
theorem nt13_nx {B : Nat → Int} {n i v : Nat} (hi : i < n) (hv : B i = (v : Int)) : nt13 B n i v + 1 = nx13 B n i := by
  unfold nt13 nx13 bk12
  rw [cn12_or (P := fun j => lt13 B j i) (Q := fun j => B j < (v : Int)) (R := fun j => B j = (v : Int) ∧ j < i) (fun j _ => by unfold lt13; rw [hv]) (fun j _ => by omega)]
theorem cn12_top (P : Nat → Prop) (n : Nat) : cn12 P n ≤ n := by
  have h1 := cn12_le (P := P) (Q := fun _ => True) (n := n) (fun _ _ _ => trivial)
  have h2 := cn12_all (P := fun _ => True) (n := n) (fun _ _ => trivial)
  omega
theorem nt13_le (B : Nat → Int) (n i u : Nat) : nt13 B n i u ≤ 2 * n := by
  unfold nt13 bk12
  have h1 := cn12_top (fun j => B j < (u : Int)) n
  have h2 := cn12_top (fun j => B j = (u : Int) ∧ j < i) n
  omega
def LgQ13 (w : World) (b : List Int) (n : Nat) (e : Ending) (w' : World) : Prop := ∃ g O, e = .returned (.slice (some ⟨g, 0, none⟩) n n) ∧ Rz12 w' g O ∧ O.length = n ∧ (∀ k, k < n → O.getD k 0 = ((nx13 (S12 b) n k : Nat) : Int)) ∧ w.heap.size ≤ g ∧ Below w.heap.size w w'
set_option maxRecDepth 100000 in
set_option maxHeartbeats 4000000 in
theorem plong13 (a : Option Addr) (z : List Int) (n cap : Nat) (w : World) (hs : Seg w a z) (hn : Hid (z.length = n)) (hb : n ≤ 16777216) :
    Calls Try.prog 45 #[.slice a n cap] w (LgQ13 w z n) := by
  have HN := pnum13 a z n cap w hs hn (by omega)
  have hv := seg_bd13 hs
  have HB : Hid (∀ w1 g, Rz12 w1 g z → Calls Try.prog 11 #[.int .i64 256, .slice (some ⟨g, 0, none⟩) n n] w1 (BkQ12 w1 256 z)) := fun w1 g R => pbks12 256 (some ⟨g, 0, none⟩) z n n w1 (R.seg (bd13 hv)) hn (ref13 hn.out hb hv)
  have HV : Hid (∀ i, i < n → 0 ≤ S12 z i ∧ S12 z i ≤ 255) := fun i hi => by
    have hl : i < z.length := by rw [hn.out]; exact hi
    have : S12 z i = z[i] := by unfold S12; simp [List.getD, hl]
    rw [this]; exact hv _ (List.getElem_mem hl)
  have HN0 : Hid (∀ u, u < 256 → (bnd12 256 z).getD u 0 = ((nt13 (S12 z) n 0 u : Nat) : Int)) := fun u hu => by rw [bnd12_get 256 z u (by omega), cnt12_bk, hn.out, nt13_zero]
  have HSD : Hid (∀ W, Below w.heap.size w W → Seg W a z) := fun W hb => hs.old hb
  clear hs hv
  go_enter Try.func45, Try.ntmps45
  go_wp2_with (first
    | (go_at_call 57; refine HN.mono ?_; rintro e1 w1 ⟨rfl, R1, B1⟩; clear HN)
    | (go_at_call 11; refine (HB.out w1 _ R1).mono ?_; rintro e2 w2 ⟨gf, gt, rfl, Rf, Rt, q1, q2, B2⟩; have HM := run_make_i12 n (by omega) w2))
  have D2 := B1.trans (B2.mono B1.size)
  have z1 := B1.size
  have lf := Rf.lt
  have Al : Below w2.heap.size w2 (w2.alloc (.cells (vi12 (List.replicate n 0)) 3)) := (Below.refl _ _).alloc (Nat.le_refl _) _
  have R0 := Rz12.new w2 (List.replicate n 0)
  have Rf3 := Rf.old Al
  have D3 := D2.trans (Al.mono D2.size)
  obtain ⟨w3, hw3⟩ : ∃ w3, w2.alloc (.cells (vi12 (List.replicate n 0)) 3) = w3 := ⟨_, rfl⟩
  obtain ⟨go, hgo⟩ : ∃ go, w2.heap.size = go := ⟨_, rfl⟩
  rw [hw3] at R0 Rf3 D3 ⊢
  rw [hgo] at R0 lf ⊢
  have HZ : Hid (w.heap.size ≤ go ∧ w.heap.size ≤ gf ∧ gf < go) := ⟨by have := D2.size; omega, by omega, by omega⟩
  have HBL : (bnd12 256 z).length = 257 := bnd12_len 256 z
  clear R1 Rf Rt B1 B2 D2 Al HM hw3 hgo q1 q2 z1 lf
  go_loopw [21] (fun ti wr => ∃ (i : Nat) (N O : List Int), i ≤ n ∧ ti = .int .i64 i ∧ Rz12 wr gf N ∧ Rz12 wr go O ∧ N.length = 257 ∧ O.length = n ∧ Hid (∀ u, u < 256 → N.getD u 0 = ((nt13 (S12 z) n i u : Nat) : Int)) ∧ Hid (∀ k, k < i → O.getD k 0 = ((nx13 (S12 z) n k : Nat) : Int)) ∧ Below w.heap.size w wr) (fun ti _ => n - (intOf ti).toNat)
  case atStart => exact ⟨0, bnd12 256 z, List.replicate n 0, Nat.zero_le _, rfl, Rf3, R0, HBL, by simp, HN0, (fun k hk => absurd hk (Nat.not_lt_zero _) : ∀ k, k < 0 → _), D3⟩
  case round =>
    obtain ⟨i, N, O, hi, rfl, RN, RO, lN, lO, HNN, HOO, DW⟩ := hrel
    clear Rf3 R0 D3
    by_cases h1 : i < n
    · have h1i : (i : Int) < (n : Int) := by omega
      obtain ⟨db, dof, rfl, c0⟩ := (HSD.out wr DW).at_ i (by rw [hn.out]; exact h1)
      have vb := HV.out i h1
      obtain ⟨v, hv⟩ := Int.eq_ofNat_of_zero_le vb.1
      have hv2 : S12 z i = (v : Int) := hv
      have c1 : wr.cell? ⟨db, dof + i, none⟩ = some (.int .u8 (v : Int)) := by rw [← hv2]; exact c0
      have hvl : v < 256 := by omega
      have hvi : (v : Int) < 256 := by omega
      have c2 := RN.cell (i := v) (by omega)
      have f2 := RN.free v
      rw [HNN.out v hvl] at c2
      have hnt := nt13_le (S12 z) n i v
      have HNX : Hid (nt13 (S12 z) n i v + 1 = nx13 (S12 z) n i) := nt13_nx h1 hv2
      have RN2 := RN.set v ((nt13 (S12 z) n i v : Nat) + 1 : Int)
      have RO2 := RO.kp (Kp.set (S := fun k => k = gf) (w := wr) (i := v) rfl (.int .i64 ((nt13 (S12 z) n i v : Nat) + 1 : Int))) (by have := HZ.out; omega)
      have c3 := RN2.cell (i := v) (by rw [List.length_set]; omega)
      rw [getD_set12 N v _ v (by omega), if_pos rfl] at c3
      have c4 := RO2.cell (i := i) (by omega)
      have f4 := RO2.free i
      have HR3 : Hid (Rz12 (((wr.setCell ⟨gf, v, none⟩ (.int .i64 ((nt13 (S12 z) n i v : Nat) + 1 : Int)))).setCell ⟨go, i, none⟩ (.int .i64 ((nt13 (S12 z) n i v : Nat) + 1 : Int))) gf (N.set v ((nt13 (S12 z) n i v : Nat) + 1 : Int)) ∧ Rz12 (((wr.setCell ⟨gf, v, none⟩ (.int .i64 ((nt13 (S12 z) n i v : Nat) + 1 : Int)))).setCell ⟨go, i, none⟩ (.int .i64 ((nt13 (S12 z) n i v : Nat) + 1 : Int))) go (O.set i ((nt13 (S12 z) n i v : Nat) + 1 : Int)) ∧ Below w.heap.size w (((wr.setCell ⟨gf, v, none⟩ (.int .i64 ((nt13 (S12 z) n i v : Nat) + 1 : Int)))).setCell ⟨go, i, none⟩ (.int .i64 ((nt13 (S12 z) n i v : Nat) + 1 : Int)))) := by
        refine ⟨RN2.kp (Kp.set (S := fun k => k = go) rfl _) (by have := HZ.out; omega), RO2.set i _, ?_⟩
        have k1 : Kp (fun k => k = gf ∨ k = go) wr (((wr.setCell ⟨gf, v, none⟩ (.int .i64 ((nt13 (S12 z) n i v : Nat) + 1 : Int)))).setCell ⟨go, i, none⟩ (.int .i64 ((nt13 (S12 z) n i v : Nat) + 1 : Int))) := (Kp.set (S := fun k => k = gf ∨ k = go) (Or.inl rfl) _).trans (Kp.set (S := fun k => k = gf ∨ k = go) (Or.inr rfl) _) (fun _ _ e => e)
        exact DW.trans (k1.below (fun k e => by have := HZ.out; omega) DW.size)
      have HNS : Hid (∀ u, u < 256 → (N.set v ((nt13 (S12 z) n i v : Nat) + 1 : Int)).getD u 0 = ((nt13 (S12 z) n (i + 1) u : Nat) : Int)) := fun u hu => by
        rw [getD_set12 N v _ u (by omega)]
        by_cases c : u = v
        · subst c
          rw [if_pos rfl, nt13_hit h1 hv2]
          omega
        · rw [if_neg c, nt13_not hv2 c]
          exact HNN.out u hu
      have HOS : Hid (∀ k, k < i + 1 → (O.set i ((nt13 (S12 z) n i v : Nat) + 1 : Int)).getD k 0 = ((nx13 (S12 z) n k : Nat) : Int)) := fun k hk => by
        rw [getD_set12 O i _ k (by omega)]
        by_cases c : k = i
        · subst c
          rw [if_pos rfl, ← HNX.out]
          omega
        · rw [if_neg c]
          exact HOO.out k (by omega)
      have hne : ¬ gf = go := by have := HZ.out; omega
      have hne2 : ¬ go = gf := by have := HZ.out; omega
      clear RN RO RN2 RO2 HNX hv hv2 vb c0
      generalize nt13 (S12 z) n i v = y at *
      generalize O.getD i 0 = o1 at c4
      go_wp2_with fail
      go_roundw
      case rel => exact ⟨i + 1, _, _, by omega, by go_num, HR3.out.1, HR3.out.2.1, by rw [List.length_set]; exact lN, by rw [List.length_set]; exact lO, HNS, HOS, HR3.out.2.2⟩
      case measure => simp [intOf]; omega
    · have h1i : ¬ (i : Int) < (n : Int) := by omega
      obtain rfl : i = n := by omega
      go_wp2_with fail
      go_ret
      exact ⟨go, O, rfl, RO, lO, HOO.out, HZ.out.1, DW⟩
end Go.Proofs.Ytbgnlbgoeogbaaa

namespace Go.Proofs.Ytbgnlbgoeogbaaa
open Go.RowKit
set_option linter.unusedVariables false

/-! The landed Unturn. -/
/-- What Unturn answers of bytes and an end that may be. -/
def UnQ13 (w : World) (b : List Int) (n e : Nat) (en : Ending) (w' : World) : Prop :=
  (¬ Wk13 (S12 b) n e ∧ en = .returned (.tuple #[.slice none 0 0, .int .i64 131]) ∧ Below w.heap.size w w') ∨
  (Wk13 (S12 b) n e ∧ ∃ ra rc x, en = .returned (.tuple #[.slice ra n rc, .int .i64 0]) ∧ Rd13 (S12 b) n e x ∧ (∀ y ∈ x, 0 ≤ y ∧ y ≤ 255) ∧ w'.ownsRow w.heap.size 5 1 (.slice ra n rc) n (x.map (Value.int .u8)) ∧ Below w.heap.size w w')
/-- What is read so far. -/
structure Rp13u (B : Nat → Int) (n e k : Nat) (L : List Int) : Prop where
  run : ∀ q, q < k → rw13 B n e q ≠ e
  at_ : ∀ q, q < k → L.getD (n - 1 - q) 0 = rc13 B n e q
  bd : ∀ y ∈ L, 0 ≤ y ∧ y ≤ 255
  row : rw13 B n e k ≤ n
theorem Rp13u.step {B : Nat → Int} {n e k : Nat} {L : List Int} (h : Rp13u B n e k L) (he : e ≤ n) (hL : L.length = n) (hk : k < n) (hne : rw13 B n e k ≠ e) (hv : 0 ≤ rc13 B n e k ∧ rc13 B n e k ≤ 255) : Rp13u B n e (k + 1) (L.set (n - 1 - k) (rc13 B n e k)) := by
  refine ⟨fun q hq => ?_, fun q hq => ?_, fun y hy => ?_, nx13_le (la13_lt he h.row hne)⟩
  · by_cases c : q = k
    · subst c; exact hne
    · exact h.run q (by omega)
  · rw [getD_set12 L _ _ _ (by omega)]
    by_cases c : q = k
    · subst c; rw [if_pos rfl]
    · rw [if_neg (by omega)]; exact h.at_ q (by omega)
  · rcases List.mem_or_eq_of_mem_set hy with c | c
    · exact h.bd y c
    · subst c; exact hv
set_option maxRecDepth 100000 in
set_option maxHeartbeats 4000000 in
theorem punt13 (a : Option Addr) (b : List Int) (n cap e : Nat) (w : World) (hs : Seg w a b) (hn : Hid (b.length = n)) (hb : n ≤ 16777216) (he : e ≤ n) :
    Calls Try.prog 29 #[.slice a n cap, .int .i64 (e : Int)] w (UnQ13 w b n e) := by
  have HLG := plong13 a b n cap w hs hn hb
  have HSD : Hid (∀ W, Below w.heap.size w W → Seg W a b) := fun W hb => hs.old hb
  have hbi : ¬ (16777216 : Int) < (n : Int) := by omega
  have he0 : ¬ (e : Int) < 0 := by omega
  have he1 : ¬ (n : Int) < (e : Int) := by omega
  have HEN : Hid (e ≤ n) := he
  clear hs
  go_enter Try.func29, Try.ntmps29
  go_wp2_with (first
    | (go_at_call 45; refine HLG.mono ?_; rintro e1 w1 ⟨gl, O, rfl, R1, lO, hO, q1, B1⟩; clear HLG; have HM := run_make_zeros n (by omega) w1; obtain ⟨w3, hw3⟩ : ∃ w3, w1.alloc (.cells ((List.replicate n (0 : Int)).map (Value.int .u8)).toArray 5) = w3 := ⟨_, rfl⟩; obtain ⟨go, hgo⟩ : ∃ go, w1.heap.size = go := ⟨_, rfl⟩; rw [hw3, hgo] at HM; have HW3 : Hid (w1.alloc (.cells ((List.replicate n (0 : Int)).map (Value.int .u8)).toArray 5) = w3) := hw3; have HGO : Hid (w1.heap.size = go) := hgo; clear hw3 hgo))
  have Al : Below w1.heap.size w1 (w1.alloc (.cells ((List.replicate n (0 : Int)).map (Value.int .u8)).toArray 5)) := (Below.refl _ _).alloc (Nat.le_refl _) _
  have oO : (w1.alloc (.cells ((List.replicate n (0 : Int)).map (Value.int .u8)).toArray 5)).ownsRow w.heap.size 5 1 (.slice (some ⟨w1.heap.size, 0, none⟩) n n) n ((List.replicate n (0 : Int)).map (Value.int .u8)) := by
    have h5 := World.ownsRow_lit (base := w.heap.size) (e := 5) (size := 1) w1 ((List.replicate n (0 : Int)).map (Value.int .u8)).toArray n B1.size (by unfold maxLen; omega) (by simp)
    simpa using h5
  have R3 := R1.old Al
  have lg := R1.lt
  have D3 := B1.trans (Al.mono B1.size)
  have zg := B1.size
  rw [HW3.out] at oO R3 D3
  rw [HGO.out] at oO lg zg
  have HZ : Hid (w.heap.size ≤ go ∧ gl < go) := ⟨zg, lg⟩
  have HO : Hid (∀ k, k < n → O.getD k 0 = ((nx13 (S12 b) n k : Nat) : Int)) := hO
  have HK : Hid (∀ W, Kp (fun k => k = go) w3 W → Rz12 W gl O ∧ Below w.heap.size w W) := fun W K => ⟨R3.kp K (by omega), D3.trans (K.below (fun k e => by omega) D3.size)⟩
  have HP0 : Hid (Rp13u (S12 b) n e 0 (List.replicate n 0)) := ⟨fun q hq => by omega, fun q hq => by omega, zeros_bd n, Nat.zero_le _⟩
  have HLO : Hid (O.length = n) := lO
  clear R1 R3 B1 D3 Al HM HW3 HGO hO q1 lg zg lO
  go_loopw [8, 29] (fun tr ti wr => ∃ (k : Nat) (L : List Int), k ≤ n ∧ tr = .int .i64 ((rw13 (S12 b) n e k : Nat) : Int) ∧ ti = .int .i64 k ∧ L.length = n ∧ Hid (Rp13u (S12 b) n e k L) ∧ wr.ownsRow w.heap.size 5 1 (.slice (some ⟨go, 0, none⟩) n n) n (L.map (Value.int .u8)) ∧ Kp (fun k => k = go) w3 wr) (fun _ ti _ => n - (intOf ti).toNat)
  case atStart => exact ⟨0, List.replicate n 0, Nat.zero_le _, rfl, rfl, by simp, HP0, oO, Kp.refl _ _⟩
  case round =>
    obtain ⟨k, L, hk, rfl, rfl, hL, HP, oL, KL⟩ := hrel
    obtain ⟨RL, DW⟩ := HK.out wr KL
    clear oO
    by_cases h1 : k < n
    · have h1i : (k : Int) < (n : Int) := by omega
      have hr := HP.out.row
      have HNX : Hid (rw13 (S12 b) n e (k + 1) = nx13 (S12 b) n (la13 e (rw13 (S12 b) n e k))) := rfl
      have HRC : Hid (rc13 (S12 b) n e k = S12 b (la13 e (rw13 (S12 b) n e k))) := rfl
      have HST : Hid (rw13 (S12 b) n e k ≠ e → 0 ≤ rc13 (S12 b) n e k ∧ rc13 (S12 b) n e k ≤ 255 → Rp13u (S12 b) n e (k + 1) (L.set (n - 1 - k) (rc13 (S12 b) n e k))) := fun h5 h6 => HP.out.step HEN.out hL h1 h5 h6
      have HNO : Hid (rw13 (S12 b) n e k = e → ¬ Wk13 (S12 b) n e) := fun h5 h6 => h6.run k h1 h5
      generalize rw13 (S12 b) n e k = r at *
      by_cases h2 : r = e
      · have HF : Hid (¬ Wk13 (S12 b) n e) := HNO.out h2
        subst h2
        clear HNO HST HNX HRC
        go_wp2_with fail
        refine bodyPost_ret (results_tmp2 rfl _ _ _) rfl ?_
        exact Or.inl ⟨HF.out, rfl, DW⟩
      · have h2i : ¬ (r : Int) = (e : Int) := by omega
        have h2b : ((r : Int) == (e : Int)) = false := beq_eq_false_iff_ne.2 h2i
        have hla := la13_lt (n := n) HEN.out hr h2
        have HSE : Hid (la13 e r = if e < r then r - 1 else r) := rfl
        have hcell := (HSD.out wr DW).at_ (la13 e r) (by rw [hn.out]; exact hla)
        obtain ⟨db, dof, rfl, c1⟩ := hcell
        have yb := (HSD.out wr DW).bd (la13 e r)
        have HST2 : Hid (Rp13u (S12 b) n e (k + 1) (L.set (n - 1 - k) (b.getD (la13 e r) 0))) := by
          have h7 := HRC.out
          have h8 := HST.out h2 (by rw [h7]; exact yb)
          rw [h7] at h8
          exact h8
        have c2 := RL.cell (i := la13 e r) (by rw [HLO.out]; exact hla)
        rw [HO.out _ hla, ← HNX.out] at c2
        obtain ⟨p, hp⟩ : ∃ p, p = n - 1 - k := ⟨_, rfl⟩
        have hpn : p < n := by omega
        have hpi : (p : Int) < (n : Int) := by omega
        have ep : (n : Int) - 1 - (k : Int) = (p : Int) := by omega
        have ep0 : ¬ (p : Int) < 0 := by omega
        have c3 := oL.cells (g := go) rfl p (.int .u8 (L.getD p 0)) (by simp [List.getD, hL, hpn])
        have hadd : (⟨go, 0, none⟩ : Addr).add p = ⟨go, p, none⟩ := by unfold Addr.add; split <;> simp_all
        rw [hadd] at c3
        have fz := oL.frozenAt p
        have HSS := oL.stored p (.int .u8 (b.getD (la13 e r) 0))
        rw [← List.map_set] at HSS
        have HS : Hid _ := HSS.1
        have HG : Hid _ := HSS.2
        rw [← hp] at HST2
        have c2' := RL.kp (Kp.set (S := fun k => k = go) (w := wr) (i := p) rfl (.int .u8 (b.getD (la13 e r) 0))) (by have := HZ.out; omega)
        have c4 := c2'.cell (i := la13 e r) (by rw [HLO.out]; exact hla)
        rw [HO.out _ hla, ← HNX.out] at c4
        have hne : ¬ gl = go := by have := HZ.out; omega
        have HRN : Hid (rw13 (S12 b) n e (k + 1) ≤ n) := HST2.out.row
        have hrn := HRN.out
        generalize L.getD p 0 = y0 at c3
        clear oL HSS HNO HST HNX HRC c2' RL hp
        generalize b.getD (la13 e r) 0 = y at *
        generalize hr2 : rw13 (S12 b) n e (k + 1) = r2 at *
        have HR2 : Hid (rw13 (S12 b) n e (k + 1) = r2) := hr2
        clear hr2
        by_cases h3 : e < r
        · have h3i : (e : Int) < (r : Int) := by omega
          have hl2 : la13 e r = r - 1 := by rw [HSE.out, if_pos h3]
          rw [hl2] at c1 c2 c4 hla
          obtain ⟨r1, hr1⟩ : ∃ r1, r1 = r - 1 := ⟨_, rfl⟩
          have er : (r : Int) - 1 = (r1 : Int) := by omega
          rw [← hr1] at c1 c2 c4 hla
          have hr1i : (r1 : Int) < (n : Int) := by omega
          clear hr1 hl2 HSE
          go_wp2_with fail
          go_roundw
          case rel => exact ⟨k + 1, L.set p y, by omega, by rw [HR2.out], by go_num, by rw [List.length_set]; exact hL, HST2, HS.out, KL.trans (Kp.grown (S := fun k => k = go) HG.out (fun i e => by simpa [Value.ownBlock] using e.symm)) (fun _ _ e => e)⟩
          case measure => simp [intOf]; omega
        · have h3i : ¬ (e : Int) < (r : Int) := by omega
          have hl2 : la13 e r = r := by rw [HSE.out, if_neg h3]
          rw [hl2] at c1 c2 c4 hla
          have hr1i : (r : Int) < (n : Int) := by omega
          clear hl2 HSE
          go_wp2_with fail
          go_roundw
          case rel => exact ⟨k + 1, L.set p y, by omega, by rw [HR2.out], by go_num, by rw [List.length_set]; exact hL, HST2, HS.out, KL.trans (Kp.grown (S := fun k => k = go) HG.out (fun i e => by simpa [Value.ownBlock] using e.symm)) (fun _ _ e => e)⟩
          case measure => simp [intOf]; omega
    · have h1i : ¬ (k : Int) < (n : Int) := by omega
      obtain rfl : k = n := by omega
      go_wp2_with fail
      refine bodyPost_ret (results_tmp2 rfl _ _ _) rfl ?_
      exact Or.inr ⟨⟨HEN.out, HP.out.run⟩, some ⟨go, 0, none⟩, k, L, rfl, ⟨hL, HP.out.at_⟩, HP.out.bd, oL, DW⟩
set_option maxRecDepth 100000 in
theorem puntn13 (a : Option Addr) (n cap : Nat) (e : Int) (w : World) (hb : 16777216 < n) (hb2 : n ≤ 9223372036854775807) :
    Calls Try.prog 29 #[.slice a n cap, .int .i64 e] w fun en w' => en = .returned (.tuple #[.slice none 0 0, .int .i64 130]) ∧ w' = w := by
  have h24 : (16777216 : Int) < (n : Int) := by omega
  go_enter Try.func29, Try.ntmps29
  go_wp2_with fail
  refine bodyPost_ret (results_tmp2 rfl _ _ _) rfl ?_
  exact ⟨rfl, rfl⟩
set_option maxRecDepth 100000 in
theorem punte13 (a : Option Addr) (n cap : Nat) (e : Int) (w : World) (hb : n ≤ 16777216) (he : e < 0 ∨ (0 ≤ e ∧ (n : Int) < e)) :
    Calls Try.prog 29 #[.slice a n cap, .int .i64 e] w fun en w' => en = .returned (.tuple #[.slice none 0 0, .int .i64 132]) ∧ w' = w := by
  have h24 : ¬ (16777216 : Int) < (n : Int) := by omega
  rcases he with h1 | ⟨h1, h2⟩
  · go_enter Try.func29, Try.ntmps29
    go_wp2_with fail
    refine bodyPost_ret (results_tmp2 rfl _ _ _) rfl ?_
    exact ⟨rfl, rfl⟩
  · have h3 : ¬ e < 0 := by omega
    go_enter Try.func29, Try.ntmps29
    go_wp2_with fail
    refine bodyPost_ret (results_tmp2 rfl _ _ _) rfl ?_
    exact ⟨rfl, rfl⟩
end Go.Proofs.Ytbgnlbgoeogbaaa
