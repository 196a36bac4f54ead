import Derived.Test.YtbgnlbgoeogbaaaPav
namespace Go.Proofs.Ytbgnlbgoeogbaaa
open Go.RowKit
set_option linter.unusedVariables false

/-! The landed Unturn. -/
/-- What Unturn answers of bytes and an end that may be. -/
def UnQ13 (w : World) (b : List Int) (n e : Nat) (en : Ending) (w' : World) : Prop :=
  (¬ Wk13 (S12 b) n e ∧ en = .returned (.tuple #[.slice none 0 0, .int .i64 131]) ∧ Below w.heap.size w w') ∨
  (Wk13 (S12 b) n e ∧ ∃ ra rc x, en = .returned (.tuple #[.slice ra n rc, .int .i64 0]) ∧ Rd13 (S12 b) n e x ∧ (∀ y ∈ x, 0 ≤ y ∧ y ≤ 255) ∧ w'.ownsRow w.heap.size 5 1 (.slice ra n rc) n (x.map (Value.int .u8)) ∧ Below w.heap.size w w')
/-- What is read so far. -/
structure Rp13u (B : Nat → Int) (n e k : Nat) (L : List Int) : Prop where
  run : ∀ q, q < k → rw13 B n e q ≠ e
  at_ : ∀ q, q < k → L.getD (n - 1 - q) 0 = rc13 B n e q
  bd : ∀ y ∈ L, 0 ≤ y ∧ y ≤ 255
  row : rw13 B n e k ≤ n
theorem Rp13u.step {B : Nat → Int} {n e k : Nat} {L : List Int} (h : Rp13u B n e k L) (he : e ≤ n) (hL : L.length = n) (hk : k < n) (hne : rw13 B n e k ≠ e) (hv : 0 ≤ rc13 B n e k ∧ rc13 B n e k ≤ 255) : Rp13u B n e (k + 1) (L.set (n - 1 - k) (rc13 B n e k)) := by
  refine ⟨fun q hq => ?_, fun q hq => ?_, fun y hy => ?_, nx13_le (la13_lt he h.row hne)⟩
  · by_cases c : q = k
    · subst c; exact hne
    · exact h.run q (by omega)
  · rw [getD_set12 L _ _ _ (by omega)]
    by_cases c : q = k
    · subst c; rw [if_pos rfl]
    · rw [if_neg (by omega)]; exact h.at_ q (by omega)
  · rcases List.mem_or_eq_of_mem_set hy with c | c
    · exact h.bd y c
    · subst c; exact hv
set_option maxRecDepth 100000 in
set_option maxHeartbeats 4000000 in
theorem punt13 (a : Option Addr) (b : List Int) (n cap e : Nat) (w : World) (hs : Seg w a b) (hn : Hid (b.length = n)) (hb : n ≤ 16777216) (he : e ≤ n) :
    Calls Try.prog 29 #[.slice a n cap, .int .i64 (e : Int)] w (UnQ13 w b n e) := by
  have HLG := plong13 a b n cap w hs hn hb
  have HSD : Hid (∀ W, Below w.heap.size w W → Seg W a b) := fun W hb => hs.old hb
  have hbi : ¬ (16777216 : Int) < (n : Int) := by omega
  have he0 : ¬ (e : Int) < 0 := by omega
  have he1 : ¬ (n : Int) < (e : Int) := by omega
  have HEN : Hid (e ≤ n) := he
  clear hs
  go_enter Try.func29, Try.ntmps29
  go_wp2_with (first
    | (go_at_call 45; refine HLG.mono ?_; rintro e1 w1 ⟨gl, O, rfl, R1, lO, hO, q1, B1⟩; clear HLG; have HM := run_make_zeros n (by omega) w1; obtain ⟨w3, hw3⟩ : ∃ w3, w1.alloc (.cells ((List.replicate n (0 : Int)).map (Value.int .u8)).toArray 5) = w3 := ⟨_, rfl⟩; obtain ⟨go, hgo⟩ : ∃ go, w1.heap.size = go := ⟨_, rfl⟩; rw [hw3, hgo] at HM; have HW3 : Hid (w1.alloc (.cells ((List.replicate n (0 : Int)).map (Value.int .u8)).toArray 5) = w3) := hw3; have HGO : Hid (w1.heap.size = go) := hgo; clear hw3 hgo))
  have Al : Below w1.heap.size w1 (w1.alloc (.cells ((List.replicate n (0 : Int)).map (Value.int .u8)).toArray 5)) := (Below.refl _ _).alloc (Nat.le_refl _) _
  have oO : (w1.alloc (.cells ((List.replicate n (0 : Int)).map (Value.int .u8)).toArray 5)).ownsRow w.heap.size 5 1 (.slice (some ⟨w1.heap.size, 0, none⟩) n n) n ((List.replicate n (0 : Int)).map (Value.int .u8)) := by
    have h5 := World.ownsRow_lit (base := w.heap.size) (e := 5) (size := 1) w1 ((List.replicate n (0 : Int)).map (Value.int .u8)).toArray n B1.size (by unfold maxLen; omega) (by simp)
    simpa using h5
  have R3 := R1.old Al
  have lg := R1.lt
  have D3 := B1.trans (Al.mono B1.size)
  have zg := B1.size
  rw [HW3.out] at oO R3 D3
  rw [HGO.out] at oO lg zg
  have HZ : Hid (w.heap.size ≤ go ∧ gl < go) := ⟨zg, lg⟩
  have HO : Hid (∀ k, k < n → O.getD k 0 = ((nx13 (S12 b) n k : Nat) : Int)) := hO
  have HK : Hid (∀ W, Kp (fun k => k = go) w3 W → Rz12 W gl O ∧ Below w.heap.size w W) := fun W K => ⟨R3.kp K (by omega), D3.trans (K.below (fun k e => by omega) D3.size)⟩
  have HP0 : Hid (Rp13u (S12 b) n e 0 (List.replicate n 0)) := ⟨fun q hq => by omega, fun q hq => by omega, zeros_bd n, Nat.zero_le _⟩
  have HLO : Hid (O.length = n) := lO
  clear R1 R3 B1 D3 Al HM HW3 HGO hO q1 lg zg lO
  go_loopw [8, 29] (fun tr ti wr => ∃ (k : Nat) (L : List Int), k ≤ n ∧ tr = .int .i64 ((rw13 (S12 b) n e k : Nat) : Int) ∧ ti = .int .i64 k ∧ L.length = n ∧ Hid (Rp13u (S12 b) n e k L) ∧ wr.ownsRow w.heap.size 5 1 (.slice (some ⟨go, 0, none⟩) n n) n (L.map (Value.int .u8)) ∧ Kp (fun k => k = go) w3 wr) (fun _ ti _ => n - (intOf ti).toNat)
  case atStart => exact ⟨0, List.replicate n 0, Nat.zero_le _, rfl, rfl, by simp, HP0, oO, Kp.refl _ _⟩
  case round =>
    obtain ⟨k, L, hk, rfl, rfl, hL, HP, oL, KL⟩ := hrel
    obtain ⟨RL, DW⟩ := HK.out wr KL
    clear oO
    by_cases h1 : k < n
    · have h1i : (k : Int) < (n : Int) := by omega
      have hr := HP.out.row
      have HNX : Hid (rw13 (S12 b) n e (k + 1) = nx13 (S12 b) n (la13 e (rw13 (S12 b) n e k))) := rfl
      have HRC : Hid (rc13 (S12 b) n e k = S12 b (la13 e (rw13 (S12 b) n e k))) := rfl
      have HST : Hid (rw13 (S12 b) n e k ≠ e → 0 ≤ rc13 (S12 b) n e k ∧ rc13 (S12 b) n e k ≤ 255 → Rp13u (S12 b) n e (k + 1) (L.set (n - 1 - k) (rc13 (S12 b) n e k))) := fun h5 h6 => HP.out.step HEN.out hL h1 h5 h6
      have HNO : Hid (rw13 (S12 b) n e k = e → ¬ Wk13 (S12 b) n e) := fun h5 h6 => h6.run k h1 h5
      generalize rw13 (S12 b) n e k = r at *
      by_cases h2 : r = e
      · have HF : Hid (¬ Wk13 (S12 b) n e) := HNO.out h2
        subst h2
        clear HNO HST HNX HRC
        go_wp2_with fail
        refine bodyPost_ret (results_tmp2 rfl _ _ _) rfl ?_
        exact Or.inl ⟨HF.out, rfl, DW⟩
      · have h2i : ¬ (r : Int) = (e : Int) := by omega
        have h2b : ((r : Int) == (e : Int)) = false := beq_eq_false_iff_ne.2 h2i
        have hla := la13_lt (n := n) HEN.out hr h2
        have HSE : Hid (la13 e r = if e < r then r - 1 else r) := rfl
        have hcell := (HSD.out wr DW).at_ (la13 e r) (by rw [hn.out]; exact hla)
        obtain ⟨db, dof, rfl, c1⟩ := hcell
        have yb := (HSD.out wr DW).bd (la13 e r)
        have HST2 : Hid (Rp13u (S12 b) n e (k + 1) (L.set (n - 1 - k) (b.getD (la13 e r) 0))) := by
          have h7 := HRC.out
          have h8 := HST.out h2 (by rw [h7]; exact yb)
          rw [h7] at h8
          exact h8
        have c2 := RL.cell (i := la13 e r) (by rw [HLO.out]; exact hla)
        rw [HO.out _ hla, ← HNX.out] at c2
        obtain ⟨p, hp⟩ : ∃ p, p = n - 1 - k := ⟨_, rfl⟩
        have hpn : p < n := by omega
        have hpi : (p : Int) < (n : Int) := by omega
        have ep : (n : Int) - 1 - (k : Int) = (p : Int) := by omega
        have ep0 : ¬ (p : Int) < 0 := by omega
        have c3 := oL.cells (g := go) rfl p (.int .u8 (L.getD p 0)) (by simp [List.getD, hL, hpn])
        have hadd : (⟨go, 0, none⟩ : Addr).add p = ⟨go, p, none⟩ := by unfold Addr.add; split <;> simp_all
        rw [hadd] at c3
        have fz := oL.frozenAt p
        have HSS := oL.stored p (.int .u8 (b.getD (la13 e r) 0))
        rw [← List.map_set] at HSS
        have HS : Hid _ := HSS.1
        have HG : Hid _ := HSS.2
        rw [← hp] at HST2
        have c2' := RL.kp (Kp.set (S := fun k => k = go) (w := wr) (i := p) rfl (.int .u8 (b.getD (la13 e r) 0))) (by have := HZ.out; omega)
        have c4 := c2'.cell (i := la13 e r) (by rw [HLO.out]; exact hla)
        rw [HO.out _ hla, ← HNX.out] at c4
        have hne : ¬ gl = go := by have := HZ.out; omega
        have HRN : Hid (rw13 (S12 b) n e (k + 1) ≤ n) := HST2.out.row
        have hrn := HRN.out
        generalize L.getD p 0 = y0 at c3
        clear oL HSS HNO HST HNX HRC c2' RL hp
        generalize b.getD (la13 e r) 0 = y at *
        generalize hr2 : rw13 (S12 b) n e (k + 1) = r2 at *
        have HR2 : Hid (rw13 (S12 b) n e (k + 1) = r2) := hr2
        clear hr2
        by_cases h3 : e < r
        · have h3i : (e : Int) < (r : Int) := by omega
          have hl2 : la13 e r = r - 1 := by rw [HSE.out, if_pos h3]
          rw [hl2] at c1 c2 c4 hla
          obtain ⟨r1, hr1⟩ : ∃ r1, r1 = r - 1 := ⟨_, rfl⟩
          have er : (r : Int) - 1 = (r1 : Int) := by omega
          rw [← hr1] at c1 c2 c4 hla
          have hr1i : (r1 : Int) < (n : Int) := by omega
          clear hr1 hl2 HSE
          go_wp2_with fail
          go_roundw
          case rel => exact ⟨k + 1, L.set p y, by omega, by rw [HR2.out], by go_num, by rw [List.length_set]; exact hL, HST2, HS.out, KL.trans (Kp.grown (S := fun k => k = go) HG.out (fun i e => by simpa [Value.ownBlock] using e.symm)) (fun _ _ e => e)⟩
          case measure => simp [intOf]; omega
        · have h3i : ¬ (e : Int) < (r : Int) := by omega
          have hl2 : la13 e r = r := by rw [HSE.out, if_neg h3]
          rw [hl2] at c1 c2 c4 hla
          have hr1i : (r : Int) < (n : Int) := by omega
          clear hl2 HSE
          go_wp2_with fail
          go_roundw
          case rel => exact ⟨k + 1, L.set p y, by omega, by rw [HR2.out], by go_num, by rw [List.length_set]; exact hL, HST2, HS.out, KL.trans (Kp.grown (S := fun k => k = go) HG.out (fun i e => by simpa [Value.ownBlock] using e.symm)) (fun _ _ e => e)⟩
          case measure => simp [intOf]; omega
    · have h1i : ¬ (k : Int) < (n : Int) := by omega
      obtain rfl : k = n := by omega
      go_wp2_with fail
      refine bodyPost_ret (results_tmp2 rfl _ _ _) rfl ?_
      exact Or.inr ⟨⟨HEN.out, HP.out.run⟩, some ⟨go, 0, none⟩, k, L, rfl, ⟨hL, HP.out.at_⟩, HP.out.bd, oL, DW⟩
set_option maxRecDepth 100000 in
theorem puntn13 (a : Option Addr) (n cap : Nat) (e : Int) (w : World) (hb : 16777216 < n) (hb2 : n ≤ 9223372036854775807) :
    Calls Try.prog 29 #[.slice a n cap, .int .i64 e] w fun en w' => en = .returned (.tuple #[.slice none 0 0, .int .i64 130]) ∧ w' = w := by
  have h24 : (16777216 : Int) < (n : Int) := by omega
  go_enter Try.func29, Try.ntmps29
  go_wp2_with fail
  refine bodyPost_ret (results_tmp2 rfl _ _ _) rfl ?_
  exact ⟨rfl, rfl⟩
set_option maxRecDepth 100000 in
theorem punte13 (a : Option Addr) (n cap : Nat) (e : Int) (w : World) (hb : n ≤ 16777216) (he : e < 0 ∨ (0 ≤ e ∧ (n : Int) < e)) :
    Calls Try.prog 29 #[.slice a n cap, .int .i64 e] w fun en w' => en = .returned (.tuple #[.slice none 0 0, .int .i64 132]) ∧ w' = w := by
  have h24 : ¬ (16777216 : Int) < (n : Int) := by omega
  rcases he with h1 | ⟨h1, h2⟩
  · go_enter Try.func29, Try.ntmps29
    go_wp2_with fail
    refine bodyPost_ret (results_tmp2 rfl _ _ _) rfl ?_
    exact ⟨rfl, rfl⟩
  · have h3 : ¬ e < 0 := by omega
    go_enter Try.func29, Try.ntmps29
    go_wp2_with fail
    refine bodyPost_ret (results_tmp2 rfl _ _ _) rfl ?_
    exact ⟨rfl, rfl⟩
end Go.Proofs.Ytbgnlbgoeogbaaa

namespace Go.Proofs.Ytbgnlbgoeogbaaa
open Go.RowKit
set_option linter.unusedVariables false

/-! The document's Unturn. -/
theorem cn12_yes {P : Nat → Prop} {n : Nat} (h : P n) : cn12 P (n + 1) = cn12 P n + 1 := by simp [cn12, h]
theorem cn12_no {P : Nat → Prop} {n : Nat} (h : ¬ P n) : cn12 P (n + 1) = cn12 P n := by simp [cn12, h]
set_option maxRecDepth 100000 in
set_option maxHeartbeats 4000000 in
theorem runt13 (a : Option Addr) (b : List Int) (n cap e : Nat) (w : World) (hs : Seg w a b) (hn : Hid (b.length = n)) (hb : n ≤ 16777216) (he : e ≤ n) :
    Calls Try.prog 30 #[.slice a n cap, .int .i64 (e : Int)] w (UnQ13 w b n e) := by
  have HSD : Hid (∀ W, Below w.heap.size w W → Seg W a b) := fun W hb => hs.old hb
  have hbi : ¬ (16777216 : Int) < (n : Int) := by omega
  have he0 : ¬ (e : Int) < 0 := by omega
  have he1 : ¬ (n : Int) < (e : Int) := by omega
  have HEN : Hid (e ≤ n) := he
  clear hs
  have HM := run_make_zeros n (by omega) w
  have Al : Below w.heap.size w (w.alloc (.cells ((List.replicate n (0 : Int)).map (Value.int .u8)).toArray 5)) := (Below.refl _ _).alloc (Nat.le_refl _) _
  have oO : (w.alloc (.cells ((List.replicate n (0 : Int)).map (Value.int .u8)).toArray 5)).ownsRow w.heap.size 5 1 (.slice (some ⟨w.heap.size, 0, none⟩) n n) n ((List.replicate n (0 : Int)).map (Value.int .u8)) := by
    have h5 := World.ownsRow_lit (base := w.heap.size) (e := 5) (size := 1) w ((List.replicate n (0 : Int)).map (Value.int .u8)).toArray n (Nat.le_refl _) (by unfold maxLen; omega) (by simp)
    simpa using h5
  obtain ⟨w3, hw3⟩ : ∃ w3, w.alloc (.cells ((List.replicate n (0 : Int)).map (Value.int .u8)).toArray 5) = w3 := ⟨_, rfl⟩
  obtain ⟨go, hgo⟩ : ∃ go, w.heap.size = go := ⟨_, rfl⟩
  rw [hw3] at HM Al oO
  have oO2 : w3.ownsRow w.heap.size 5 1 (.slice (some ⟨go, 0, none⟩) n n) n ((List.replicate n (0 : Int)).map (Value.int .u8)) := by rw [← hgo]; exact oO
  have HM2 : (Instr.makeSlice 41 (.int .i64 (n : Int)) (.int .i64 (n : Int))).run Try.prog w = .ok (.slice (some ⟨go, 0, none⟩) n n) w3 := by rw [← hgo]; exact HM
  have HGO : Hid (w.heap.size ≤ go) := by show _ ≤ _; omega
  have HP0 : Hid (Rp13u (S12 b) n e 0 (List.replicate n 0)) := ⟨fun q hq => by omega, fun q hq => by omega, zeros_bd n, Nat.zero_le _⟩
  clear hw3 hgo HM oO
  go_enter Try.func30, Try.ntmps30
  go_wp2_with fail
  go_loopw [7, 8] (fun tr ti wr => ∃ (k : Nat) (t : Int) (L : List Int), k ≤ n ∧ tr = .int .i64 ((rw13 (S12 b) n e k : Nat) : Int) ∧ ti = .int .i64 t ∧ Hid (t = (n : Int) - 1 - (k : Int)) ∧ L.length = n ∧ Hid (Rp13u (S12 b) n e k L) ∧ wr.ownsRow w.heap.size 5 1 (.slice (some ⟨go, 0, none⟩) n n) n (L.map (Value.int .u8)) ∧ Below w.heap.size w wr) (fun _ ti _ => (intOf ti + 1).toNat)
  case atStart => exact ⟨0, (n : Int) - 1, List.replicate n 0, Nat.zero_le _, rfl, rfl, (by show _ = _; omega), by simp, HP0, oO2, Al⟩
  case round =>
    obtain ⟨k, t, L, hk, rfl, rfl, HT, hL, HP, oL, DW⟩ := hrel
    clear oO2 Al HM2
    by_cases h1 : k < n
    · obtain ⟨p, hp⟩ : ∃ p, p = n - 1 - k := ⟨_, rfl⟩
      obtain rfl : t = (p : Int) := by have := HT.out; omega
      have hpn : p < n := by omega
      have hpi : (p : Int) < (n : Int) := by omega
      have hp0 : (0 : Int) ≤ (p : Int) := by omega
      have hr := HP.out.row
      have HNX : Hid (rw13 (S12 b) n e (k + 1) = nx13 (S12 b) n (la13 e (rw13 (S12 b) n e k))) := rfl
      have HRC : Hid (rc13 (S12 b) n e k = S12 b (la13 e (rw13 (S12 b) n e k))) := rfl
      have HST : Hid (rw13 (S12 b) n e k ≠ e → 0 ≤ rc13 (S12 b) n e k ∧ rc13 (S12 b) n e k ≤ 255 → Rp13u (S12 b) n e (k + 1) (L.set (n - 1 - k) (rc13 (S12 b) n e k))) := fun h5 h6 => HP.out.step HEN.out hL h1 h5 h6
      have HNO : Hid (rw13 (S12 b) n e k = e → ¬ Wk13 (S12 b) n e) := fun h5 h6 => h6.run k h1 h5
      generalize rw13 (S12 b) n e k = r at *
      by_cases h2 : r = e
      · have HF : Hid (¬ Wk13 (S12 b) n e) := HNO.out h2
        subst h2
        clear HNO HST HNX HRC hp
        go_wp2_with fail
        refine bodyPost_ret (results_tmp2 rfl _ _ _) rfl ?_
        exact Or.inl ⟨HF.out, rfl, DW⟩
      · have h2i : ¬ (r : Int) = (e : Int) := by omega
        have h2b : ((r : Int) == (e : Int)) = false := beq_eq_false_iff_ne.2 h2i
        have hla := la13_lt (n := n) HEN.out hr h2
        have HSE : Hid (la13 e r = if e < r then r - 1 else r) := rfl
        obtain ⟨db, dof, rfl, c1⟩ := (HSD.out wr DW).at_ (la13 e r) (by rw [hn.out]; exact hla)
        have yb := (HSD.out wr DW).bd (la13 e r)
        have HST2 : Hid (Rp13u (S12 b) n e (k + 1) (L.set p (b.getD (la13 e r) 0))) := by
          have h7 := HRC.out
          have h8 := HST.out h2 (by rw [h7]; exact yb)
          rw [h7, ← hp] at h8
          exact h8
        have c3 := oL.cells (g := go) rfl p (.int .u8 (L.getD p 0)) (by simp [List.getD, hL, hpn])
        have hadd : (⟨go, 0, none⟩ : Addr).add p = ⟨go, p, none⟩ := by unfold Addr.add; split <;> simp_all
        rw [hadd] at c3
        have fz := oL.frozenAt p
        have HSS := oL.stored p (.int .u8 (b.getD (la13 e r) 0))
        rw [← List.map_set] at HSS
        have HS : Hid (((wr.setCell ⟨go, p, none⟩ (.int .u8 (b.getD (la13 e r) 0)))).ownsRow w.heap.size 5 1 (.slice (some ⟨go, 0, none⟩) n n) n ((L.set p (b.getD (la13 e r) 0)).map (Value.int .u8))) := HSS.1
        have HD2 : Hid (Below w.heap.size w (wr.setCell ⟨go, p, none⟩ (.int .u8 (b.getD (la13 e r) 0)))) := DW.trans ((Kp.set (S := fun k => k = go) rfl _).below (fun k e => by have := HGO.out; omega) DW.size)
        have HPT : Hid ((p : Int) - 1 = (n : Int) - 1 - ((k + 1 : Nat) : Int)) := by show _ = _; omega
        have HBY : Hid (S12 b (la13 e r) = b.getD (la13 e r) 0) := rfl
        generalize L.getD p 0 = y0 at c3
        clear oL HSS HNO HST HRC hp HP HT
        generalize hl0 : la13 e r = l at *
        have HL0 : Hid (la13 e r = l) := hl0
        clear hl0
        generalize b.getD l 0 = y at *
        have hcase : (e < r ∧ l + 1 = r) ∨ (¬ e < r ∧ l = r) := by
          have h5 := HSE.out
          by_cases h3 : e < r
          · rw [if_pos h3] at h5; exact Or.inl ⟨h3, by omega⟩
          · rw [if_neg h3] at h5; exact Or.inr ⟨h3, h5⟩
        clear HSE HL0
        have HCS : Hid ((e < r ∧ l + 1 = r) ∨ (¬ e < r ∧ l = r)) := hcase
        clear hcase
        have hli : (l : Int) < (n : Int) := by omega
        rcases HCS.out with ⟨h3, h4⟩ | ⟨h3, h4⟩
        · have h3i : (e : Int) < (r : Int) := by omega
          have er : (r : Int) - 1 = (l : Int) := by omega
          have HH4 : Hid (l + 1 = r) := h4
          clear h4
          go_wp2_with fail
          have HSD2 := HSD.out _ HD2.out
          have HOW := HS.out
          have HDW := HD2.out
          generalize hW2 : wr.setCell ⟨go, p, none⟩ (.int .u8 y) = W2 at *
          clear hW2 HS HD2
          go_loopw [7, 56] (fun tr tj wr => ∃ (j m : Nat), j ≤ n ∧ tr = .int .i64 m ∧ tj = .int .i64 j ∧ Hid (m = cn12 (fun q => lt13 (S12 b) q l) j + 1) ∧ m ≤ j + 1 ∧ wr = W2) (fun _ tj _ => n - (intOf tj).toNat)
          case atStart => exact ⟨0, 1, Nat.zero_le _, rfl, rfl, (rfl : 1 = cn12 _ 0 + 1), Nat.le_refl _, by first | trivial | rfl⟩
          case round =>
            obtain ⟨j, m, hj, rfl, rfl, HMJ, hmj, hw9⟩ := hrel
            subst hw9
            rename World => W2
            by_cases h5 : j < n
            · have h5i : (j : Int) < (n : Int) := by omega
              obtain ⟨db', dof', e9, c5⟩ := HSD2.at_ j (by rw [hn.out]; exact h5)
              cases e9
              have xb := HSD2.bd j
              have HXJ : Hid (S12 b j = b.getD j 0) := rfl
              have HLT : Hid (lt13 (S12 b) j l ↔ (b.getD j 0 < y ∨ (b.getD j 0 = y ∧ j < l))) := by show _ ↔ _; unfold lt13; rw [HXJ.out, HBY.out]
              clear HXJ
              generalize b.getD j 0 = x at *
              by_cases h6 : lt13 (S12 b) j l
              · have HMN : Hid (m + 1 = cn12 (fun q => lt13 (S12 b) q l) (j + 1) + 1) := by show _ = _; rw [cn12_yes (P := fun q => lt13 (S12 b) q l) h6]; have := HMJ.out; omega
                rcases HLT.out.1 h6 with h7 | ⟨h7, h8⟩
                · clear h6 HLT HMJ
                  go_wp2_with fail
                  go_roundw
                  case rel => exact ⟨j + 1, m + 1, by omega, by go_num, by go_num, HMN, by omega, by first | trivial | rfl⟩
                  case measure => simp [intOf]; omega
                · subst h7
                  have h8i : (j : Int) < (l : Int) := by omega
                  clear h6 HLT HMJ
                  go_wp2_with fail
                  go_roundw
                  case rel => exact ⟨j + 1, m + 1, by omega, by go_num, by go_num, HMN, by omega, by first | trivial | rfl⟩
                  case measure => simp [intOf]; omega
              · have HMN : Hid (m = cn12 (fun q => lt13 (S12 b) q l) (j + 1) + 1) := by show _ = _; rw [cn12_no (P := fun q => lt13 (S12 b) q l) h6]; exact HMJ.out
                have h7 : ¬ x < y := fun c => h6 (HLT.out.2 (Or.inl c))
                have h8 : x = y → ¬ j < l := fun c d => h6 (HLT.out.2 (Or.inr ⟨c, d⟩))
                clear h6 HLT HMJ
                by_cases h9 : x = y
                · have h10 : ¬ (j : Int) < (l : Int) := by have := h8 h9; omega
                  subst h9
                  clear h8
                  go_wp2_with fail
                  go_roundw
                  case rel => exact ⟨j + 1, m, by omega, by go_num, by go_num, HMN, by omega, by first | trivial | rfl⟩
                  case measure => simp [intOf]; omega
                · have h9b : (x == y) = false := beq_eq_false_iff_ne.2 h9
                  clear h8
                  go_wp2_with fail
                  go_roundw
                  case rel => exact ⟨j + 1, m, by omega, by go_num, by go_num, HMN, by omega, by first | trivial | rfl⟩
                  case measure => simp [intOf]; omega
            · have h5i : ¬ (j : Int) < (n : Int) := by omega
              obtain rfl : j = n := by omega
              have HMF : Hid (rw13 (S12 b) j e (k + 1) = m) := by show _ = _; rw [HNX.out, HMJ.out]; rfl
              go_wp2_with fail
              go_roundw
              case rel => exact ⟨k + 1, (p : Int) - 1, L.set p y, by omega, by rw [HMF.out], by first | rfl | go_num, HPT, by rw [List.length_set]; exact hL, HST2, HOW, HDW⟩
              case measure => simp [intOf]
        · have h3i : ¬ (e : Int) < (r : Int) := by omega
          subst h4
          go_wp2_with fail
          have HSD2 := HSD.out _ HD2.out
          have HOW := HS.out
          have HDW := HD2.out
          generalize hW2 : wr.setCell ⟨go, p, none⟩ (.int .u8 y) = W2 at *
          clear hW2 HS HD2
          go_loopw [7, 56] (fun tr tj wr => ∃ (j m : Nat), j ≤ n ∧ tr = .int .i64 m ∧ tj = .int .i64 j ∧ Hid (m = cn12 (fun q => lt13 (S12 b) q l) j + 1) ∧ m ≤ j + 1 ∧ wr = W2) (fun _ tj _ => n - (intOf tj).toNat)
          case atStart => exact ⟨0, 1, Nat.zero_le _, rfl, rfl, (rfl : 1 = cn12 _ 0 + 1), Nat.le_refl _, by first | trivial | rfl⟩
          case round =>
            obtain ⟨j, m, hj, rfl, rfl, HMJ, hmj, hw9⟩ := hrel
            subst hw9
            rename World => W2
            by_cases h5 : j < n
            · have h5i : (j : Int) < (n : Int) := by omega
              obtain ⟨db', dof', e9, c5⟩ := HSD2.at_ j (by rw [hn.out]; exact h5)
              cases e9
              have xb := HSD2.bd j
              have HXJ : Hid (S12 b j = b.getD j 0) := rfl
              have HLT : Hid (lt13 (S12 b) j l ↔ (b.getD j 0 < y ∨ (b.getD j 0 = y ∧ j < l))) := by show _ ↔ _; unfold lt13; rw [HXJ.out, HBY.out]
              clear HXJ
              generalize b.getD j 0 = x at *
              by_cases h6 : lt13 (S12 b) j l
              · have HMN : Hid (m + 1 = cn12 (fun q => lt13 (S12 b) q l) (j + 1) + 1) := by show _ = _; rw [cn12_yes (P := fun q => lt13 (S12 b) q l) h6]; have := HMJ.out; omega
                rcases HLT.out.1 h6 with h7 | ⟨h7, h8⟩
                · clear h6 HLT HMJ
                  go_wp2_with fail
                  go_roundw
                  case rel => exact ⟨j + 1, m + 1, by omega, by go_num, by go_num, HMN, by omega, by first | trivial | rfl⟩
                  case measure => simp [intOf]; omega
                · subst h7
                  have h8i : (j : Int) < (l : Int) := by omega
                  clear h6 HLT HMJ
                  go_wp2_with fail
                  go_roundw
                  case rel => exact ⟨j + 1, m + 1, by omega, by go_num, by go_num, HMN, by omega, by first | trivial | rfl⟩
                  case measure => simp [intOf]; omega
              · have HMN : Hid (m = cn12 (fun q => lt13 (S12 b) q l) (j + 1) + 1) := by show _ = _; rw [cn12_no (P := fun q => lt13 (S12 b) q l) h6]; exact HMJ.out
                have h7 : ¬ x < y := fun c => h6 (HLT.out.2 (Or.inl c))
                have h8 : x = y → ¬ j < l := fun c d => h6 (HLT.out.2 (Or.inr ⟨c, d⟩))
                clear h6 HLT HMJ
                by_cases h9 : x = y
                · have h10 : ¬ (j : Int) < (l : Int) := by have := h8 h9; omega
                  subst h9
                  clear h8
                  go_wp2_with fail
                  go_roundw
                  case rel => exact ⟨j + 1, m, by omega, by go_num, by go_num, HMN, by omega, by first | trivial | rfl⟩
                  case measure => simp [intOf]; omega
                · have h9b : (x == y) = false := beq_eq_false_iff_ne.2 h9
                  clear h8
                  go_wp2_with fail
                  go_roundw
                  case rel => exact ⟨j + 1, m, by omega, by go_num, by go_num, HMN, by omega, by first | trivial | rfl⟩
                  case measure => simp [intOf]; omega
            · have h5i : ¬ (j : Int) < (n : Int) := by omega
              obtain rfl : j = n := by omega
              have HMF : Hid (rw13 (S12 b) j e (k + 1) = m) := by show _ = _; rw [HNX.out, HMJ.out]; rfl
              go_wp2_with fail
              go_roundw
              case rel => exact ⟨k + 1, (p : Int) - 1, L.set p y, by omega, by rw [HMF.out], by first | rfl | go_num, HPT, by rw [List.length_set]; exact hL, HST2, HOW, HDW⟩
              case measure => simp [intOf]
    · have h1i : ¬ (k : Int) < (n : Int) := by omega
      obtain rfl : k = n := by omega
      obtain rfl : t = -1 := by have := HT.out; omega
      have HW : Hid (Wk13 (S12 b) k e) := ⟨HEN.out, HP.out.run⟩
      have HX : Hid (Rd13 (S12 b) k e L) := ⟨hL, HP.out.at_⟩
      have HFN : Hid (rw13 (S12 b) k e k = e) := HW.out.fin
      rw [HFN.out]
      have sX := own_seg13 oL HP.out.bd
      have HTN := rturn13 (some ⟨go, 0, none⟩) L k k (ia13 (S12 b) k e) wr sX (Nat.le_refl _) hL (HW.out.ar HX.out) hb
      have HTE : Hid (te13 k (ia13 (S12 b) k e) = e) := HW.out.te HX.out
      have HTB : Hid (tn13 L (k :: ia13 (S12 b) k e) = b) := Wk13.turn_all hn.out HW.out HX.out
      unfold TnQ13 at HTN
      rw [HTE.out, HTB.out] at HTN
      have HBB : Hid (∀ y ∈ b, 0 ≤ y ∧ y ≤ 255) := seg_bd13 (HSD.out wr DW)
      go_wp2_with (first
        | (go_at_call 25; refine HTN.mono ?_; rintro e5 w5 ⟨ra, rc, rfl, o5, B5⟩; have D5 := DW.trans (B5.mono DW.size); have s5 := own_seg13 o5 HBB.out; have y1 := run_conv_segS (P := Try.prog) rc s5 41 5 9 Try.underlying41 Try.underlying5 Try.underlying9; have y2 := run_conv_segS (P := Try.prog) cap (HSD.out w5 D5) 41 5 9 Try.underlying41 Try.underlying5 Try.underlying9; rw [hn.out] at y1 y2))
      refine bodyPost_ret (results_tmp2 rfl _ _ _) rfl ?_
      exact Or.inr ⟨HW.out, some ⟨go, 0, none⟩, k, L, rfl, HX.out, HP.out.bd, own_below oL B5, D5⟩
end Go.Proofs.Ytbgnlbgoeogbaaa
