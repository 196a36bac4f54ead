import Derived.Test.YtmjlpfmacblcpaaDoorPi
import Derived.Test.YtmjlpfmacblcpaaDoorPe
import Derived.ArgAppend
import Derived.Lib.SmallJoins
import Derived.Lib.SlBytesConst
import Derived.Deep.RegionLaw
import Derived.Deep.CutRange
namespace Go.Proofs.YtmjlpfmacblcpaaDoor
open Go.RowKit Go.Shelf
set_option linter.unusedVariables false
set_option linter.unusedSimpArgs false
def pgl21 (S : Fs21) (x : Int) (n : Nat) : List Int := (List.range n).flatMap fun (y : Nat) => svp21 S.pg (sh21 S x (y : Int))
def arl21 (S : Fs21) (n : Nat) : List Int := (List.range n).flatMap fun (x : Nat) => pgl21 S (x : Int) (pn21 S.ps (x : Int)).toNat
def nm21 (S : Fs21) : List Int := [(S.pg : Int), (S.ps : Int), S.ac, S.lm]
def mg21 : List Int := [70, 76, 83, 72, 1]
def hdb21 (S : Fs21) : List Int := mg21 ++ encA (nm21 S)
def svb21 (S : Fs21) : List Int := hdb21 S ++ arl21 S 3
def sav21 (S : Fs21) : List Int := svb21 S ++ sm21 (svb21 S)
theorem pgl21_succ (S : Fs21) (x : Int) (n : Nat) : pgl21 S x (n + 1) = pgl21 S x n ++ svp21 S.pg (sh21 S x (n : Int)) := by
  unfold pgl21; rw [List.range_succ, List.flatMap_append]; simp
theorem arl21_succ (S : Fs21) (n : Nat) : arl21 S (n + 1) = arl21 S n ++ pgl21 S (n : Int) (pn21 S.ps (n : Int)).toNat := by
  unfold arl21; rw [List.range_succ, List.flatMap_append]; simp
theorem pgl21_len {S : Fs21} (h : Ok21 S) (x : Int) (n : Nat) : (pgl21 S x n).length ≤ n * 4107 := by
  induction n with
  | zero => simp [pgl21]
  | succ n ih =>
    have h1 := svp21_len S.pg (sh21 S x (n : Int)) (sh21_ok h x n).1
    have := h.pg.2
    rw [pgl21_succ, List.length_append, Nat.succ_mul]
    omega
theorem pnn21 {S : Fs21} (h : Ok21 S) (x : Int) : (pn21 S.ps x).toNat ≤ 4096 := by
  have := pn21_bd S.ps x h.ps.2
  omega
theorem arl21_len {S : Fs21} (h : Ok21 S) (n : Nat) : (arl21 S n).length ≤ n * 16822272 := by
  induction n with
  | zero => simp [arl21]
  | succ n ih =>
    have h1 := pgl21_len h (n : Int) (pn21 S.ps (n : Int)).toNat
    have h2 := pnn21 h (n : Int)
    rw [arl21_succ, List.length_append, Nat.succ_mul]
    have : (pn21 S.ps (n : Int)).toNat * 4107 ≤ 4096 * 4107 := Nat.mul_le_mul_right _ h2
    omega
theorem nm21_bd {S : Fs21} (h : Ok21 S) : ∀ z ∈ nm21 S, 0 ≤ z ∧ z ≤ 18446744073709551615 := by
  intro z hz
  have h1 := h.pg; have h2 := h.ps; have h3 := h.ac; have h4 := h.lm
  simp [nm21] at hz
  omega
theorem hdb21_len (S : Fs21) : 9 ≤ (hdb21 S).length ∧ (hdb21 S).length ≤ 45 := by
  have := encA_len (nm21 S)
  simp only [nm21, List.length_cons, List.length_nil] at this
  unfold hdb21
  rw [List.length_append]
  simp only [mg21, nm21, List.length_cons, List.length_nil]
  omega
theorem hdb21_bd {S : Fs21} (h : Ok21 S) : ∀ z ∈ hdb21 S, 0 ≤ z ∧ z ≤ 255 := by
  intro z hz
  rcases List.mem_append.1 hz with hz | hz
  · simp [mg21] at hz; omega
  · exact encA_bd _ (nm21_bd h) z hz
theorem svb21_len {S : Fs21} (h : Ok21 S) : (svb21 S).length ≤ 60000000 := by
  have h1 := hdb21_len S
  have h2 := arl21_len h 3
  unfold svb21
  rw [List.length_append]
  omega
/-- All bytes of all pages are bytes. -/
def By21 (S : Fs21) : Prop := ∀ x y, ∀ z ∈ (sh21 S x y).b, 0 ≤ z ∧ z ≤ 255
theorem pgl21_bd {S : Fs21} (h : Ok21 S) (hb : By21 S) (x : Int) (n : Nat) : ∀ z ∈ pgl21 S x n, 0 ≤ z ∧ z ≤ 255 := by
  intro z hz
  obtain ⟨y, -, h2⟩ := List.mem_flatMap.1 hz
  exact svp21_bd S.pg _ (hb x _) (sh21_ok h x _).2 z h2
theorem arl21_bd {S : Fs21} (h : Ok21 S) (hb : By21 S) (n : Nat) : ∀ z ∈ arl21 S n, 0 ≤ z ∧ z ≤ 255 := by
  intro z hz
  obtain ⟨x, -, h2⟩ := List.mem_flatMap.1 hz
  exact pgl21_bd h hb _ _ z h2
theorem svb21_bd {S : Fs21} (h : Ok21 S) (hb : By21 S) : ∀ z ∈ svb21 S, 0 ≤ z ∧ z ≤ 255 := by
  intro z hz
  rcases List.mem_append.1 hz with hz | hz
  · exact hdb21_bd h z hz
  · exact arl21_bd h hb _ z hz
theorem Fl21.by {w : World} {b : Nat} {F : Nat → Prop} {S : Fs21} (h : Fl21 w b F S) : By21 S := by
  obtain ⟨m, c, f, ta, tc, la, lc, V, h1, _⟩ := h
  intro x y
  obtain ⟨a, cap, -, hs, -⟩ := h1.shv x y
  exact hs.mem
theorem seg64_four21 (V : World) (x0 x1 x2 x3 : Int) (h : ∀ z ∈ [x0, x1, x2, x3], 0 ≤ z ∧ z ≤ 18446744073709551615) : Seg64 (V.alloc (.cells #[.int .u64 x0, .int .u64 x1, .int .u64 x2, .int .u64 x3] 99)) (some ⟨V.heap.size, 0, none⟩) [x0, x1, x2, x3] := by
  have hh := heap_alloc_new V (.cells #[.int .u64 x0, .int .u64 x1, .int .u64 x2, .int .u64 x3] 99)
  refine ⟨fun i hi => ⟨V.heap.size, 0, rfl, ?_⟩, by decide, getD_bd (by decide) h⟩
  simp only [World.cell?, hh]
  simp only [List.length_cons, List.length_nil] at hi
  rcases (show i = 0 ∨ i = 1 ∨ i = 2 ∨ i = 3 by omega) with rfl | rfl | rfl | rfl <;> rfl
/-- Bytes behind the magic, a constant's bytes. -/
theorem appm21 (V : World) {g m c2 : Nat} {p2 : Option Addr} {M N : List Int} (hN : N = mg21 ++ M) (hs : Seg V (some ⟨g, 0, none⟩) mg21) (h2 : Seg V p2 M) (hm : M.length = m) (hp : 0 < m) (hn : m ≤ 100000) :
    ∃ p c w', (Builtin.append_ #[22, 22] 22 #[.slice (some ⟨g, 0, none⟩) 5 5, .slice p2 m c2]).run Tryd.prog V = .ok (.slice p N.length c) w' ∧ w'.ownsRow V.heap.size 5 1 (.slice p N.length c) N.length (N.map (Value.int .u8)) ∧ Below V.heap.size V w' := by
  obtain ⟨i0, hi, hz0, hz1, hz2⟩ := info_parts info_y21
  subst hm
  obtain ⟨sg, soff, rfl, _⟩ := h2.at_ 0 (by omega)
  obtain ⟨v', w', hr, ho, hg⟩ := run_append_arg_grows (P := Tryd.prog) (w := V) 22 22 5 i0 _ 1 1 Tryd.underlying22 hi hz0 hz1 hz2 rfl (by omega) ⟨g, 0, none⟩ 5 5 (mg21.map (Value.int .u8)) rfl
    (seg_cells hs) ⟨sg, soff, none⟩ M.length c2 (M.map (Value.int .u8)) (by simp) (seg_cells h2) (by omega) (by unfold maxLen; omega) (by omega)
  obtain ⟨p, c, rfl⟩ := own_sl21 ho
  subst hN
  rw [List.length_append, List.map_append]
  exact ⟨p, c, w', hr, ho, (Below.refl _ _).grown hg (Nat.le_refl _) (by intro k e; cases e)⟩
theorem mg21_seg (w : World) : Seg (w.alloc (.cells #[.int .u8 70, .int .u8 76, .int .u8 83, .int .u8 72, .int .u8 1] 5 (5, 6))) (some ⟨w.heap.size, 0, none⟩) mg21 :=
  seg_lit w mg21 5 (5, 6) (by decide)
def SvQ21 (w : World) (S : Fs21) (e : Ending) (w' : World) : Prop := (S.on = false ∧ e = .returned (.tuple #[.slice none 0 0, .int .i64 213]) ∨ S.on = true ∧ ∃ p c, e = .returned (.tuple #[.slice p (sav21 S).length c, .int .i64 0]) ∧ w'.ownsRow w.heap.size 5 1 (.slice p (sav21 S).length c) (sav21 S).length ((sav21 S).map (Value.int .u8))) ∧ Below w.heap.size w w'
section
variable {w : World} {b : Nat} {F : Nat → Prop} {S : Fs21}
set_option maxRecDepth 100000 in
set_option maxHeartbeats 16000000 in
theorem psave21 (hF : Fl21 w b F S) (hO : Ok21 S) (ht : Tab w) : Calls Tryd.prog 12 #[.pointer (some ⟨b, 0, none⟩)] w fun e w' => SvQ21 w S e w' := by
  obtain ⟨c0, c1, c2, c3, c4, cf⟩ := hF.cells
  have HM := pstop21 b S.pg S.on w c0 hO.pg.1 c3
  have HF : Hid (∀ V, Below w.heap.size w V → Fl21 V b F S) := fun V hV => hF.old hV
  have HT : Hid (∀ V, Below w.heap.size w V → Tab V) := fun V hV => ht.old hV
  have HO : Hid (Ok21 S) := hO
  have HBY : Hid (By21 S) := hF.by
  clear hF ht cf c3
  cases hon : S.on
  · rw [hon] at HM
    have HON : Hid (S.on = false) := hon
    clear hon
    go_enter Tryd.func12, Tryd.ntmps12
    go_wp2_with fail
    refine HM.mono ?_
    rintro e w1 ⟨rfl, hw⟩
    subst w1
    go_wp2_with fail
    go_ret2
    exact ⟨.inl ⟨HON.out, rfl⟩, Below.refl _ _⟩
  · rw [hon] at HM
    have HON : Hid (S.on = true) := hon
    clear hon
    have hc : ∀ V, Below w.heap.size w V → V.cell? ⟨b, 0, none⟩ = some (.int .i64 (S.pg : Int)) ∧ V.cell? ⟨b, 1, none⟩ = some (.int .i64 (S.ps : Int)) ∧ V.cell? ⟨b, 2, none⟩ = some (.int .i64 S.ac) ∧ V.cell? ⟨b, 4, none⟩ = some (.int .i64 S.lm) := fun V hV => ⟨cel21 hV c0, cel21 hV c1, cel21 hV c2, cel21 hV c4⟩
    have HC : Hid (∀ V, Below w.heap.size w V → V.cell? ⟨b, 0, none⟩ = some (.int .i64 (S.pg : Int)) ∧ V.cell? ⟨b, 1, none⟩ = some (.int .i64 (S.ps : Int)) ∧ V.cell? ⟨b, 2, none⟩ = some (.int .i64 S.ac) ∧ V.cell? ⟨b, 4, none⟩ = some (.int .i64 S.lm)) := hc
    obtain ⟨pg, hpg⟩ : ∃ x : Int, x = (S.pg : Int) := ⟨_, rfl⟩
    obtain ⟨ps, hps⟩ : ∃ x : Int, x = (S.ps : Int) := ⟨_, rfl⟩
    obtain ⟨ac, hac⟩ : ∃ x : Int, x = S.ac := ⟨_, rfl⟩
    obtain ⟨lm, hlm⟩ : ∃ x : Int, x = S.lm := ⟨_, rfl⟩
    have hbd := nm21_bd hO
    have HNM : Hid (nm21 S = [pg, ps, ac, lm]) := by rw [hpg, hps, hac, hlm]; rfl
    rw [HNM.out] at hbd
    have u0 : IntKind.u64.wrap pg = pg := IntWalk.u64_in _ (by have := hbd pg (by simp); omega)
    have u1 : IntKind.u64.wrap ps = ps := IntWalk.u64_in _ (by have := hbd ps (by simp); omega)
    have u2 : IntKind.u64.wrap ac = ac := IntWalk.u64_in _ (by have := hbd ac (by simp); omega)
    have u3 : IntKind.u64.wrap lm = lm := IntWalk.u64_in _ (by have := hbd lm (by simp); omega)
    rw [← hpg, ← hps, ← hac, ← hlm] at HC
    have HBD : Hid (∀ z ∈ [pg, ps, ac, lm], 0 ≤ z ∧ z ≤ 18446744073709551615) := hbd
    clear hc c0 c1 c2 c4 hpg hps hac hlm hbd hO
    go_enter Tryd.func12, Tryd.ntmps12
    go_wp2_with fail
    refine HM.mono ?_
    rintro e w1 ⟨rfl, hw⟩
    subst w1
    have hcv := Lib.run_convert_bytes_const (P := Tryd.prog) w 22 5 #[.int .u8 70, .int .u8 76, .int .u8 83, .int .u8 72, .int .u8 1] 5 5 Tryd.underlying22 Tryd.underlying5
    have hsM := mg21_seg w
    obtain ⟨w1, hw1⟩ : ∃ v, v = w.alloc (.cells #[.int .u8 70, .int .u8 76, .int .u8 83, .int .u8 72, .int .u8 1] 5 (5, 6)) := ⟨_, rfl⟩
    obtain ⟨N, hN⟩ : ∃ v, v = w.heap.size := ⟨_, rfl⟩
    have HW1 : Hid (w.alloc (.cells #[.int .u8 70, .int .u8 76, .int .u8 83, .int .u8 72, .int .u8 1] 5 (5, 6)) = w1 ∧ w.heap.size = N) := ⟨hw1.symm, hN.symm⟩
    have NL : Hid (∀ V, Below N w V → N ≤ V.heap.size) := fun V h => by rw [hN]; exact h.size
    have b1 : Below N w w1 := by rw [hN, hw1]; exact (Below.refl _ _).alloc (Nat.le_refl _) _
    rw [← hw1, ← hN] at hsM
    go_upto_region 5 with fail
    clear hcv
    rw [HW1.out.1, HW1.out.2]
    rw [HW1.out.2] at HF HT HC
    clear hw1 hN HM
    go_wp2_with fail
    obtain ⟨v0, hv0⟩ : ∃ v, v = w1.drew := ⟨_, rfl⟩
    have HV0 : Hid (w1.drew = v0) := hv0.symm
    have O0 : Hid (Seg v0 (some ⟨N, 0, none⟩) mg21 ∧ Below N w v0) := by rw [hv0]; exact ⟨hsM.drew, b1.trans ((Below.refl _ _).drew.mono (NL.out _ b1))⟩
    clear hv0 hsM b1
    refine plain_region16 (fun V => V.cell? ⟨b, 0, none⟩ = some (.int .i64 pg) ∧ V.cell? ⟨b, 1, none⟩ = some (.int .i64 ps) ∧ V.cell? ⟨b, 2, none⟩ = some (.int .i64 ac) ∧ V.cell? ⟨b, 4, none⟩ = some (.int .i64 lm)) 27 (by kernel_rfl) (by rw [HV0.out]; exact HC.out v0 O0.out.2) (fun hHeld => ?_)
    rw [HV0.out] at hHeld ⊢
    refine wpAnyK_take (i := 0) (v := .slice (some ⟨N, 0, none⟩) 5 5) rfl (by kernel_rfl) (by kernel_rfl) (by kernel_rfl) (by kernel_rfl) (fun _ _ _ h => h) (Or.inl ⟨by rfl, fun w hSw => by go_simp⟩) hHeld ?_
    simp only [List.getElem_toArray, List.getElem_cons_zero, Act.put, List.setIfInBounds_toArray, List.set_cons_zero, List.set_cons_succ]
    refine wpAnyK_take (i := 1) (v := .pointer (some ⟨b, 0, none⟩)) rfl (by kernel_rfl) (by kernel_rfl) (by kernel_rfl) (by kernel_rfl) (fun _ _ _ h => h) (Or.inl ⟨by rfl, fun w hSw => by go_simp⟩) hHeld ?_
    simp only [List.getElem_toArray, List.getElem_cons_zero, List.getElem_cons_succ, Act.put, List.setIfInBounds_toArray, List.set_cons_zero, List.set_cons_succ]
    refine wpAnyK_take (i := 2) (v := .pointer (some ⟨b, 0, none⟩)) rfl (by kernel_rfl) (by kernel_rfl) (by kernel_rfl) (by kernel_rfl) (fun _ _ _ h => h) (Or.inl ⟨by rfl, fun w hSw => by go_simp⟩) hHeld ?_
    simp only [List.getElem_toArray, List.getElem_cons_zero, List.getElem_cons_succ, Act.put, List.setIfInBounds_toArray, List.set_cons_zero, List.set_cons_succ]
    refine wpAnyK_take (i := 3) (v := .pointer (some ⟨b, 0, none⟩)) rfl (by kernel_rfl) (by kernel_rfl) (by kernel_rfl) (by kernel_rfl) (fun _ _ _ h => h) (Or.inl ⟨by rfl, fun w hSw => by go_simp⟩) hHeld ?_
    simp only [List.getElem_toArray, List.getElem_cons_zero, List.getElem_cons_succ, Act.put, List.setIfInBounds_toArray, List.set_cons_zero, List.set_cons_succ]
    refine wpAnyK_take (i := 4) (v := .pointer (some ⟨b, 0, none⟩)) rfl (by kernel_rfl) (by kernel_rfl) (by kernel_rfl) (by kernel_rfl) (fun _ _ _ h => h) (Or.inl ⟨by rfl, fun w hSw => by go_simp⟩) hHeld ?_
    simp only [List.getElem_toArray, List.getElem_cons_zero, List.getElem_cons_succ, Act.put, List.setIfInBounds_toArray, List.set_cons_zero, List.set_cons_succ]
    refine wpAnyK_take (i := 5) (v := .int .i64 pg) rfl (by kernel_rfl) (by kernel_rfl) (by kernel_rfl) (by kernel_rfl) (fun _ _ _ h => h) (Or.inl ⟨by rfl, fun w hSw => by go_simp⟩) hHeld ?_
    simp only [List.getElem_toArray, List.getElem_cons_zero, List.getElem_cons_succ, Act.put, List.setIfInBounds_toArray, List.set_cons_zero, List.set_cons_succ]
    refine wpAnyK_take (i := 6) (v := .int .u64 pg) rfl (by kernel_rfl) (by kernel_rfl) (by kernel_rfl) (by kernel_rfl) (fun _ _ _ h => h) (Or.inl ⟨by rfl, fun w hSw => by go_simp⟩) hHeld ?_
    simp only [List.getElem_toArray, List.getElem_cons_zero, List.getElem_cons_succ, Act.put, List.setIfInBounds_toArray, List.set_cons_zero, List.set_cons_succ]
    refine wpAnyK_take (i := 7) (v := .pointer (some ⟨b, 0, none⟩)) rfl (by kernel_rfl) (by kernel_rfl) (by kernel_rfl) (by kernel_rfl) (fun _ _ _ h => h) (Or.inl ⟨by rfl, fun w hSw => by go_simp⟩) hHeld ?_
    simp only [List.getElem_toArray, List.getElem_cons_zero, List.getElem_cons_succ, Act.put, List.setIfInBounds_toArray, List.set_cons_zero, List.set_cons_succ]
    refine wpAnyK_take (i := 8) (v := .pointer (some ⟨b, 0, none⟩)) rfl (by kernel_rfl) (by kernel_rfl) (by kernel_rfl) (by kernel_rfl) (fun _ _ _ h => h) (Or.inl ⟨by rfl, fun w hSw => by go_simp⟩) hHeld ?_
    simp only [List.getElem_toArray, List.getElem_cons_zero, List.getElem_cons_succ, Act.put, List.setIfInBounds_toArray, List.set_cons_zero, List.set_cons_succ]
    refine wpAnyK_take (i := 9) (v := .pointer (some ⟨b, 0, none⟩)) rfl (by kernel_rfl) (by kernel_rfl) (by kernel_rfl) (by kernel_rfl) (fun _ _ _ h => h) (Or.inl ⟨by rfl, fun w hSw => by go_simp⟩) hHeld ?_
    simp only [List.getElem_toArray, List.getElem_cons_zero, List.getElem_cons_succ, Act.put, List.setIfInBounds_toArray, List.set_cons_zero, List.set_cons_succ]
    refine wpAnyK_take (i := 10) (v := .pointer (some ⟨b, 1, none⟩)) rfl (by kernel_rfl) (by kernel_rfl) (by kernel_rfl) (by kernel_rfl) (fun _ _ _ h => h) (Or.inl ⟨by rfl, fun w hSw => by go_simp⟩) hHeld ?_
    simp only [List.getElem_toArray, List.getElem_cons_zero, List.getElem_cons_succ, Act.put, List.setIfInBounds_toArray, List.set_cons_zero, List.set_cons_succ]
    refine wpAnyK_take (i := 11) (v := .int .i64 ps) rfl (by kernel_rfl) (by kernel_rfl) (by kernel_rfl) (by kernel_rfl) (fun _ _ _ h => h) (Or.inl ⟨by rfl, fun w hSw => by go_simp⟩) hHeld ?_
    simp only [List.getElem_toArray, List.getElem_cons_zero, List.getElem_cons_succ, Act.put, List.setIfInBounds_toArray, List.set_cons_zero, List.set_cons_succ]
    refine wpAnyK_take (i := 12) (v := .int .u64 ps) rfl (by kernel_rfl) (by kernel_rfl) (by kernel_rfl) (by kernel_rfl) (fun _ _ _ h => h) (Or.inl ⟨by rfl, fun w hSw => by go_simp⟩) hHeld ?_
    simp only [List.getElem_toArray, List.getElem_cons_zero, List.getElem_cons_succ, Act.put, List.setIfInBounds_toArray, List.set_cons_zero, List.set_cons_succ]
    refine wpAnyK_take (i := 13) (v := .pointer (some ⟨b, 0, none⟩)) rfl (by kernel_rfl) (by kernel_rfl) (by kernel_rfl) (by kernel_rfl) (fun _ _ _ h => h) (Or.inl ⟨by rfl, fun w hSw => by go_simp⟩) hHeld ?_
    simp only [List.getElem_toArray, List.getElem_cons_zero, List.getElem_cons_succ, Act.put, List.setIfInBounds_toArray, List.set_cons_zero, List.set_cons_succ]
    refine wpAnyK_take (i := 14) (v := .pointer (some ⟨b, 0, none⟩)) rfl (by kernel_rfl) (by kernel_rfl) (by kernel_rfl) (by kernel_rfl) (fun _ _ _ h => h) (Or.inl ⟨by rfl, fun w hSw => by go_simp⟩) hHeld ?_
    simp only [List.getElem_toArray, List.getElem_cons_zero, List.getElem_cons_succ, Act.put, List.setIfInBounds_toArray, List.set_cons_zero, List.set_cons_succ]
    refine wpAnyK_take (i := 15) (v := .pointer (some ⟨b, 2, none⟩)) rfl (by kernel_rfl) (by kernel_rfl) (by kernel_rfl) (by kernel_rfl) (fun _ _ _ h => h) (Or.inl ⟨by rfl, fun w hSw => by go_simp⟩) hHeld ?_
    simp only [List.getElem_toArray, List.getElem_cons_zero, List.getElem_cons_succ, Act.put, List.setIfInBounds_toArray, List.set_cons_zero, List.set_cons_succ]
    refine wpAnyK_take (i := 16) (v := .int .i64 ac) rfl (by kernel_rfl) (by kernel_rfl) (by kernel_rfl) (by kernel_rfl) (fun _ _ _ h => h) (Or.inl ⟨by rfl, fun w hSw => by go_simp⟩) hHeld ?_
    simp only [List.getElem_toArray, List.getElem_cons_zero, List.getElem_cons_succ, Act.put, List.setIfInBounds_toArray, List.set_cons_zero, List.set_cons_succ]
    refine wpAnyK_take (i := 17) (v := .int .u64 ac) rfl (by kernel_rfl) (by kernel_rfl) (by kernel_rfl) (by kernel_rfl) (fun _ _ _ h => h) (Or.inl ⟨by rfl, fun w hSw => by go_simp⟩) hHeld ?_
    simp only [List.getElem_toArray, List.getElem_cons_zero, List.getElem_cons_succ, Act.put, List.setIfInBounds_toArray, List.set_cons_zero, List.set_cons_succ]
    refine wpAnyK_take (i := 18) (v := .pointer (some ⟨b, 0, none⟩)) rfl (by kernel_rfl) (by kernel_rfl) (by kernel_rfl) (by kernel_rfl) (fun _ _ _ h => h) (Or.inl ⟨by rfl, fun w hSw => by go_simp⟩) hHeld ?_
    simp only [List.getElem_toArray, List.getElem_cons_zero, List.getElem_cons_succ, Act.put, List.setIfInBounds_toArray, List.set_cons_zero, List.set_cons_succ]
    refine wpAnyK_take (i := 19) (v := .pointer (some ⟨b, 0, none⟩)) rfl (by kernel_rfl) (by kernel_rfl) (by kernel_rfl) (by kernel_rfl) (fun _ _ _ h => h) (Or.inl ⟨by rfl, fun w hSw => by go_simp⟩) hHeld ?_
    simp only [List.getElem_toArray, List.getElem_cons_zero, List.getElem_cons_succ, Act.put, List.setIfInBounds_toArray, List.set_cons_zero, List.set_cons_succ]
    refine wpAnyK_take (i := 20) (v := .pointer (some ⟨b, 4, none⟩)) rfl (by kernel_rfl) (by kernel_rfl) (by kernel_rfl) (by kernel_rfl) (fun _ _ _ h => h) (Or.inl ⟨by rfl, fun w hSw => by go_simp⟩) hHeld ?_
    simp only [List.getElem_toArray, List.getElem_cons_zero, List.getElem_cons_succ, Act.put, List.setIfInBounds_toArray, List.set_cons_zero, List.set_cons_succ]
    refine wpAnyK_take (i := 21) (v := .int .i64 lm) rfl (by kernel_rfl) (by kernel_rfl) (by kernel_rfl) (by kernel_rfl) (fun _ _ _ h => h) (Or.inl ⟨by rfl, fun w hSw => by go_simp⟩) hHeld ?_
    simp only [List.getElem_toArray, List.getElem_cons_zero, List.getElem_cons_succ, Act.put, List.setIfInBounds_toArray, List.set_cons_zero, List.set_cons_succ]
    refine wpAnyK_take (i := 22) (v := .int .u64 lm) rfl (by kernel_rfl) (by kernel_rfl) (by kernel_rfl) (by kernel_rfl) (fun _ _ _ h => h) (Or.inl ⟨by rfl, fun w hSw => by go_simp⟩) hHeld ?_
    simp only [List.getElem_toArray, List.getElem_cons_zero, List.getElem_cons_succ, Act.put, List.setIfInBounds_toArray, List.set_cons_zero, List.set_cons_succ]
    refine wpAnyK_one (i := 23) (by kernel_rfl) rfl (fun K hK => ?_)
    (try simp only [List.getElem_toArray, List.getElem_cons_zero, List.getElem_cons_succ, Act.put, List.setIfInBounds_toArray, List.set_cons_zero, List.set_cons_succ])
    go_simp
    have s64 := seg64_four21 v0 pg ps ac lm HBD.out
    obtain ⟨v1, hv1⟩ : ∃ v, v = v0.alloc (.cells #[.int .u64 pg, .int .u64 ps, .int .u64 ac, .int .u64 lm] 99) := ⟨_, rfl⟩
    obtain ⟨k1, hk1⟩ : ∃ v, v = v0.heap.size := ⟨_, rfl⟩
    have B1 : Hid (Below v0.heap.size v0 v1) := by rw [hv1]; exact (Below.refl _ _).alloc (Nat.le_refl _) _
    have L1 : Hid (Below N w v1) := O0.out.2.trans (B1.out.mono (NL.out _ O0.out.2))
    rw [← hv1, ← hk1] at s64 ⊢
    have HE := encode_any (some ⟨k1, 0, none⟩) [pg, ps, ac, lm] 4 v1 s64 (by simp)
    rw [← HNM.out] at HE
    have lE := encA_len (nm21 S)
    have hlE : (nm21 S).length = 4 := rfl
    clear hv1 hk1 s64
    refine hK.out _ _ (fun _ => HC.out v1 L1.out) (fun hHeld0 => ?_)
    have hHeld := hHeld0 (by decide)
    clear hHeld0 hK K
    (try simp only [List.getElem_toArray, List.getElem_cons_zero, List.getElem_cons_succ, Act.put, List.setIfInBounds_toArray, List.set_cons_zero, List.set_cons_succ])
    refine wpAnyK_one (i := 24) (by kernel_rfl) rfl (fun K hK => ?_)
    (try simp only [List.getElem_toArray, List.getElem_cons_zero, List.getElem_cons_succ, Act.put, List.setIfInBounds_toArray, List.set_cons_zero, List.set_cons_succ])
    go_simp
    rw [show (nm21 S).length = 4 from rfl] at HE
    refine HE.mono ?_
    rintro e2 v2 ⟨u2', rfl, o2, b2⟩
    obtain ⟨p2, c2, rfl⟩ := own_sl21 o2
    have B2 : Hid (Below v1.heap.size v1 v2) := b2
    have L2 : Hid (Below N w v2) := L1.out.trans (b2.mono (NL.out _ L1.out))
    obtain ⟨-, a2, cc2, hv, s2, -⟩ := own_seg (M := 255) o2 (by decide) (encA_bd _ (by rw [HNM.out]; exact HBD.out))
    injection hv with q1 q2 q3
    subst q1
    clear q2 q3
    have S2 : Hid (Seg v2 p2 (encA (nm21 S))) := s2
    refine hK.out _ _ (fun _ => HC.out v2 L2.out) (fun hHeld0 => ?_)
    have hHeld := hHeld0 (by decide)
    clear hHeld0 hK K
    (try simp only [List.getElem_toArray, List.getElem_cons_zero, List.getElem_cons_succ, Act.put, List.setIfInBounds_toArray, List.set_cons_zero, List.set_cons_succ])
    obtain ⟨H0, hH0⟩ : ∃ l, l = hdb21 S := ⟨_, rfl⟩
    have HH0 : Hid (H0 = hdb21 S) := hH0
    have HME : Hid (H0 = mg21 ++ encA (nm21 S)) := hH0
    clear hH0
    obtain ⟨m2, hm2⟩ : ∃ l, l = (encA (nm21 S)).length := ⟨_, rfl⟩
    rw [← hm2]
    refine wpAnyK_one (i := 25) (by kernel_rfl) rfl (fun K hK => ?_)
    (try simp only [List.getElem_toArray, List.getElem_cons_zero, List.getElem_cons_succ, Act.put, List.setIfInBounds_toArray, List.set_cons_zero, List.set_cons_succ])
    rw [if_pos (by rfl)]
    obtain ⟨g3, c3, v3, hr3, o3, b3⟩ := appm21 v2 (m := m2) (N := H0) (c2 := c2) HME.out ((O0.out.1.old B1.out).old B2.out) S2.out hm2.symm (by omega) (by omega)
    refine operwp_app24 _ _ _ rfl rfl rfl hr3 ?_
    have O3 : Hid (v3.ownsRow N 5 1 (.slice g3 H0.length c3) H0.length (H0.map (Value.int .u8)) ∧ Below N w v3) := ⟨own_base21 o3 (NL.out _ L2.out), L2.out.trans (b3.mono (NL.out _ L2.out))⟩
    clear hr3 o3 b3 o2 b2 s2 hm2
    refine hK.out _ _ (fun _ => HC.out v3 O3.out.2) (fun hHeld0 => ?_)
    have hHeld := hHeld0 (by decide)
    clear hHeld0 hK K
    simp only [Act.put, List.setIfInBounds_toArray, List.set_cons_zero, List.set_cons_succ]
    refine wpAnyK_one (i := 26) (by kernel_rfl) rfl (fun K hK => ?_)
    (try simp only [List.getElem_toArray, List.getElem_cons_zero, List.getElem_cons_succ, Act.put, List.setIfInBounds_toArray, List.set_cons_zero, List.set_cons_succ])
    go_simp
    refine hK.out _ _ (fun _ => hHeld) (fun _ => ?_)
    clear hK K hHeld HE lE hlE u0 u1 u2 u3
    refine wpAnyK_done (by kernel_rfl) ?_ _
    go_wp2_with fail
    have hB0 : Hid (Below N w v3) := O3.out.2
    go_loopw [5, 41] (fun t5 t41 wr => ∃ (a : Nat) (p : Option Addr) (c : Nat) (L : List Int), a ≤ 3 ∧ t41 = .int .i64 (a : Int) ∧ t5 = .slice p L.length c ∧ Hid (L = H0 ++ arl21 S a) ∧ wr.ownsRow N 5 1 (.slice p L.length c) L.length (L.map (Value.int .u8)) ∧ Below N w wr) (fun _ t41 _ => 3 - (intOf t41).toNat)
    case atStart => exact ⟨0, g3, c3, H0, by omega, rfl, rfl, by show _ = _; simp [arl21], O3.out.1, O3.out.2⟩
    case round =>
      obtain ⟨a, p, c, L, ha, rfl, rfl, hL, hown, hB⟩ := hrel
      by_cases hi : a < 3
      · have hii : (a : Int) < 3 := by omega
        have haw : IntKind.i64.wrap ((a : Int) + 1) = ((a + 1 : Nat) : Int) := by rw [IntWalk.i64_in _ (by omega)]; omega
        have HPO := ppof21 b S.ps (a : Int) wr (by have := (HC.out wr hB).2.1; rw [this]; have e := HNM.out; simp [nm21] at e; rw [e.2.1])
        obtain ⟨n, hn⟩ : ∃ n : Nat, n = (pn21 S.ps (a : Int)).toNat := ⟨_, rfl⟩
        have hn4 : n ≤ 4096 := by rw [hn]; exact pnn21 HO.out _
        have hpn : pn21 S.ps (a : Int) = (n : Int) := by have := pn21_bd S.ps (a : Int) HO.out.ps.2; omega
        rw [hpn] at HPO
        have HN : Hid (n = (pn21 S.ps (a : Int)).toNat) := hn
        have HOW : Hid (wr.ownsRow N 5 1 (.slice p L.length c) L.length (L.map (Value.int .u8)) ∧ Below N w wr) := ⟨hown, hB⟩
        have HLL : Hid (L.length ≤ 45 + 3 * 16822272) := by
          show _ ≤ _
          have h1 := hdb21_len S
          have h2 := arl21_len HO.out a
          have h3 : a * 16822272 ≤ 3 * 16822272 := Nat.mul_le_mul_right _ (by omega)
          rw [hL.out, HH0.out, List.length_append]
          omega
        clear hn hpn hown hB
        go_wp2_with fail
        refine HPO.mono ?_
        rintro e w1' ⟨rfl, hw⟩
        subst w1'
        clear HPO
        go_wp2_with fail
        go_loopw [5, 47] (fun t5 t47 wq => ∃ (k : Nat) (q : Option Addr) (d : Nat) (M : List Int), k ≤ n ∧ t47 = .int .i64 (k : Int) ∧ t5 = .slice q M.length d ∧ Hid (M = L ++ pgl21 S (a : Int) k) ∧ wq.ownsRow N 5 1 (.slice q M.length d) M.length (M.map (Value.int .u8)) ∧ Below N w wq) (fun _ t47 _ => n - (intOf t47).toNat)
        case atStart => exact ⟨0, p, c, L, by omega, rfl, rfl, by show _ = _; simp [pgl21], HOW.out.1, HOW.out.2⟩
        case round =>
          obtain ⟨k, q, d, M, hk, rfl, rfl, hM, hown, hB⟩ := hrel
          by_cases hkn : k < n
          · have hki : (k : Int) < (n : Int) := by omega
            have hkw : IntKind.i64.wrap ((k : Int) + 1) = ((k + 1 : Nat) : Int) := by rw [IntWalk.i64_in _ (by omega)]; omega
            obtain ⟨m', c', f', ta, tc, la, lc, V, hI, -, -, -, -, -⟩ := HF.out wr hB
            have HSH := psht21 b m' c' f' (a : Int) (k : Int) (by unfold In21; omega) (by unfold In21; omega) wr (hI.cel (i := 5) rfl) hI.hm (hI.sv _ _)
            obtain ⟨sa, sc, hsv, hsl, -⟩ := hI.shv (a : Int) (k : Int)
            rw [hsv] at HSH
            have hok := sh21_ok HO.out (a : Int) (k : Int)
            obtain ⟨SS, hSS⟩ : ∃ s, s = sh21 S (a : Int) (k : Int) := ⟨_, rfl⟩
            rw [← hSS] at HSH hsl hok
            obtain ⟨sn, hsn⟩ : ∃ x, x = SS.b.length := ⟨_, rfl⟩
            have HSN : Hid (SS.b.length = sn) := hsn.symm
            rw [← hsn] at HSH hok
            have HSA : Hid (∀ V, Below wr.heap.size wr V → Calls Tryd.prog 49 #[.pointer (some ⟨b, 0, none⟩), .agg #[.slice sa sn sc, .bool SS.er, .int .i64 SS.wr]] V fun e w' => Rb21 V (svp21 S.pg SS) e w') := fun V hV =>
              psaved21 b S.pg V (by have := cel21 hV (HC.out wr hB).1; rw [this]; have e := HNM.out; simp [nm21] at e; rw [e.1]) HO.out.pg.2 (by have := HO.out.pg.1; omega) sa sn sc SS (hsl.old hV) HSN hok.1 hok.2
            obtain ⟨X, hX⟩ : ∃ x, x = svp21 S.pg SS := ⟨_, rfl⟩
            have HXL : Hid (1 ≤ X.length ∧ X.length ≤ 4107) := by have := svp21_len S.pg SS (by rw [HSN.out]; exact hok.1); have := HO.out.pg.2; rw [hX]; exact ⟨by omega, by omega⟩
            rw [← hX] at HSA
            have HMX : Hid (M ++ X = L ++ pgl21 S (a : Int) (k + 1)) := by show _ = _; rw [pgl21_succ, hM.out, List.append_assoc, hX, hSS]
            have HML : Hid (M.length ≤ 45 + 3 * 16822272 + 4096 * 4107) := by
              have h1 := pgl21_len HO.out (a : Int) k
              have h2 : k * 4107 ≤ 4096 * 4107 := Nat.mul_le_mul_right _ (by omega)
              have := HLL.out
              show _ ≤ _
              rw [hM.out, List.length_append]; omega
            have HOK : Hid (wr.ownsRow N 5 1 (.slice q M.length d) M.length (M.map (Value.int .u8)) ∧ Below N w wr) := ⟨hown, hB⟩
            have HXB : Hid (∀ z ∈ X, 0 ≤ z ∧ z ≤ 255) := by show ∀ z ∈ X, _; rw [hX]; exact svp21_bd S.pg SS hsl.mem hok.2
            obtain ⟨MX, hMX⟩ : ∃ x, x = M ++ X := ⟨_, rfl⟩
            have HMXE : Hid (MX = M ++ X) := hMX
            clear hMX hX hSS hsn hsl hok hsv hI hown hB
            go_wp2_with fail
            refine HSH.mono ?_
            rintro e w4 ⟨rfl, b4⟩
            clear HSH
            have B4 : Hid (Below wr.heap.size wr w4) := b4
            have HSA4 := HSA.out w4 b4
            clear b4
            go_wp2_with fail
            refine HSA4.mono ?_
            rintro e w5 ⟨p5, c5, rfl, o5, b5⟩
            clear HSA4
            have W5 : Hid (Below wr.heap.size wr w5) := B4.out.trans (b5.mono B4.out.size)
            obtain ⟨-, a5, cc5, hv, s5, -⟩ := own_seg (M := 255) o5 (by decide) HXB.out
            injection hv with q1 q2 q3
            subst q1
            clear q2 q3
            obtain ⟨g6, c6, w6, hr6, o6, b6, -⟩ := app21 w5 (m := X.length) (N := MX) (c2 := c5) HMXE.out (own_below21 HOK.out.1 W5.out) s5 rfl (by have := HXL.out; omega) (by have := HXL.out; have := HML.out; omega) (Nat.le_trans (NL.out _ HOK.out.2) W5.out.size)
            have O6 : Hid (w6.ownsRow N 5 1 (.slice (some ⟨g6, 0, none⟩) MX.length c6) MX.length (MX.map (Value.int .u8)) ∧ Below N w w6) := ⟨o6, (HOK.out.2.trans (W5.out.mono (NL.out _ HOK.out.2))).trans b6⟩
            clear o5 b5 s5 o6 b6
            obtain ⟨xl, hxl⟩ : ∃ l, l = X.length := ⟨_, rfl⟩
            rw [← hxl] at hr6 ⊢
            clear hxl
            go_wp2_with (first | (at_builtin; refine wpList_app21 rfl (.tmp 50) (.tmp 57) 22 rfl rfl rfl hr6 ?_))
            go_roundw
            case rel => exact ⟨k + 1, some ⟨g6, 0, none⟩, c6, MX, by omega, rfl, rfl, by show _ = _; rw [HMXE.out]; exact HMX.out, O6.out.1, O6.out.2⟩
            case measure => simp [intOf]; omega
          · obtain rfl : k = n := by omega
            have hki : ¬ (k : Int) < (k : Int) := by omega
            have HOK : Hid (wr.ownsRow N 5 1 (.slice q M.length d) M.length (M.map (Value.int .u8)) ∧ Below N w wr) := ⟨hown, hB⟩
            have HMN : Hid (M = H0 ++ arl21 S (a + 1)) := by show _ = _; rw [arl21_succ, ← List.append_assoc, ← hL.out, ← HN.out]; exact hM.out
            clear hown hB
            go_wp2_with fail
            go_roundw
            case rel => exact ⟨a + 1, q, d, M, by omega, rfl, rfl, HMN.out, HOK.out.1, HOK.out.2⟩
            case measure => simp [intOf]; omega
      · obtain rfl : a = 3 := by omega
        have hii : ¬ ((3 : Nat) : Int) < 3 := by omega
        have HOK : Hid (wr.ownsRow N 5 1 (.slice p L.length c) L.length (L.map (Value.int .u8)) ∧ Below N w wr) := ⟨hown, hB⟩
        have HLB : Hid (L = svb21 S) := by show _ = _; rw [hL.out, HH0.out]; rfl
        have hbd := svb21_bd HO.out HBY.out
        rw [← HLB.out] at hbd
        obtain ⟨-, a5, cc5, hv, s5, -⟩ := own_seg (M := 255) hown (by decide) hbd
        injection hv with q1 q2 q3
        subst q1
        clear q2 q3
        have hl0 := svb21_len HO.out
        rw [← HLB.out] at hl0
        have HSU := psumof21 p L L.length c wr (HT.out wr hB) s5 rfl (by omega)
        obtain ⟨T, hT⟩ : ∃ t, t = sm21 L := ⟨_, rfl⟩
        have hTl : T.length = 4 := by rw [hT]; exact sm21_len L
        have HTL : Hid (T.length = 4) := hTl
        have HLT : Hid (L ++ T = sav21 S) := by show _ = _; rw [hT, HLB.out]; rfl
        have HL0 : Hid (L.length ≤ 60000000) := hl0
        rw [← hT] at HSU
        obtain ⟨LT, hLT⟩ : ∃ t, t = L ++ T := ⟨_, rfl⟩
        have HLTE : Hid (LT = L ++ T) := hLT
        clear hT hTl hl0 hbd s5 hown hB hLT
        go_wp2_with fail
        refine HSU.mono ?_
        rintro e w5 ⟨g5, rfl, o5, s5, b5⟩
        clear HSU
        obtain ⟨g6, c6, w6, hr6, o6, b6, -⟩ := app21 w5 (m := 4) (N := LT) (c2 := 4) HLTE.out (own_below21 HOK.out.1 b5) s5 HTL.out (by decide) (by have := HL0.out; omega) (Nat.le_trans (NL.out _ HOK.out.2) b5.size)
        have HF : Hid (SvQ21 w S (.returned (.tuple #[.slice (some ⟨g6, 0, none⟩) LT.length c6, .int .i64 0])) w6) := by
          have e1 : LT = sav21 S := HLTE.out.trans HLT.out
          have b7 := (HOK.out.2.trans (b5.mono (NL.out _ HOK.out.2))).trans b6
          rw [← HW1.out.2] at o6 b7
          exact ⟨.inr ⟨HON.out, some ⟨g6, 0, none⟩, c6, by rw [e1], by rw [e1] at o6; exact o6⟩, b7⟩
        clear o5 s5 b5 o6 b6
        go_wp2_with (first | (at_builtin; refine wpList_app21 rfl (.tmp 61) (.tmp 63) 22 rfl rfl rfl hr6 ?_))
        go_ret2
        exact HF.out
end
end Go.Proofs.YtmjlpfmacblcpaaDoor

namespace Go.Proofs.YtmjlpfmacblcpaaDoor
open Go.RowKit Go.Shelf
set_option linter.unusedVariables false
set_option linter.unusedSimpArgs false
/-- What holds while New lays area a: the areas ahead are laid, cur is a's slice. -/
structure Nd21 (w W : World) (b p q : Nat) (ac : Int) (sl : Array Value) (S : Fs21) (a : Nat) (g c : Nat → Nat) (A : Nat → List Pd21) (cur : Value) : Prop where
  bl : Below w.heap.size w W
  gs : W.heap[w.heap.size]? = some (.cells sl 46 (0, 0))
  hp : W.heap[b]? = some (.cells #[.int .i64 (p : Int), .int .i64 (q : Int), .int .i64 ac, (if 0 < a then .slice (some ⟨g 0, 0, none⟩) (A 0).length (c 0) else if a = 0 then cur else .slice none 0 0), (if 1 < a then .slice (some ⟨g 1, 0, none⟩) (A 1).length (c 1) else if a = 1 then cur else .slice none 0 0), .slice none 0 0, .slice none 0 0, .bool false, .int .i64 0, .slice none 0 0, .int .i64 0] 107 (0, 0))
  ar : ∀ x, x < a → Ac21 w.heap.size W S x (g x) (c x) (A x)
  gi : ∀ x y, x < a → y < a → x ≠ y → g x ≠ g y
  bN : w.heap.size ≤ b
section
variable {w W W' : World} {b p q : Nat} {ac : Int} {sl : Array Value} {S : Fs21} {a : Nat} {g c : Nat → Nat} {A : Nat → List Pd21} {cur : Value}
theorem Nd21.lt (h : Nd21 w W b p q ac sl S a g c A cur) : b < W.heap.size := (Array.getElem?_eq_some_iff.1 h.hp).1
theorem Nd21.cel (h : Nd21 w W b p q ac sl S a g c A cur) (ha : a < 2) : W.cell? ⟨b, 3 + a, none⟩ = some cur := by
  rcases (show a = 0 ∨ a = 1 by omega) with rfl | rfl
  · simp [World.cell?, h.hp]
  · simp [World.cell?, h.hp]
theorem Nd21.fr (h : Nd21 w W b p q ac sl S a g c A cur) (i : Nat) : W.frozen? ⟨b, i, none⟩ = false := by simp [World.frozen?, h.hp]
/-- Only new blocks. -/
theorem Nd21.old (h : Nd21 w W b p q ac sl S a g c A cur) (hb : Below W.heap.size W W') : Nd21 w W' b p q ac sl S a g c A cur := by
  have hkb : KB21 W W' := fun k cur e => hb.block k (Array.getElem?_eq_some_iff.1 e).1
  refine ⟨h.bl.trans (hb.mono h.bl.size), (hb.block _ (Array.getElem?_eq_some_iff.1 h.gs).1).trans h.gs, (hb.block b h.lt).trans h.hp, fun x hx => ?_, h.gi, h.bN⟩
  obtain ⟨X, hX⟩ := (h.ar x hx).1
  exact (h.ar x hx).kb hkb (hb.block _ (Array.getElem?_eq_some_iff.1 hX).1)
/-- The area's slice anew: all is kept but b and a row of pages that is none of the laid ones. -/
theorem Nd21.put (h : Nd21 w W b p q ac sl S a g c A cur) (ha : a < 2) {Q : Nat → Prop} {W1 : World} (hk : Kp Q W W1) (hQ : ∀ k, Q k → w.heap.size ≤ k ∧ (∀ x, x < a → k ≠ g x) ∧ k ≠ b ∧ (∀ cur : Array Value, W.heap[k]? ≠ some (Obj.cells cur 5 (0, 0))) ∧ (∀ cur : Array Value, W.heap[k]? ≠ some (Obj.cells cur 46 (0, 0)))) (v : Value) :
    Nd21 w (W1.setCell ⟨b, 3 + a, none⟩ v) b p q ac sl S a g c A v := by
  have hk2 : Kp (fun k => k = b ∨ Q k) W (W1.setCell ⟨b, 3 + a, none⟩ v) := (hk.mono (fun _ _ e => .inr e)).trans (Kp.set (S := fun k => k = b ∨ Q k) (.inl rfl) _) (fun _ _ e => e)
  have hkb : KB21 W (W1.setCell ⟨b, 3 + a, none⟩ v) := fun k cur e => hk2.block k (Array.getElem?_eq_some_iff.1 e).1 (fun q => by
    rcases q with q | q
    · subst q; rw [h.hp] at e; injection e with e; injection e with _ e _; exact absurd e (by decide)
    · exact (hQ k q).2.2.2.1 cur e)
  have hb1 : W1.heap[b]? = W.heap[b]? := hk.block b h.lt (fun e => (hQ b e).2.2.1 rfl)
  refine ⟨h.bl.trans (hk2.below (fun i e => ?_) h.bl.size), ?_, ?_, fun x hx => ?_, h.gi, h.bN⟩
  · rcases e with e | e
    · rw [e]; exact h.bN
    · exact (hQ i e).1
  · refine (hk2.block _ (Array.getElem?_eq_some_iff.1 h.gs).1 (fun q => ?_)).trans h.gs
    rcases q with q | q
    · have := h.hp; rw [← q, h.gs] at this; injection this with e; injection e with _ e _; exact absurd e (by decide)
    · exact (hQ _ q).2.2.2.2 _ h.gs
  · have := hb1.trans h.hp
    rcases (show a = 0 ∨ a = 1 by omega) with rfl | rfl
    · simp [World.setCell, Array.getElem?_modify, this]
    · simp [World.setCell, Array.getElem?_modify, this]
  · obtain ⟨X, hX⟩ := (h.ar x hx).1
    refine (h.ar x hx).kb hkb (hk2.block _ (Array.getElem?_eq_some_iff.1 hX).1 (fun q => ?_))
    rcases q with q | q
    · have := h.hp; rw [← q, hX] at this; injection this with e; injection e with _ e _; exact absurd e (by decide)
    · exact (hQ _ q).2.1 x hx rfl
end
theorem Nd21.next {w W : World} {b p q : Nat} {ac : Int} {sl : Array Value} {S : Fs21} {a : Nat} {g c : Nat → Nat} {A : Nat → List Pd21} {r cap n : Nat} {L : List Pd21} (h : Nd21 w W b p q ac sl S a g c A (.slice (some ⟨r, 0, none⟩) n cap)) (ha : a < 2) (hL : L.length = n) (hac : Ac21 w.heap.size W S a r cap L) (hr : ∀ x, x < a → r ≠ g x) :
    ∃ g' c' A', Nd21 w W b p q ac sl S (a + 1) g' c' A' (.slice none 0 0) := by
  refine ⟨fun x => if x = a then r else g x, fun x => if x = a then cap else c x, fun x => if x = a then L else A x, h.bl, h.gs, ?_, fun x hx => ?_, fun x y hx hy hne => ?_, h.bN⟩
  · have := h.hp
    rcases (show a = 0 ∨ a = 1 by omega) with rfl | rfl
    · simpa [hL] using this
    · simpa [hL] using this
  · by_cases e : x = a
    · subst e; simpa using hac
    · simpa [e] using h.ar x (by omega)
  · by_cases e : x = a
    · have e2 : ¬ y = a := by omega
      simp only [e, if_true, e2, if_false]; exact hr y (by omega)
    · by_cases e2 : y = a
      · simp only [e, if_false, e2, if_true]; exact fun q => hr x (by omega) q.symm
      · simp only [e, e2, if_false]; exact h.gi x y (by omega) (by omega) hne
end Go.Proofs.YtmjlpfmacblcpaaDoor
