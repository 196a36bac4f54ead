import Derived.Test.YtkjccbihdinlkaaPav
import Derived.Deep.OwnRows
namespace Go.Proofs.Ytkjccbihdinlkaa
open Go.RowKit
set_option linter.unusedVariables false

theorem RwL.far {w : World} {b B N : Nat} {v : Value} {L : List Bool} (h : RwL w b B v L) (h1 : N ≤ b) (h2 : N ≤ B) {g : Nat} (hg : g < N) : ¬ WS b v g := by
  rintro (e | e)
  · omega
  · have := (h.own_lt g e).1; omega
theorem RwL.below {w w' : World} {b B N : Nat} {v : Value} {L : List Bool} (h : RwL w b B v L) (hk : Kp (WS b v) w w') (h1 : N ≤ b) (h2 : N ≤ B) : Below N w w' :=
  hk.below (fun i e => by
    rcases e with e | e
    · omega
    · have := (h.own_lt i e).1; omega) (by have := h.b_lt; omega)

def accB (L : List Bool) (i : Nat) : List Int := (List.range ((L.length + 7) / 8)).map fun j => (num (((L.take i).drop (8 * j)).take 8) : Int)
theorem accB_len (L : List Bool) (i : Nat) : (accB L i).length = (L.length + 7) / 8 := by simp [accB]
theorem accB_get (L : List Bool) (i j : Nat) (h : j < (L.length + 7) / 8) : (accB L i)[j]? = some (num (((L.take i).drop (8 * j)).take 8) : Int) := by simp [accB, h]
theorem accB_end (L : List Bool) : accB L L.length = toB L := by
  apply List.ext_getElem?
  intro j
  by_cases h : j < (L.length + 7) / 8
  · rw [accB_get _ _ _ h, toB_get _ _ (by rw [toB_len]; exact h), List.take_length]
  · rw [List.getElem?_eq_none (by rw [accB_len]; omega), List.getElem?_eq_none (by rw [toB_len]; omega)]
theorem accB_zero (L : List Bool) : accB L 0 = List.replicate ((L.length + 7) / 8) 0 := by
  apply List.ext_getElem?
  intro j
  by_cases h : j < (L.length + 7) / 8
  · rw [accB_get _ _ _ h]
    simp [num, h]
  · rw [List.getElem?_eq_none (by rw [accB_len]; omega), List.getElem?_eq_none (by simp; omega)]
theorem accB_bd (L : List Bool) (i : Nat) : ∀ z ∈ accB L i, 0 ≤ z ∧ z ≤ 255 := by
  intro z hz
  simp only [accB, List.mem_map] at hz
  obtain ⟨j, _, rfl⟩ := hz
  have h1 := num_lt (((L.take i).drop (8 * j)).take 8)
  have h2 : (2 : Nat) ^ (((L.take i).drop (8 * j)).take 8).length ≤ 2 ^ 8 := Nat.pow_le_pow_right (by decide) (by simp; omega)
  omega
theorem piece_same (L : List Bool) (i j : Nat) (hi : i < L.length) (hj : j ≠ i / 8) : ((L.take (i + 1)).drop (8 * j)).take 8 = ((L.take i).drop (8 * j)).take 8 := by
  rw [List.take_succ_eq_append_getElem hi]
  by_cases h : 8 * j ≤ i
  · have h8 : 8 * j + 8 ≤ i := by omega
    rw [List.drop_append_of_le_length (by simp; omega), List.take_append_of_le_length (by simp; omega)]
  · rw [List.drop_of_length_le (by simp; omega), List.drop_of_length_le (by simp; omega)]
theorem piece_next (L : List Bool) (i : Nat) (hi : i < L.length) : num (((L.take (i + 1)).drop (8 * (i / 8))).take 8) = num (((L.take i).drop (8 * (i / 8))).take 8) + 2 ^ (i % 8) * (L[i]).toNat ∧ (((L.take i).drop (8 * (i / 8))).take 8).length = i % 8 := by
  have hl : (((L.take i).drop (8 * (i / 8))).take 8).length = i % 8 := by simp; omega
  refine ⟨?_, hl⟩
  rw [List.take_succ_eq_append_getElem hi, List.drop_append_of_le_length (by simp; omega)]
  rw [List.take_of_length_le (by simp; omega), ← List.take_of_length_le (l := (L.take i).drop (8 * (i / 8))) (i := 8) (by simp; omega), num_snoc, hl, List.take_take, Nat.min_self]
theorem accB_next (L : List Bool) (i : Nat) (hi : i < L.length) (z : Int) (hz : z = (num (((L.take i).drop (8 * (i / 8))).take 8) : Int)) : accB L (i + 1) = (accB L i).set (i / 8) (z + ((2 ^ (i % 8) * (L[i]).toNat : Nat) : Int)) := by
  apply List.ext_getElem?
  intro j
  by_cases h : j < (L.length + 7) / 8
  · rw [accB_get _ _ _ h]
    by_cases hj : j = i / 8
    · subst hj
      rw [List.getElem?_set_self (by rw [accB_len]; exact h), (piece_next L i hi).1, hz]
      simp
    · rw [List.getElem?_set_ne (by omega), accB_get _ _ _ h, piece_same L i j hi hj]
  · rw [List.getElem?_eq_none (by rw [accB_len]; omega), List.getElem?_eq_none (by rw [List.length_set, accB_len]; omega)]
theorem accB_same (L : List Bool) (i : Nat) (hi : i < L.length) (hb : L[i] = false) : accB L (i + 1) = accB L i := by
  apply List.ext_getElem?
  intro j
  by_cases h : j < (L.length + 7) / 8
  · rw [accB_get _ _ _ h, accB_get _ _ _ h]
    by_cases hj : j = i / 8
    · subst hj
      rw [(piece_next L i hi).1, hb]
      simp
    · rw [piece_same L i j hi hj]
  · rw [List.getElem?_eq_none (by rw [accB_len]; omega), List.getElem?_eq_none (by rw [accB_len]; omega)]
theorem add_bit8 {z r : Nat} (hz : z < 2 ^ r) (hr : r < 8) : IntKind.u8.wrap ((z : Int) + IntKind.u8.wrap (2 ^ r)) = ((z + 2 ^ r : Nat) : Int) ∧ ((z : Int) + 2 ^ r) % 256 = ((z + 2 ^ r : Nat) : Int) := by
  have h1 : 2 ^ r ≤ 2 ^ 7 := Nat.pow_le_pow_right (by decide) (by omega)
  rw [show (2 : Int) ^ r = ((2 ^ r : Nat) : Int) by simp]
  generalize 2 ^ r = p at *
  rw [IntKind.wrap_u8, IntKind.wrap_u8]
  constructor <;> omega

theorem info_u8y : (Try.prog.info? 5).map (fun i => (i.zero, i.size, i.bytes)) = some (some (.int .u8 0), 1, 1) := by kernel_rfl
theorem made_noughts (n : Nat) : madeCells #[.int .u8 0] n = ((List.replicate n (0 : Int)).map (Value.int .u8)).toArray := by
  apply Array.toList_inj.1
  rw [toList_madeCells_one]
  simp
theorem run_make_noughts (n : Nat) (h : n ≤ 140737488355328) (w : World) :
    (Instr.makeSlice 42 (.int .i64 (n : Int)) (.int .i64 (n : Int))).run Try.prog w = .ok (.slice (some ⟨w.heap.size, 0, none⟩) n n) (w.alloc (.cells ((List.replicate n (0 : Int)).map (Value.int .u8)).toArray 5)) := by
  rw [← made_noughts]
  exact run_make_row' 42 5 (.int .u8 0) 1 Try.underlying42 info_u8y rfl .i64 .i64 n (by omega) (by omega) w
theorem made_row (w : World) (zs : List Int) (e : TypeId) (h : zs.length ≤ 140737488355328) : (w.alloc (.cells (zs.map (Value.int .u8)).toArray e)).ownsRow w.heap.size e 1 (.slice (some ⟨w.heap.size, 0, none⟩) zs.length zs.length) zs.length (zs.map (Value.int .u8)) := by
  refine ⟨by simp, .inr ⟨w.heap.size, zs.length, (zs.map (Value.int .u8)).toArray, rfl, Nat.le_refl _, heap_alloc_new w _, Nat.le_refl _, ?_, by simp, ?_⟩⟩
  · unfold maxLen
    omega
  · simp only [Nat.mul_one]
    exact List.take_of_length_le (by simp)

set_option maxRecDepth 100000 in
set_option maxHeartbeats 2000000 in
theorem rbytes_any (b B : Nat) (v : Value) (L : List Bool) (w : World) (h : RwL w b B v L) (hl : L.length ≤ 140737488355264) :
    Calls Try.prog 26 #[.pointer (some ⟨b, 0, none⟩)] w fun e w' => ∃ a' c', e = .returned (.slice a' (toB L).length c') ∧ w'.ownsRow w.heap.size 5 1 (.slice a' (toB L).length c') (toB L).length ((toB L).map (Value.int .u8)) ∧ Below w.heap.size w w' := by
  obtain ⟨a, cap, rfl, h⟩ := h
  have hn : ((L.length : Int) + 7) / 8 = (((L.length + 7) / 8 : Nat) : Int) := by omega
  obtain ⟨n, hnn⟩ : ∃ n, n = (L.length + 7) / 8 := ⟨_, rfl⟩
  rw [← hnn] at hn
  have hmk := run_make_noughts n (by omega) w
  have hown0 := made_row w (List.replicate n (0 : Int)) 5 (by simp; omega)
  have hacc : accB L 0 = List.replicate n 0 := by rw [accB_zero, ← hnn]
  rw [List.length_replicate, ← hacc] at hown0
  rw [← hacc] at hmk
  have hc0 := h.cell0
  have hlt := h.b_lt
  have HG : Hid (b < w.heap.size) := hlt
  have hB0 : Below w.heap.size w (w.alloc (.cells ((accB L 0).map (Value.int .u8)).toArray 5)) := (Below.refl _ _).alloc (Nat.le_refl _) _
  have hsB := h.seg
  have HNN : Hid (n = (L.length + 7) / 8) := hnn
  have hnle : n ≤ 140737488355328 := by omega
  have hc1 : ∀ o, (w.alloc o).cell? ⟨b, 0, none⟩ = some (.slice a L.length cap) := fun o => (((Below.refl w.heap.size w).alloc (Nat.le_refl _) o).cell (p := ⟨b, 0, none⟩) hlt).trans hc0
  have hacc0 : Hid (accB L 0 = List.replicate n 0) := hacc
  clear hnn hacc
  generalize hA0 : accB L 0 = A0 at *
  have HA0 : Hid (accB L 0 = A0) := hA0
  clear hA0
  go_enter Try.func26, Try.ntmps26
  go_wp2
  clear hmk hc1 hn
  generalize hg : w.heap.size = g at *
  generalize w.alloc (.cells (A0.map (Value.int .u8)).toArray 5) = w0 at *
  go_loopw [19] (fun ti wr => ∃ i : Nat, i ≤ L.length ∧ ti = .int .i64 (i : Int) ∧ wr.ownsRow g 5 1 (.slice (some ⟨g, 0, none⟩) n n) n ((accB L i).map (Value.int .u8)) ∧ Below g w wr) (fun ti _ => L.length - (intOf ti).toNat)
  case atStart => exact ⟨0, Nat.zero_le _, rfl, by rw [HA0.out]; exact hown0, hB0⟩
  case round =>
    obtain ⟨i, hi, rfl, hown, hT⟩ := hrel
    by_cases hlt2 : i < L.length
    · have hltI : (i : Int) < (L.length : Int) := by omega
      have hsr : SegB wr a L := hsB.old (by rw [hg]; exact hT)
      obtain ⟨sb, so, rfl, hcell⟩ := hsr.at_ i hlt2
      have hgd : L.getD i false = L[i] := by simp [List.getD, hlt2]
      rw [hgd] at hcell
      have hpn := piece_next L i hlt2
      have hnx := accB_next L i hlt2 _ rfl
      have hpl := num_lt (((L.take i).drop (8 * (i / 8))).take 8)
      rw [hpn.2] at hpl
      have hq8 : i / 8 < n := by have := HNN.out; omega
      have hag := accB_get L i (i / 8) (by have := HNN.out; omega)
      obtain ⟨hlo, hce⟩ : wr.frozen? ⟨g, i / 8, none⟩ = false ∧ wr.cell? ⟨g, i / 8, none⟩ = some (.int .u8 (num (((L.take i).drop (8 * (i / 8))).take 8) : Int)) := by
        constructor
        · rcases hown.2 with ⟨e0, _⟩ | ⟨g', cp, cur, e0, _, hh, _⟩
          · cases e0
          · cases e0
            simp [World.frozen?, hh]
        · have := hown.cells (g := g) rfl (i / 8) (.int .u8 (num (((L.take i).drop (8 * (i / 8))).take 8) : Int)) (by rw [List.getElem?_map, hag]; rfl)
          have hadd : (⟨g, 0, none⟩ : Addr).add (i / 8) = ⟨g, i / 8, none⟩ := by unfold Addr.add; split <;> simp_all
          rw [hadd] at this
          exact this
      have hst := hown.stored (i / 8) (.int .u8 (((num (((L.take i).drop (8 * (i / 8))).take 8) + 2 ^ (i % 8) : Nat)) : Int))
      have HAD : Hid (((num (((L.take i).drop (8 * (i / 8))).take 8) : Int) + 2 ^ (i % 8)) % 256 = ((num (((L.take i).drop (8 * (i / 8))).take 8) + 2 ^ (i % 8) : Nat) : Int)) := (add_bit8 hpl (Nat.mod_lt _ (by decide))).2
      have hqI : (i : Int) / 8 = ((i / 8 : Nat) : Int) := by omega
      have hrI : (i : Int) % 8 = ((i % 8 : Nat) : Int) := by omega
      have hr8 : i % 8 < 8 := Nat.mod_lt _ (by decide)
      have hz8 : num (((L.take i).drop (8 * (i / 8))).take 8) < 256 := by
        have : 2 ^ (i % 8) ≤ 2 ^ 8 := Nat.pow_le_pow_right (by decide) (by omega)
        omega
      have HNX : Hid (accB L (i + 1) = (accB L i).set (i / 8) ((num (((L.take i).drop (8 * (i / 8))).take 8) : Int) + ((2 ^ (i % 8) * (L[i]).toNat : Nat) : Int))) := hnx
      have HSM : Hid (L[i] = false → accB L (i + 1) = accB L i) := accB_same L i hlt2
      clear hag hsr hpn hnx hpl hgd
      generalize num (((L.take i).drop (8 * (i / 8))).take 8) = z at *
      generalize i / 8 = q at *
      generalize i % 8 = r at *
      cases hb : L[i]
      · rw [hb] at hcell
        have HSM2 : Hid (accB L (i + 1) = accB L i) := HSM.out hb
        clear hb HNX HSM hst
        go_wp2
        go_roundw
        case rel => exact ⟨i + 1, by omega, by go_num, by rw [HSM2.out]; exact hown, hT⟩
        case measure => simp [intOf]; omega
      · rw [hb] at hcell HNX
        clear hb HSM
        go_wp2
        go_region
        rw [HAD.out]
        have hT2 : Below g w ((wr.setCell ⟨g, q, none⟩ (.int .u8 ((z + 2 ^ r : Nat) : Int))).drew) := (hT.trans ((Below.refl _ _).grown hst.2 (by rw [← hg]; exact hT.size) (by intro k e; cases e; exact Nat.le_refl _))).drew
        have ho2 : ((wr.setCell ⟨g, q, none⟩ (.int .u8 ((z + 2 ^ r : Nat) : Int))).drew).ownsRow g 5 1 (.slice (some ⟨g, 0, none⟩) n n) n ((accB L (i + 1)).map (Value.int .u8)) := by
          rw [HNX.out, List.map_set]
          have := (hst.1).drew
          simpa using this
        generalize (wr.setCell ⟨g, q, none⟩ (.int .u8 ((z + 2 ^ r : Nat) : Int))).drew = w3 at *
        clear hst hce hlo hcell
        go_wp2
        go_roundw
        case rel => exact ⟨i + 1, by omega, by go_num, ho2, hT2⟩
        case measure => simp [intOf]; omega
    · have HI : Hid (i = L.length) := by show _ = _; omega
      have hge : (L.length : Int) ≤ (i : Int) := by omega
      clear hlt2 hi
      go_wp2
      go_ret
      have hTL : (toB L).length = n := by rw [toB_len, HNN.out]
      rw [HI.out, accB_end] at hown
      rw [hTL]
      subst hg
      exact ⟨_, n, rfl, hown, hT⟩
end Go.Proofs.Ytkjccbihdinlkaa
