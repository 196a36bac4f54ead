import Derived.Test.YtnofaodahcfldabDoorCrcJoin
import Derived.Test.YtnofaodahcfldabDoorCrcAwake
import Derived.Test.YtnofaodahcfldabDoorCrcMake
import Derived.Test.YtnofaodahcfldabDoorPush
import Derived.Test.YtnofaodahcfldabDoorOpenP
import Derived.Deep.RegionHeld3
namespace Go.Proofs.YtnofaodahcfldabDoor
open Go.RowKit
set_option linter.unusedVariables false
set_option linter.unusedSimpArgs false

theorem Parts.old {w w' : World} {a : Option Addr} {ps : List Part} (h : Parts w a ps) (hb : Below w.heap.size w w') : Parts w' a ps :=
  ⟨fun i hi => by
    obtain ⟨b, off, ha, hc⟩ := h.at_ i hi
    exact ⟨b, off, ha, (hb.cell (p := ⟨b, off + i, none⟩) (World.block_lt_of_cell? w _ hc)).trans hc⟩, fun i hi => (h.seg i hi).old hb, h.len⟩
theorem flat_take_le (ps : List Part) (k : Nat) : (flat (ps.take k)).length ≤ (flat ps).length := by
  have : flat ps = flat (ps.take k) ++ flat (ps.drop k) := by
    unfold flat
    rw [← List.flatten_append, ← List.map_append, List.take_append_drop]
  rw [this, List.length_append]
  omega
theorem flat_bd {w : World} {a : Option Addr} {ps : List Part} (h : Parts w a ps) (k : Nat) : ∀ z ∈ flat (ps.take k), 0 ≤ z ∧ z ≤ 255 := by
  intro z hz
  unfold flat at hz
  rw [List.mem_flatten] at hz
  obtain ⟨l, hl, hz⟩ := hz
  rw [List.mem_map] at hl
  obtain ⟨p, hp, rfl⟩ := hl
  have hp' := List.mem_of_mem_take hp
  obtain ⟨i, hi, rfl⟩ := List.mem_iff_getElem.1 hp'
  have := h.seg i hi
  rw [show ps.getD i noPart = ps[i] by simp [List.getD, hi]] at this
  exact this.mem z hz
theorem sum_next (l m : List Int) : ~~~ (runW (~~~ (sumW l)) m) = sumW (l ++ m) := by
  unfold sumW
  rw [not_not, runW_append]

set_option maxHeartbeats 2000000 in
theorem crcCuts_walk (w : World) (ht : Tab w) (a : Option Addr) (ps : List Part) (cap : Nat) (hs : Parts w a ps) (hok : NilOk ps) (hc : ps.length ≤ cap) (hnil : a = none → cap = 0) (hl : (flat ps).length + ps.length + 1 ≤ 1048576) :
    Calls Tryd.prog 7 #[.slice a ps.length cap] w fun e w' => e = .returned (.bool true) ∧ Below w.heap.size w w' := by
  obtain ⟨i0, hi, hz0, hz1, hz2⟩ := info_parts info_u8z
  have z0 : (0 : Int) = wI (sumW (flat (ps.take 0))) := by simp [flat]; decide
  go_enter Tryd.func7, Tryd.ntmps7
  go_wp2_with fail
  refine (awake_any _ ht).mono ?_
  rintro e w1 ⟨rfl, hb1⟩
  have t1 : Tab w1 := ht.old hb1
  have s1 : Parts w1 a ps := hs.old hb1
  clear ht hs
  go_wp2
  go_loopw [3, 4, 5, 6] (fun tl tm tj ti wr => ∃ k : Nat, k ≤ ps.length ∧ tm = .int .u32 (wI (sumW (flat (ps.take k)))) ∧ tj = .int .u32 (wI (sumW (flat (ps.take k)))) ∧ ti = .int .i64 k ∧ wr.ownsRow w1.heap.size 5 1 tl (flat (ps.take k)).length ((flat (ps.take k)).map (Value.int .u8)) ∧ Below w1.heap.size w1 wr) (fun _ _ _ ti _ => ps.length - (intOf ti).toNat)
  case atStart => exact ⟨0, Nat.zero_le _, by rw [← z0], by rw [← z0], rfl, by simp [flat]; exact World.ownsRow_nil _ _ _ _, Below.refl _ _⟩
  case round =>
    clear z0
    obtain ⟨k, hk, rfl, rfl, rfl, hown, hb⟩ := hrel
    have hbw : Below w.heap.size w wr := hb1.trans (hb.mono hb1.size)
    have tr : Tab wr := t1.old hb
    have sr : Parts wr a ps := s1.old hb
    by_cases hlt : k < ps.length
    · have hlti : (k : Int) < (ps.length : Int) := by omega
      obtain ⟨b, off, rfl, hcell⟩ := sr.at_ k hlt
      have hseg := sr.seg k hlt
      have hnk := hok k
      have HT : Hid (flat (ps.take (k + 1)) = flat (ps.take k) ++ (ps.getD k noPart).zs) := flat_snoc hlt
      have hle := flat_take_le ps (k + 1)
      rw [HT.out, List.length_append] at hle
      have HP0 : ∀ w', Below w1.heap.size w1 w' → Tab w' ∧ w'.cell? ⟨b, off + k, none⟩ = some (ps.getD k noPart).val ∧ Seg w' (ps.getD k noPart).a (ps.getD k noPart).zs := by
        intro w' hb'
        have s' := s1.old hb'
        obtain ⟨b', off', he, hc'⟩ := s'.at_ k hlt
        cases he
        exact ⟨t1.old hb', hc', s'.seg k hlt⟩
      generalize ps.getD k noPart = p at *
      obtain ⟨pa, pz, pc⟩ := p
      unfold Part.val at hcell HP0
      simp only at hcell hseg hnk HT hle HP0
      have HP : Hid (∀ w', Below w1.heap.size w1 w' → Tab w' ∧ w'.cell? ⟨b, off + k, none⟩ = some (.slice pa pz.length pc) ∧ Seg w' pa pz) := HP0
      clear HP0
      generalize flat (ps.take k) = L at *
      have h63 : (pz.length : Int) ≤ 1048576 := by omega
      have HJ : Hid (onN (8 * ((pz.length : Int)).toNat) (sumW L) ^^^ sumW pz = sumW (L ++ pz)) := by
        show _ = _
        rw [Int.toNat_natCast, sumW_append]
      have HN : Hid (~~~ (runW (~~~ (sumW L)) pz) = sumW (L ++ pz)) := sum_next L pz
      go_wp2_with (at_builtin; refine wpList_append_seg rfl (.tmp 18) (.tmp 22) 26 rfl w1.heap.size 5 i0 (.int .u8 0) 1 Tryd.underlying26 hi hz0 hz1 hz2 rfl hown hseg hnk rfl rfl (by omega) (by omega) hb.size ?_; intro v' w2 hown2 hg2 hb2; have q2 := HP.out w2 (hb.trans hb2); obtain ⟨t2, k2, g2⟩ := q2)
      refine (more_any (sumW L) pa pz pc _ t2 g2 (by omega)).mono ?_
      rintro e w' ⟨rfl, hw'⟩
      subst w'
      rw [HN.out]
      have b2 : Below w1.heap.size w1 w2 := hb.trans hb2
      clear hown hseg hb hb2 hcell hg2 tr sr hbw
      go_wp2
      have hk0 : (0 : Int) ≤ (k : Int) := by omega
      have t3 : Tab w2.drew := t2.drew
      have g3 : Seg w2.drew pa pz := g2.drew
      have b3 : Below w1.heap.size w1 w2.drew := b2.drew
      have own3 : w2.drew.ownsRow w1.heap.size 5 1 v' (L.length + pz.length) (L.map (Value.int .u8) ++ pz.map (Value.int .u8)) := hown2
      go_region_held3 (fun w' => w'.cell? ⟨b, off + k, none⟩ = some (.slice pa pz.length pc)) (go_keep)
        (first | (go_at_call 13; refine (sum_one w2.drew _ _ pa pz pc 1 _ t3 g3 rfl rfl (by omega)).mono ?_; rintro e w4 ⟨rfl, hw4⟩; have q4 := HP.out w4 (by rw [hw4]; exact b3.alloc b3.size _); have b4 : Below w1.heap.size w1 w4 := (by rw [hw4]; exact b3.alloc b3.size _); have own4 : w4.ownsRow w1.heap.size 5 1 v' (L.length + pz.length) (L.map (Value.int .u8) ++ pz.map (Value.int .u8)) := (by rw [hw4]; exact own3.alloc _); obtain ⟨t4, k4, g4⟩ := q4; clear hw4) | (go_at_call 16; refine (join_any (sumW L) (sumW pz) _ _ (by omega)).mono ?_; rintro e w5 ⟨rfl, hw5⟩; subst w5; rw [HJ.out]))
      clear t3 g3 b3 own3 t2 g2 b2 hown2 k2
      go_wp2
      go_roundw
      case rel => exact ⟨k + 1, by omega, by rw [HT.out], by rw [HT.out], by go_num, by rw [HT.out, List.length_append, List.map_append]; exact own4, b4⟩
      case measure => simp [intOf]; omega
    · obtain rfl : k = ps.length := by omega
      have e1 : ps.take ps.length = ps := List.take_of_length_le (Nat.le_refl _)
      have hbd := flat_bd sr ps.length
      rw [e1] at hown hbd
      rw [e1]
      clear hlt e1
      obtain ⟨hj1, a3, c3, rfl, q3, hj2, hj3, hj4⟩ := own_seg hown (M := 255) (by decide) hbd
      clear hj1 hj2 hj3 hj4 hown hbd
      go_wp2_with fail
      refine (sum_one wr _ _ a3 (flat ps) c3 1 _ tr q3 rfl rfl (by omega)).mono ?_
      rintro e w4 ⟨rfl, hw4⟩
      have t4 : Tab w4 := by rw [hw4]; exact tr.alloc _
      have s4 : Parts w4 a ps := by rw [hw4]; exact sr.old ((Below.refl _ _).alloc (Nat.le_refl _) _)
      have b4 : Below w.heap.size w w4 := by rw [hw4]; exact balloc hbw _
      clear hw4
      go_wp2_with fail
      refine (sum_any a ps cap _ t4 s4 (by omega)).mono ?_
      rintro e w5 ⟨rfl, hw5⟩
      subst w5
      go_wp2
      go_ret
      exact ⟨by simp, b4⟩
end Go.Proofs.YtnofaodahcfldabDoor
