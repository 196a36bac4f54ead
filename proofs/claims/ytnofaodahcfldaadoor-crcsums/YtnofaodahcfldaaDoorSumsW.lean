import Derived.Test.YtnofaodahcfldaaDoorCrcRun
import Derived.Test.YtnofaodahcfldaaDoorCrcSum
import Derived.Test.YtnofaodahcfldaaDoorSameB
import Derived.Test.YtnofaodahcfldaaDoorPush
import Derived.Test.YtnofaodahcfldaaDoorOwnSeg
import Derived.Test.YtnofaodahcfldaaDoorCrcMake
import Derived.Deep.RegionHeld3
namespace Go.Proofs.YtnofaodahcfldaaDoor
open Go.RowKit
set_option linter.unusedVariables false
set_option linter.unusedSimpArgs false

theorem Parts.old {w w' : World} {a : Option Addr} {ps : List Part} (h : Parts w a ps) (hb : Below w.heap.size w w') : Parts w' a ps :=
  ⟨fun i hi => by
    obtain ⟨b, off, ha, hc⟩ := h.at_ i hi
    exact ⟨b, off, ha, (hb.cell (p := ⟨b, off + i, none⟩) (World.block_lt_of_cell? w _ hc)).trans hc⟩, fun i hi => (h.seg i hi).old hb, h.len⟩

set_option maxHeartbeats 400000 in
theorem rsum_any (a : Option Addr) (ps : List Part) (cap : Nat) (w : World) (hs : Parts w a ps) (hl : ps.length ≤ 9223372036854775807) :
    Calls Tryd.prog 11 #[.slice a ps.length cap] w fun e w' => e = .returned (.int .u32 (wI (sumW (flat ps)))) ∧ w' = w := by
  have hsg := u32_unsigned
  obtain ⟨o, ho⟩ : ∃ o : W32, o = ~~~ 0#32 := ⟨_, rfl⟩
  have z0 : (4294967295 : Int) = wI (runW o (flat (ps.take 0))) := by rw [ho]; simp [flat]; decide
  have HO : Hid (o = ~~~ 0#32) := ho
  clear ho
  go_enter Tryd.func11, Tryd.ntmps11
  go_wp2
  go_loopw [3, 4] (fun tr ti wr => ∃ k : Nat, k ≤ ps.length ∧ tr = .int .u32 (wI (runW o (flat (ps.take k)))) ∧ ti = .int .i64 k ∧ wr = w) (fun _ ti _ => ps.length - (intOf ti).toNat)
  case atStart => exact ⟨0, Nat.zero_le _, by rw [← z0], rfl, rfl⟩
  case round =>
    clear z0
    obtain ⟨k, hk, rfl, rfl, rfl⟩ := hrel
    by_cases hlt : k < ps.length
    · have hlti : (k : Int) < (ps.length : Int) := by omega
      obtain ⟨b, off, rfl, hc⟩ := hs.at_ k hlt
      have hsg := hs.seg k hlt
      have hln := hs.len k hlt
      have HT : Hid (runW (runW o (flat (ps.take k))) (ps.getD k noPart).zs = runW o (flat (ps.take (k + 1)))) := by
        show _ = _
        rw [flat_snoc hlt, runW_append]
      generalize ps.getD k noPart = p at *
      obtain ⟨pa, pz, pc⟩ := p
      unfold Part.val at hc
      simp only at hc hsg hln HT
      go_wp2_with (go_at_call 21; refine (run_any _ _ _ _ _ hsg hln).mono ?_; rintro e w' ⟨rfl, hw'⟩; subst w')
      go_roundw
      case rel => exact ⟨k + 1, by omega, by rw [HT.out], by go_num, trivial⟩
      case measure => simp [intOf]; omega
    · obtain rfl : k = ps.length := by omega
      have e1 : ps.take ps.length = ps := List.take_of_length_le (Nat.le_refl _)
      rw [e1]
      clear hlt e1
      have hn := wI_not (runW o (flat ps))
      go_wp2
      go_ret
      exact ⟨by unfold sumW; rw [← HO.out]; rfl, rfl⟩

/-- Each part owns its bytes. -/
def Owned (w : World) (base : Nat) (qs : List Part) : Prop := ∀ i, i < qs.length → w.ownsRow base 5 1 (qs.getD i noPart).val (qs.getD i noPart).zs.length ((qs.getD i noPart).zs.map (Value.int .u8))
theorem Owned.old {w w' : World} {base : Nat} {qs : List Part} (h : Owned w base qs) (hb : Below w.heap.size w w') : Owned w' base qs := fun i hi => own_below (h i hi) hb
/-- Rows of two kinds lie in two blocks. -/
theorem own_apart {w : World} {b1 b2 n m : Nat} {e f : TypeId} {u v : Value} {xs ys : List Value} (h : w.ownsRow b1 e 1 u n xs) (k : w.ownsRow b2 f 1 v m ys) (hne : e ≠ f) : u.ownBlock = none ∨ u.ownBlock ≠ v.ownBlock := by
  rcases h.2 with ⟨rfl, _⟩ | ⟨g, cap, cur, rfl, _, hg, _⟩
  · exact .inl rfl
  · right
    intro he
    rcases k.2 with ⟨rfl, _⟩ | ⟨g', cap', cur', rfl, _, hg', _⟩
    · simp [Value.ownBlock] at he
    · simp [Value.ownBlock] at he
      subst he
      rw [hg] at hg'
      simp at hg'
      exact hne hg'.2
theorem Owned.kept {w w' : World} {base b2 m : Nat} {qs : List Part} {v : Value} {ys : List Value} {f : TypeId} (h : Owned w base qs) (k : w.ownsRow b2 f 1 v m ys) (hf : (5 : TypeId) ≠ f) (hg : w.grownBy w' v.ownBlock) : Owned w' base qs :=
  fun i hi => (h i hi).kept hg (own_apart (h i hi) k hf)
theorem getD_snoc (qs : List Part) (q : Part) (i : Nat) : (qs ++ [q]).getD i noPart = if i < qs.length then qs.getD i noPart else if i = qs.length then q else noPart := by
  by_cases h : i < qs.length
  · simp [List.getD, h, List.getElem?_append_left h]
  · by_cases e : i = qs.length
    · subst e; simp [List.getD]
    · have : qs.length + 1 ≤ i := by omega
      simp [List.getD, h, e, List.getElem?_eq_none (l := qs ++ [q]) (by simp; omega)]
theorem Owned.snoc {w : World} {base : Nat} {qs : List Part} {q : Part} (h : Owned w base qs) (hq : w.ownsRow base 5 1 q.val q.zs.length (q.zs.map (Value.int .u8))) : Owned w base (qs ++ [q]) := by
  intro i hi
  rw [getD_snoc]
  split
  · rename_i h1; exact h i h1
  · rename_i h1
    have : i = qs.length := by simp at hi; omega
    rw [if_pos this]
    exact hq
theorem own_kept_nil {w w' : World} {base n : Nat} {e : TypeId} {v : Value} {xs : List Value} (h : w.ownsRow base e 1 v n xs) (hg : w.grownBy w' (Value.slice none 0 0).ownBlock) : w'.ownsRow base e 1 v n xs :=
  h.kept hg (by cases hv : v.ownBlock with | none => exact .inl rfl | some g => exact .inr (by simp [Value.ownBlock]))
theorem owned_kept_nil {w w' : World} {base : Nat} {qs : List Part} (h : Owned w base qs) (hg : w.grownBy w' (Value.slice none 0 0).ownBlock) : Owned w' base qs := fun i hi => own_kept_nil (h i hi) hg
theorem info_sl : (Tryd.prog.info? 22).map (fun i => (i.zero, i.size, i.bytes)) = some (some (.slice none 0 0), 1, 24) := by kernel_rfl
theorem map_getD (ps : List Part) (i : Nat) : (ps.getD i noPart).zs = (ps.map (·.zs)).getD i [] := by
  by_cases h : i < ps.length
  · simp [List.getD, h]
  · simp [List.getD, List.getElem?_eq_none (Nat.le_of_not_lt h), noPart]

set_option maxHeartbeats 1000000 in
theorem twin_any (a : Option Addr) (ps : List Part) (cap : Nat) (w : World) (hs : Parts w a ps) (hok : ∀ i, (ps.getD i noPart).a = none → (ps.getD i noPart).cap = 0)
    (hl : ∀ i, (ps.getD i noPart).zs.length ≤ 140737488351232) (hp : ps.length * 24 ≤ 140737488351232) :
    Calls Tryd.prog 12 #[.slice a ps.length cap] w fun e w' => ∃ v, e = .returned v ∧ ∃ qs : List Part, w'.ownsRow w.heap.size 22 1 v qs.length (qs.map Part.val) ∧ Owned w' w.heap.size qs ∧ qs.map (·.zs) = ps.map (·.zs) ∧ Below w.heap.size w w' := by
  obtain ⟨i0, hi, hz0, hz1, hz2⟩ := info_parts info_u8z
  obtain ⟨j0, hj, hy0, hy1, hy2⟩ := info_parts info_sl
  go_enter Tryd.func12, Tryd.ntmps12
  go_wp2
  go_loopw [3, 4] (fun tl ti wr => ∃ (k : Nat) (qs : List Part), k ≤ ps.length ∧ ti = .int .i64 k ∧ wr.ownsRow w.heap.size 22 1 tl k (qs.map Part.val) ∧ Owned wr w.heap.size qs ∧ qs.map (·.zs) = (ps.take k).map (·.zs) ∧ Below w.heap.size w wr) (fun _ ti _ => ps.length - (intOf ti).toNat)
  case atStart => exact ⟨0, [], Nat.zero_le _, rfl, World.ownsRow_nil _ _ _ _, fun i h => by simp at h, by simp, Below.refl _ _⟩
  case round =>
    obtain ⟨k, qs, hk, rfl, hown, howned, hqs, hb⟩ := hrel
    have HQ : Hid (qs.map (·.zs) = (ps.take k).map (·.zs)) := hqs
    clear hqs
    have sr : Parts wr a ps := hs.old hb
    have hqk : qs.length = k := by
      have := congrArg List.length HQ.out
      simp at this
      omega
    by_cases hlt : k < ps.length
    · have hlti : (k : Int) < (ps.length : Int) := by omega
      obtain ⟨b, off, rfl, hcell⟩ := sr.at_ k hlt
      have hseg := sr.seg k hlt
      have hnk := hok k
      have hlk := hl k
      have HT : Hid ((ps.take (k + 1)).map (·.zs) = (ps.take k).map (·.zs) ++ [(ps.getD k noPart).zs]) := by
        show _ = _
        rw [List.take_add_one, List.getElem?_eq_getElem hlt, List.map_append, List.getD, List.getElem?_eq_getElem hlt]
        rfl
      generalize ps.getD k noPart = p at *
      obtain ⟨pa, pz, pc⟩ := p
      unfold Part.val at hcell
      simp only at hcell hseg hnk HT hlk
      have HK : Hid (qs.length = k) := hqk
      clear hqk
      go_wp2_with (first
        | (at_builtin; refine wpList_append_seg rfl (.const (.slice none 0 0)) (.tmp 15) 22 rfl w.heap.size 5 i0 (.int .u8 0) 1 Tryd.underlying22 hi hz0 hz1 hz2 rfl (World.ownsRow_nil _ _ _ _) hseg hnk rfl rfl (by omega) (by omega) hb.size ?_; intro v' w2 hown2 hg2 hb2; rw [List.nil_append, Nat.zero_add] at hown2; obtain ⟨hn1, b1, c1, hv1, q1, hn2, hn3, hn4⟩ := own_seg hown2 (M := 255) (by decide) hseg.mem; subst hv1; clear hn1 hn2 hn3 hn4 q1; have hown3 := own_kept_nil hown hg2; have howned3 := owned_kept_nil howned hg2)
        | (at_builtin; refine wpList_push rfl (.tmp 11) (.tmp 17) 28 rfl w.heap.size 22 j0 (.slice none 0 0) 24 Tryd.underlying28 hj hy0 hy1 hy2 rfl w2 (.slice b1 pz.length c1) rfl hown3 rfl rfl (by omega) (by omega) (hb.trans hb2).size ?_; intro v4 w4 hown4 hg4 hb4))
      go_roundw
      case rel => exact ⟨k + 1, qs ++ [⟨b1, pz, c1⟩], by omega, by go_num, by rw [List.map_append]; exact hown4, Owned.snoc (q := ⟨b1, pz, c1⟩) (howned3.kept hown3 (by decide) hg4) (hown2.kept hg4 (own_apart hown2 hown3 (by decide))), by rw [HT.out, List.map_append, HQ.out]; rfl, hb.trans (hb2.trans hb4)⟩
      case measure => simp [intOf]; omega
    · obtain rfl : k = ps.length := by omega
      have e1 : ps.take ps.length = ps := List.take_of_length_le (Nat.le_refl _)
      have HQ2 : Hid (qs.map (·.zs) = ps.map (·.zs)) := by
        show _ = _
        rw [HQ.out, e1]
      have HK : Hid (qs.length = ps.length) := hqk
      clear hlt e1 HQ hqk
      go_wp2
      go_ret
      exact ⟨_, rfl, qs, by rw [HK.out]; exact hown, howned, HQ2.out, hb⟩

/-- What a twin owns lies there. -/
theorem own_parts {w : World} {base : Nat} {v : Value} {qs : List Part} (h : w.ownsRow base 22 1 v qs.length (qs.map Part.val)) (ho : Owned w base qs) (hb : ∀ i, i < qs.length → ∀ z ∈ (qs.getD i noPart).zs, 0 ≤ z ∧ z ≤ 255) (hl : ∀ i, (qs.getD i noPart).zs.length ≤ 9223372036854775807) :
    ∃ a c, v = .slice a qs.length c ∧ Parts w a qs := by
  have hseg : ∀ i, i < qs.length → Seg w (qs.getD i noPart).a (qs.getD i noPart).zs := by
    intro i hi
    obtain ⟨_, b, c, hv, hs, _⟩ := own_seg (ho i hi) (M := 255) (by decide) (hb i hi)
    have h1 : (qs.getD i noPart).a = b := by
      unfold Part.val at hv
      injection hv
    rw [h1]
    exact hs
  rcases h.2 with ⟨rfl, hn⟩ | ⟨g, cap, cur, rfl, _, hh, _, _, _, ht⟩
  · have : qs = [] := List.eq_nil_of_length_eq_zero hn
    subst this
    exact ⟨none, 0, rfl, fun i h => by simp at h, fun i h => by simp at h, fun i h => by simp at h⟩
  · refine ⟨some ⟨g, 0, none⟩, cap, rfl, fun i hi => ⟨g, 0, rfl, ?_⟩, hseg, fun i _ => hl i⟩
    have := h.cells (g := g) rfl i (qs.getD i noPart).val (by simp [List.getD, hi])
    have hadd : (⟨g, 0, none⟩ : Addr).add i = ⟨g, 0 + i, none⟩ := by unfold Addr.add; split <;> simp_all
    rw [hadd] at this
    exact this

set_option maxHeartbeats 1000000 in
theorem sameP_any (a b : Option Addr) (ps qs : List Part) (ca cb : Nat) (w : World) (hp : Parts w a ps) (hq : Parts w b qs) (he : ps.map (·.zs) = qs.map (·.zs)) (hl : ps.length ≤ 9223372036854775807) :
    Calls Tryd.prog 13 #[.slice a ps.length ca, .slice b qs.length cb] w fun e w' => e = .returned (.bool true) ∧ Below w.heap.size w w' := by
  have HE : Hid (ps.map (·.zs) = qs.map (·.zs)) := he
  have hlen : qs.length = ps.length := by
    have := congrArg List.length he
    simpa using this.symm
  rw [hlen]
  have HL : Hid (qs.length = ps.length) := hlen
  clear he hlen
  go_enter Tryd.func13, Tryd.ntmps13
  go_wp2
  go_loopw [5] (fun ti wr => ∃ k : Nat, k ≤ ps.length ∧ ti = .int .i64 k ∧ Below w.heap.size w wr) (fun ti _ => ps.length - (intOf ti).toNat)
  case atStart => exact ⟨0, Nat.zero_le _, rfl, Below.refl _ _⟩
  case round =>
    obtain ⟨k, hk, rfl, hbw⟩ := hrel
    have pr := hp.old hbw
    have qr := hq.old hbw
    by_cases hlt : k < ps.length
    · have hlti : (k : Int) < (ps.length : Int) := by omega
      have hk0 : (0 : Int) ≤ (k : Int) := by omega
      obtain ⟨b1, o1, rfl, c1⟩ := pr.at_ k hlt
      obtain ⟨b2, o2, rfl, c2⟩ := qr.at_ k (by rw [HL.out]; exact hlt)
      have g1 := pr.seg k hlt
      have g2 := qr.seg k (by rw [HL.out]; exact hlt)
      have hzz : (qs.getD k noPart).zs = (ps.getD k noPart).zs := by rw [map_getD, map_getD, HE.out]
      generalize ps.getD k noPart = p at *
      generalize qs.getD k noPart = q at *
      obtain ⟨pa, pz, pc⟩ := p
      obtain ⟨qa, qz, qc⟩ := q
      unfold Part.val at c1 c2
      simp only at c1 c2 g1 g2 hzz
      subst hzz
      go_wp2
      go_region_held3 (fun w' => w'.cell? ⟨b1, o1 + k, none⟩ = some (.slice pa qz.length pc) ∧ w'.cell? ⟨b2, o2 + k, none⟩ = some (.slice qa qz.length qc)) (go_keep)
        (first | (go_at_call 16; refine (same_any _ _ _ _ _ _ _ g1.drew g2.drew).mono ?_; rintro e w3 ⟨rfl, hw3⟩; subst w3; rw [beq_self_eq_true]))
      have hb3 := hbw.drew
      go_wp2
      go_roundw
      case rel => exact ⟨k + 1, by omega, by go_num, hb3⟩
      case measure => simp [intOf]; omega
    · obtain rfl : k = ps.length := by omega
      clear hlt
      go_wp2
      go_ret
      exact ⟨by simp, hbw⟩

set_option maxHeartbeats 1000000 in
theorem crcSums_walk (w : World) (ht : Tab w) (a : Option Addr) (ps : List Part) (cap : Nat) (hs : Parts w a ps) (hok : ∀ i, (ps.getD i noPart).a = none → (ps.getD i noPart).cap = 0) (hc : ps.length ≤ cap) (hnil : a = none → cap = 0)
    (hl : ∀ i, (ps.getD i noPart).zs.length ≤ 140737488351232) (hp : ps.length * 24 ≤ 140737488351232) :
    Calls Tryd.prog 4 #[.slice a ps.length cap] w fun e w' => e = .returned (.bool true) ∧ Below w.heap.size w w' := by
  go_enter Tryd.func4, Tryd.ntmps4
  go_wp2_with fail
  refine (rsum_any a ps cap w hs (by omega)).mono ?_
  rintro e w' ⟨rfl, hw'⟩
  subst w'
  go_wp2_with fail
  refine (twin_any a ps cap w hs hok hl hp).mono ?_
  rintro e w1 ⟨v, rfl, qs, hown, howned, hq, hb⟩
  have hlen : qs.length = ps.length := by
    have := congrArg List.length hq
    simpa using this
  have hbd : ∀ i, i < qs.length → ∀ z ∈ (qs.getD i noPart).zs, 0 ≤ z ∧ z ≤ 255 := by
    intro i hi
    rw [map_getD, hq, ← map_getD]
    exact (hs.seg i (by omega)).mem
  have hlq : ∀ i, (qs.getD i noPart).zs.length ≤ 9223372036854775807 := by
    intro i
    rw [map_getD, hq, ← map_getD]
    have := hl i
    omega
  obtain ⟨a1, c1, rfl, q1⟩ := own_parts hown howned hbd hlq
  have t1 := ht.old hb
  have s1 := hs.old hb
  have HF : Hid (flat qs = flat ps) := by
    show _ = _
    unfold flat
    rw [hq]
  have HL : Hid (qs.length ≤ 9223372036854775807) := by
    show _ ≤ _
    omega
  have HQ : Hid (qs.map (·.zs) = ps.map (·.zs)) := hq
  clear hown howned hlen hbd hlq hq
  go_wp2_with fail
  refine (sum_any a1 qs c1 _ t1 q1 HL.out).mono ?_
  rintro e w' ⟨rfl, hw'⟩
  subst w'
  rw [HF.out]
  go_wp2_with fail
  refine (sum_any a1 qs c1 _ t1 q1 HL.out).mono ?_
  rintro e w' ⟨rfl, hw'⟩
  subst w'
  rw [HF.out]
  go_wp2_with fail
  refine (sameP_any a1 a qs ps c1 cap _ q1 s1 HQ.out HL.out).mono ?_
  rintro e w2 ⟨rfl, hb2⟩
  go_wp2
  go_ret
  exact ⟨rfl, hb.trans (hb2.mono hb.size)⟩
end Go.Proofs.YtnofaodahcfldaaDoor
