
import Derived.Test.YtoeabfcnfofbiaaDoorHdR5
namespace Go.Proofs.YtoeabfcnfofbiaaDoor
open Go.RowKit
set_option linter.unusedVariables false

/-! The document's order, short. -/
def ord8 : List Int := [16, 17, 18, 0, 8, 7, 9, 6, 10, 5, 11, 4, 12, 3, 13, 2, 14, 1, 15]
set_option maxRecDepth 100000 in
theorem rorder8 (w : World) : Calls Tryd.prog 49 #[] w fun e w' => e = .returned (.slice (some ⟨w.heap.size, 0, none⟩) 19 19) ∧ w' = w.alloc (.cells (ord8.map (Value.int .i64)).toArray 3) := by
  go_enter Tryd.func49, Tryd.ntmps49
  go_wp2_with fail
  go_ret
  exact ⟨rfl, rfl⟩
/-- How many are left of the first n, without the noughts at their end. -/
def cut8 (zs : List Int) : Nat → Nat
  | 0 => 0
  | n + 1 => if zs.getD n 0 = 0 then cut8 zs n else n + 1
theorem cut8_le (zs : List Int) : ∀ n, cut8 zs n ≤ n
  | 0 => Nat.le_refl _
  | n + 1 => by
    rw [cut8]
    split
    · have := cut8_le zs n; omega
    · omega
def sht8 (zs : List Int) (k : Nat) : List Int := zs.take (cut8 zs zs.length) ++ List.replicate (k - cut8 zs zs.length) 0
def ShQ (w : World) (ty : TypeId) (l : List Int) (e : Ending) (w' : World) : Prop := ∃ oa oc, e = .returned (.slice oa l.length oc) ∧ w'.ownsRow w.heap.size ty 1 (.slice oa l.length oc) l.length (l.map (Value.int .i64)) ∧ Below w.heap.size w w'
def lenOfS : Value → Nat
  | .slice _ n _ => n
  | _ => 0
set_option maxRecDepth 100000 in
set_option maxHeartbeats 4000000 in
theorem rshort8 (zs : List Int) (k : Nat) (a : Option Addr) (n cap : Nat) (hn : Hid (zs.length = n)) (w : World) (hs : SegZ w a zs) (hnil : a = none → cap = 0) (hcap : n ≤ cap) (hl : n ≤ 1073741824) (hk : k ≤ 1073741824) :
    Calls Tryd.prog 47 #[.slice a n cap, .int .i64 (k : Int)] w (ShQ w 3 (sht8 zs k)) := by
  obtain ⟨i0, hi, hz0, hz1, hz2⟩ := info_parts info_int
  have HS : Hid (SegZ w a zs) := hs
  clear hs
  go_enter Tryd.func47, Tryd.ntmps47
  go_wp2_with fail
  go_loopw [5] (fun tn wr => ∃ j : Nat, j ≤ n ∧ tn = .int .i64 (j : Int) ∧ Hid (cut8 zs zs.length = cut8 zs j) ∧ wr = w) (fun tn _ => (intOf tn).toNat)
  case atStart => exact ⟨n, by omega, rfl, (by rw [hn.out] : _ = _), rfl⟩
  case round =>
    obtain ⟨j, hjn, rfl, HC, hwr⟩ := hrel
    subst hwr
    by_cases hgo : 0 < j ∧ zs.getD (j - 1) 0 = 0
    · obtain ⟨hj0, hz⟩ := hgo
      obtain ⟨j, rfl⟩ : ∃ j', j = j' + 1 := ⟨j - 1, by omega⟩
      rw [Nat.add_sub_cancel] at hz
      obtain ⟨b, off, rfl, c0⟩ := (show SegZ wr a zs from HS.out).at_ j (by rw [hn.out]; omega)
      rw [hz] at c0
      have HC2 : Hid (cut8 zs zs.length = cut8 zs j) := by show _ = _; rw [HC.out, cut8, if_pos hz]
      have hj1 : 0 < ((j + 1 : Nat) : Int) := by omega
      clear HC hz
      go_wp2_with fail
      go_roundw
      case rel => exact ⟨j, by omega, by go_num, HC2, trivial⟩
      case measure => simp [intOf]
    · have hst : j = 0 ∨ (0 < j ∧ ¬ zs.getD (j - 1) 0 = 0) := by
        by_cases h : 0 < j
        · exact .inr ⟨h, fun e => hgo ⟨h, e⟩⟩
        · exact .inl (by omega)
      have HJ : Hid (cut8 zs zs.length = j) := by
        show _ = _
        rw [HC.out]
        rcases hst with rfl | ⟨h, hz⟩
        · rfl
        · obtain ⟨j, rfl⟩ : ∃ j', j = j' + 1 := ⟨j - 1, by omega⟩
          rw [Nat.add_sub_cancel] at hz
          rw [cut8, if_neg hz]
      have HLT : Hid ((zs.take j).length = j) := by show _ = _; rw [List.length_take, hn.out]; omega
      have HSH : Hid (sht8 zs k = zs.take j ++ List.replicate (k - j) 0) := by show _ = _; unfold sht8; rw [HJ.out]
      have hm0 : (wr.alloc (.cells #[] 3)).ownsRow wr.heap.size 3 1 (.slice (some ⟨wr.heap.size, 0, none⟩) 0 0) 0 [] := World.ownsRow_made wr #[] 0 (Nat.le_refl _) (by decide) rfl
      have hb0 : Below wr.heap.size wr (wr.alloc (.cells #[] 3)) := (Below.refl _ _).alloc (Nat.le_refl _) _
      have HS2 : Hid (SegZ (wr.alloc (.cells #[] 3)) a (zs.take j)) := ((show SegZ wr a zs from HS.out).take j).alloc _
      have hjc : (j : Int) ≤ (cap : Int) := by omega
      have HCE : Hid (0 < j ∧ ¬ zs.getD (j - 1) 0 = 0 → ∃ b off c, a = some ⟨b, off, none⟩ ∧ (c == (0 : Int)) = false ∧ wr.cell? ⟨b, off + (j - 1), none⟩ = some (.int .i64 c)) := fun h => by
        obtain ⟨b, off, ha, c0⟩ := (show SegZ wr a zs from HS.out).at_ (j - 1) (by rw [hn.out]; omega)
        exact ⟨b, off, _, ha, by simpa using h.2, c0⟩
      clear HC HJ hgo HS
      rcases hst with rfl | h
      · cases a with
        | none =>
          have hc0 := hnil rfl
          subst hc0
          clear HCE
          go_wp2_with (at_builtin; refine wpList_appZ rfl (.tmp 21) (.tmp 24) 22 rfl wr.heap.size 3 i0 (.int .i64 0) 8 Tryd.underlying22 hi hz0 hz1 hz2 rfl hm0 HS2.out (fun _ => rfl) rfl (by rw [HLT.out]; rfl) (by rw [HLT.out]; omega) (by rw [HLT.out]; omega) (by simp) ?_; intro oa2 oc2 w2 O2 hg2 hf2 hn2; have b2 := hb0.trans (below_own hm0 hg2 (by simp)); clear hf2 hn2 hg2; rw [Nat.zero_add, List.nil_append, HLT.out] at O2; rw [Nat.zero_add, HLT.out])
          clear hm0 hb0 HS2
          go_loopw [6] (fun to wq => ∃ (m oc : Nat) (oa : Option Addr), 0 ≤ m ∧ (m ≤ k ∨ m = 0) ∧ to = .slice oa m oc ∧ wq.ownsRow wr.heap.size 3 1 (.slice oa m oc) m ((zs.take (0) ++ List.replicate (m - (0)) 0).map (Value.int .i64)) ∧ Below wr.heap.size wr wq) (fun to _ => k - (lenOfS to))
          case atStart => exact ⟨0, oc2, oa2, by omega, .inr rfl, rfl, by rw [Nat.sub_self, List.replicate_zero, List.append_nil]; exact O2, b2⟩
          case round =>
            clear O2 b2
            obtain ⟨m, oc, oa, hm1, hm2, rfl, OX, BX⟩ := hrel
            have hsz := BX.size
            by_cases hmk : m < k
            · have hmki : (m : Int) < (k : Int) := by omega
              go_wp2_with (first | (at_builtin; refine wpList_appI rfl (.tmp 30) (.tmp 31) 22 rfl _ 3 i0 (.int .i64 0) 8 Tryd.underlying22 hi hz0 hz1 hz2 rfl _ _ OX rfl rfl (by omega) (by omega) hsz ?_; intro ga gc w3 own3 hk3 hat3))
              have B3 := BX.trans (hk3.below (fun q e => (OX.lt q e).1) hsz)
              rw [List.append_assoc, ← List.replicate_succ', show m - (0) + 1 = m + 1 - (0) by omega] at own3
              clear hk3 hat3 OX
              go_roundw
              case rel => exact ⟨m + 1, gc, _, by omega, .inl (by omega), rfl, own3, B3⟩
              case measure => simp [lenOfS]; omega
            · have hmki : ¬ (m : Int) < (k : Int) := by omega
              have HE : Hid (sht8 zs k = zs.take (0) ++ List.replicate (m - (0)) 0) := by show _ = _; rw [HSH.out, show k - (0) = m - (0) by omega]
              have HL : Hid ((sht8 zs k).length = m) := by show _ = _; rw [HE.out, List.length_append, HLT.out, List.length_replicate]; omega
              rw [← HE.out] at OX
              go_wp2_with fail
              go_ret
              refine ⟨oa, oc, ?_, ?_, BX⟩
              · rw [HL.out]; rfl
              · rw [HL.out]; exact OX
        | some x =>
          clear HCE
          go_wp2_with (at_builtin; refine wpList_appZ rfl (.tmp 21) (.tmp 24) 22 rfl wr.heap.size 3 i0 (.int .i64 0) 8 Tryd.underlying22 hi hz0 hz1 hz2 rfl hm0 HS2.out (by intro h; cases h) rfl (by rw [HLT.out]; rfl) (by rw [HLT.out]; omega) (by rw [HLT.out]; omega) (by simp) ?_; intro oa2 oc2 w2 O2 hg2 hf2 hn2; have b2 := hb0.trans (below_own hm0 hg2 (by simp)); clear hf2 hn2 hg2; rw [Nat.zero_add, List.nil_append, HLT.out] at O2; rw [Nat.zero_add, HLT.out])
          clear hm0 hb0 HS2
          go_loopw [6] (fun to wq => ∃ (m oc : Nat) (oa : Option Addr), 0 ≤ m ∧ (m ≤ k ∨ m = 0) ∧ to = .slice oa m oc ∧ wq.ownsRow wr.heap.size 3 1 (.slice oa m oc) m ((zs.take (0) ++ List.replicate (m - (0)) 0).map (Value.int .i64)) ∧ Below wr.heap.size wr wq) (fun to _ => k - (lenOfS to))
          case atStart => exact ⟨0, oc2, oa2, by omega, .inr rfl, rfl, by rw [Nat.sub_self, List.replicate_zero, List.append_nil]; exact O2, b2⟩
          case round =>
            clear O2 b2
            obtain ⟨m, oc, oa, hm1, hm2, rfl, OX, BX⟩ := hrel
            have hsz := BX.size
            by_cases hmk : m < k
            · have hmki : (m : Int) < (k : Int) := by omega
              go_wp2_with (first | (at_builtin; refine wpList_appI rfl (.tmp 30) (.tmp 31) 22 rfl _ 3 i0 (.int .i64 0) 8 Tryd.underlying22 hi hz0 hz1 hz2 rfl _ _ OX rfl rfl (by omega) (by omega) hsz ?_; intro ga gc w3 own3 hk3 hat3))
              have B3 := BX.trans (hk3.below (fun q e => (OX.lt q e).1) hsz)
              rw [List.append_assoc, ← List.replicate_succ', show m - (0) + 1 = m + 1 - (0) by omega] at own3
              clear hk3 hat3 OX
              go_roundw
              case rel => exact ⟨m + 1, gc, _, by omega, .inl (by omega), rfl, own3, B3⟩
              case measure => simp [lenOfS]; omega
            · have hmki : ¬ (m : Int) < (k : Int) := by omega
              have HE : Hid (sht8 zs k = zs.take (0) ++ List.replicate (m - (0)) 0) := by show _ = _; rw [HSH.out, show k - (0) = m - (0) by omega]
              have HL : Hid ((sht8 zs k).length = m) := by show _ = _; rw [HE.out, List.length_append, HLT.out, List.length_replicate]; omega
              rw [← HE.out] at OX
              go_wp2_with fail
              go_ret
              refine ⟨oa, oc, ?_, ?_, BX⟩
              · rw [HL.out]; rfl
              · rw [HL.out]; exact OX
      · obtain ⟨b, off, c, rfl, hcb, c0⟩ := HCE.out h
        obtain ⟨j, rfl⟩ : ∃ j', j = j' + 1 := ⟨j - 1, by omega⟩
        rw [Nat.add_sub_cancel] at c0
        clear HCE h
        have hj1 : 0 < ((j + 1 : Nat) : Int) := by omega
        go_wp2_with (at_builtin; refine wpList_appZ rfl (.tmp 21) (.tmp 24) 22 rfl wr.heap.size 3 i0 (.int .i64 0) 8 Tryd.underlying22 hi hz0 hz1 hz2 rfl hm0 HS2.out (by intro h; cases h) rfl (by rw [HLT.out]; rfl) (by rw [HLT.out]; omega) (by rw [HLT.out]; omega) (by simp) ?_; intro oa2 oc2 w2 O2 hg2 hf2 hn2; have b2 := hb0.trans (below_own hm0 hg2 (by simp)); clear hf2 hn2 hg2; rw [Nat.zero_add, List.nil_append, HLT.out] at O2; rw [Nat.zero_add, HLT.out])
        clear hm0 hb0 HS2
        go_loopw [6] (fun to wq => ∃ (m oc : Nat) (oa : Option Addr), j + 1 ≤ m ∧ (m ≤ k ∨ m = j + 1) ∧ to = .slice oa m oc ∧ wq.ownsRow wr.heap.size 3 1 (.slice oa m oc) m ((zs.take (j + 1) ++ List.replicate (m - (j + 1)) 0).map (Value.int .i64)) ∧ Below wr.heap.size wr wq) (fun to _ => k - (lenOfS to))
        case atStart => exact ⟨j + 1, oc2, oa2, by omega, .inr rfl, rfl, by rw [Nat.sub_self, List.replicate_zero, List.append_nil]; exact O2, b2⟩
        case round =>
          clear O2 b2
          obtain ⟨m, oc, oa, hm1, hm2, rfl, OX, BX⟩ := hrel
          have hsz := BX.size
          by_cases hmk : m < k
          · have hmki : (m : Int) < (k : Int) := by omega
            go_wp2_with (first | (at_builtin; refine wpList_appI rfl (.tmp 30) (.tmp 31) 22 rfl _ 3 i0 (.int .i64 0) 8 Tryd.underlying22 hi hz0 hz1 hz2 rfl _ _ OX rfl rfl (by omega) (by omega) hsz ?_; intro ga gc w3 own3 hk3 hat3))
            have B3 := BX.trans (hk3.below (fun q e => (OX.lt q e).1) hsz)
            rw [List.append_assoc, ← List.replicate_succ', show m - (j + 1) + 1 = m + 1 - (j + 1) by omega] at own3
            clear hk3 hat3 OX
            go_roundw
            case rel => exact ⟨m + 1, gc, _, by omega, .inl (by omega), rfl, own3, B3⟩
            case measure => simp [lenOfS]; omega
          · have hmki : ¬ (m : Int) < (k : Int) := by omega
            have HE : Hid (sht8 zs k = zs.take (j + 1) ++ List.replicate (m - (j + 1)) 0) := by show _ = _; rw [HSH.out, show k - (j + 1) = m - (j + 1) by omega]
            have HL : Hid ((sht8 zs k).length = m) := by show _ = _; rw [HE.out, List.length_append, HLT.out, List.length_replicate]; omega
            rw [← HE.out] at OX
            go_wp2_with fail
            go_ret
            refine ⟨oa, oc, ?_, ?_, BX⟩
            · rw [HL.out]; rfl
            · rw [HL.out]; exact OX
end Go.Proofs.YtoeabfcnfofbiaaDoor
