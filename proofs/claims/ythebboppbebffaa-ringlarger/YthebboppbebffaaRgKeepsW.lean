
import Derived.Test.YthebboppbebffaaRgRunsW
import Derived.Test.YthebboppbebffaaRgPart
namespace Go.Proofs.Ythebboppbebffaa
open Go.RowKit
set_option linter.unusedVariables false

set_option maxRecDepth 100000 in
theorem size6_any (n : Int) (h0 : 0 ≤ n) (h1 : n ≤ 18446744073709551615) : ∃ S : Nat, 1 ≤ S ∧ S ≤ 32768 ∧ ∀ w : World, Calls Try.prog 23 #[.int .u64 n] w fun e w' => e = .returned (.int .i64 (S : Int)) ∧ w' = w := by
  refine ⟨(1 + n % 32768).toNat, by omega, by omega, fun w => ?_⟩
  have h2 : n.tmod 32768 = n % 32768 := Int.tmod_eq_emod_of_nonneg h0
  have h3 : (((1 + n % 32768).toNat : Nat) : Int) = 1 + n % 32768 := by omega
  rw [h3]
  obtain ⟨m, hm⟩ : ∃ m, m = n % 32768 := ⟨_, rfl⟩
  have hm0 : 0 ≤ m := by omega
  have hm1 : m < 32768 := by omega
  rw [← hm] at h2 ⊢
  clear hm h3
  go_enter Try.func23, Try.ntmps23
  go_wp2
  go_ret
  exact ⟨by go_num, rfl⟩
/-- What stands at the head of a round: the ring, and all that was put in. -/
structure KpI (w wr : World) (b S B : Nat) (F : Nat → Prop) (v : Value) (L : List Int) : Prop where
  r : RP wr b F S L
  own : wr.ownsRow B 5 1 v L.length (L.map (Value.int .u8))
  bB : w.heap.size ≤ B
  dj : Dj F (OB v)
  bel : Below w.heap.size w wr
  new : ∀ k, F k → w.heap.size ≤ k
  nilv : L = [] → v = .slice none 0 0
theorem at_in {S : Nat} {L : List Int} {i : Nat} (h1 : 1 ≤ i) (h2 : i ≤ heldN S L) : atV S L (i : Int) = L.getD (L.length - i) 0 ∧ atE S L (i : Int) = 0 := by
  unfold atV atE
  rw [if_pos (by omega), if_pos (by omega)]
  exact ⟨by simp, rfl⟩
theorem at_out (S : Nat) (L : List Int) : atE S L ((heldN S L : Int) + 1) = 61 := by
  unfold atE
  rw [if_neg (by omega)]
theorem KpI.app {w wr w3 : World} {b S B : Nat} {F : Nat → Prop} {v v' : Value} {L L' : List Int} (h : KpI w wr b S B F v L) (ho : w3.ownsRow B 5 1 v' L'.length (L'.map (Value.int .u8))) (hg : wr.grownBy w3 v.ownBlock) (hf : Fresh wr v v') :
    RP w3 b F S L ∧ Dj F (OB v') ∧ Below w.heap.size w w3 := by
  have K : Kp (OB v) wr w3 := Kp.grown hg (fun i e => e)
  refine ⟨h.r.kp K h.dj, fun k e1 e2 => ?_, h.bel.trans (K.below (fun k e => by have := (h.own.lt k e).1; have := h.bB; omega) h.bel.size)⟩
  rcases hf k e2 with e | e
  · exact h.dj k e1 e
  · have := h.r.lt k e1; omega
set_option maxRecDepth 100000 in
set_option maxHeartbeats 4000000 in
theorem ringKeeps_walk (w : World) (n : Int) (h0 : 0 ≤ n) (h1 : n ≤ 18446744073709551615) (a : Option Addr) (ps : List Part) (cap : Nat) (hs : Parts w a ps) (hok : NilOk ps) (hc : ps.length ≤ cap) (hnil : a = none → cap = 0) (hl : (flat ps).length + ps.length + 1 ≤ 1048576) :
    Calls Try.prog 8 #[.int .u64 n, .slice a ps.length cap] w fun e w' => e = .returned (.bool true) ∧ Below w.heap.size w w' := by
  obtain ⟨i0, hi, hz0, hz1, hz2⟩ := info_parts info_u8r
  obtain ⟨S, s1, s2, CS⟩ := size6_any n h0 h1
  have HC := pnew_ok S s1 s2 w
  have HS : Hid (1 ≤ S ∧ S ≤ 32768) := ⟨s1, s2⟩
  have CS' := CS w
  clear CS h0 h1 s1 s2
  go_enter Try.func8, Try.ntmps8
  go_wp2_with fail
  refine CS'.mono ?_
  rintro e w' ⟨rfl, hw'⟩
  subst w'
  go_wp2_with fail
  refine HC.mono ?_
  rintro e w1 ⟨b, F, rfl, R1, B1, N1⟩
  go_wp2_with fail
  refine (awake6_any w1).mono ?_
  rintro e w2 ⟨rfl, B2⟩
  have z1 := B1.size
  have z2 := B2.size
  have I0 : KpI w w2 b S w2.heap.size F (.slice none 0 0) [] := ⟨R1.old B2, World.ownsRow_nil _ _ _ _, by omega, (fun k e1 e2 => by cases e2), B1.trans (B2.mono z1), N1, fun _ => rfl⟩
  clear R1 B1 N1 B2 CS' HC
  have hBn : w.heap.size ≤ w2.heap.size := by omega
  have hB2 : w2.heap.size ≤ w2.heap.size := Nat.le_refl _
  obtain ⟨B, hB⟩ : ∃ B, B = w2.heap.size := ⟨_, rfl⟩
  rw [← hB] at I0 hBn
  have HB2 : Hid (B ≤ w2.heap.size) := by show _ ≤ _; omega
  clear hB hB2 z1 z2
  have hpl : ps.length ≤ 1048576 := by omega
  go_wp2_with fail
  go_loopw [7, 8] (fun tl ti wr => ∃ (k : Nat) (F : Nat → Prop) (ra : Option Addr) (rc : Nat), k ≤ ps.length ∧ ti = .int .i64 (k : Int) ∧ tl = .slice ra (flat (ps.take k)).length rc ∧ KpI w wr b S B F (.slice ra (flat (ps.take k)).length rc) (flat (ps.take k)) ∧ B ≤ wr.heap.size) (fun _ ti _ => ps.length - (intOf ti).toNat)
  case atStart => exact ⟨0, F, none, 0, by omega, rfl, by simp [flat], by simpa [flat] using I0, HB2.out⟩
  case round =>
    obtain ⟨k, F', ra, rc, hk, rfl, rfl, I, hB⟩ := hrel
    clear I0 F
    have hle0 := flat_take_le ps k
    by_cases hlt : k < ps.length
    · have hlti : (k : Int) < (ps.length : Int) := by omega
      have sr : Parts wr a ps := hs.old I.bel
      obtain ⟨g, off, rfl, hcell⟩ := sr.at_ k hlt
      have hseg := sr.seg k hlt
      have hs0 := hs.seg k hlt
      have hnk := (hok k).1
      have hck := (hok k).2
      have HT : Hid (flat (ps.take (k + 1)) = flat (ps.take k) ++ (ps.getD k noPart).zs) := flat_snoc hlt
      have hle := flat_take_le ps (k + 1)
      rw [HT.out, List.length_append] at hle
      have HP0 : ∀ w', Below w.heap.size w w' → w'.cell? ⟨g, off + k, none⟩ = some (ps.getD k noPart).val ∧ Seg w' (ps.getD k noPart).a (ps.getD k noPart).zs := by
        intro w' hb'
        have s' := hs.old hb'
        obtain ⟨b', off', he, hc'⟩ := s'.at_ k hlt
        cases he
        exact ⟨hc', s'.seg k hlt⟩
      generalize ps.getD k noPart = p at *
      obtain ⟨pa, pz, pc⟩ := p
      unfold Part.val at hcell HP0
      simp only at hcell hseg hnk HT hle HP0 hs0 hck
      have HP : Hid (∀ w', Below w.heap.size w w' → w'.cell? ⟨g, off + k, none⟩ = some (.slice pa pz.length pc) ∧ Seg w' pa pz) := HP0
      clear HP0
      generalize flat (ps.take k) = L at *
      have hown := I.own
      go_wp2_with (at_builtin; refine wpList_appS rfl (.tmp 36) (.tmp 40) 34 rfl B 5 i0 (.int .u8 0) 1 Try.underlying34 hi hz0 hz1 hz2 rfl hown hseg hnk rfl rfl (by omega) (by omega) hB ?_; intro a3 k3 w3 own3 hg3 hf3 hn3; have HN3 : Hid (L ++ pz = [] → Value.slice a3 (L.length + pz.length) k3 = .slice none 0 0) := (fun h => hn3.2 ⟨I.nilv (List.append_eq_nil_iff.1 h).1, by rw [(List.append_eq_nil_iff.1 h).2]; rfl⟩); clear hn3; have own4 : w3.ownsRow B 5 1 (.slice a3 (L.length + pz.length) k3) (L ++ pz).length ((L ++ pz).map (Value.int .u8)) := (by rw [List.map_append, List.length_append]; exact own3); obtain ⟨R3, J3, b3⟩ := I.app own4 hg3 hf3; obtain ⟨c3, g3⟩ := HP.out w3 b3; have z3 := (Kp.grown (S := fun _ => True) hg3 (fun _ _ => trivial)).size; clear own3 hg3 hf3 hcell hseg hown sr)
      refine (pput_any pa pz pz.length pc rfl R3 g3 hck hnk (fun g off e h0 h1 => by have := hs0.lt g off e h0; have := I.new g h1; omega) (by omega)).mono ?_
      rintro e w4 ⟨rfl, F4, R4, K4, P4⟩
      have z4 := K4.size
      have I4 : KpI w w4 b S B F4 (.slice a3 (L.length + pz.length) k3) (L ++ pz) := by
        have hz := b3.size
        refine ⟨R4, own_kp own4 K4 (fun k e1 e2 => J3 k e2 e1), hBn, J3.fresh P4 (fun k e => (own4.lt k e).2), b3.trans (K4.below (fun k e => I.new k e) b3.size), (fun k e => ?_), HN3.out⟩
        rcases P4 k e with e | e
        · exact I.new k e
        · omega
      clear R3 J3 b3 c3 g3 own4 R4 K4 P4 I
      go_wp2_with fail
      go_roundw
      case rel => exact ⟨k + 1, F4, a3, k3, by omega, by go_num, by rw [HT.out, List.length_append], by rw [HT.out, List.length_append]; exact I4, by omega⟩
      case measure => simp [intOf]; omega
    · obtain rfl : k = ps.length := by omega
      rw [List.take_of_length_le (Nat.le_refl _)] at I ⊢
      generalize flat ps = L at *
      clear hs hok hle0
      have HBel : Hid (Below w.heap.size w wr) := I.bel
      have hN : L.length ≤ 1048576 := by omega
      have CHe : Hid (∀ W, Below wr.heap.size wr W → Calls Try.prog 16 #[.pointer (some ⟨b, 0, none⟩)] W fun e w' => e = .returned (.int .i64 (heldN S L : Int)) ∧ Below W.heap.size W w') := fun W hW => pheld_any (I.r.old hW) (by omega)
      have CRo : Hid (∀ W, Below wr.heap.size wr W → Calls Try.prog 22 #[.pointer (some ⟨b, 0, none⟩)] W fun e w' => e = .returned (.int .i64 (S : Int)) ∧ Below W.heap.size W w') := fun W hW => proom_any (I.r.old hW) (by omega)
      have CTo : Hid (∀ W, Below wr.heap.size wr W → Calls Try.prog 15 #[.pointer (some ⟨b, 0, none⟩)] W fun e w' => e = .returned (.int .i64 (L.length : Int)) ∧ Below W.heap.size W w') := fun W hW => ptotal_any (I.r.old hW) (by omega)
      have CAt : Hid (∀ W (d : Int), Below wr.heap.size wr W → Calls Try.prog 17 #[.pointer (some ⟨b, 0, none⟩), .int .i64 d] W fun e w' => e = .returned (.tuple #[.int .u8 (atV S L d), .int .i64 (atE S L d)]) ∧ Below W.heap.size W w') := fun W d hW => pat_any d (I.r.old hW) (by omega)
      have CLa : Hid (∀ W, Below wr.heap.size wr W → Calls Try.prog 19 #[.pointer (some ⟨b, 0, none⟩), .int .i64 (heldN S L : Int)] W fun e w' => ∃ oa oc, e = .returned (.tuple #[.slice oa (heldN S L) oc, .int .i64 0]) ∧ w'.ownsRow W.heap.size 5 1 (.slice oa (heldN S L) oc) (heldN S L) ((L.drop (L.length - heldN S L)).map (Value.int .u8)) ∧ Below W.heap.size W w') := fun W hW => plast_ok (heldN S L) (I.r.old hW) (by omega) (Nat.le_refl _)
      have HLb : Hid (∀ z ∈ L, 0 ≤ z ∧ z ≤ 255) := I.r.bd
      have HAo : Hid (atE S L ((heldN S L : Int) + 1) = 61) := at_out S L
      by_cases hL : L = []
      · have hv := I.nilv hL
        subst hL
        simp only [Value.slice.injEq] at hv
        obtain ⟨rfl, _, rfl⟩ := hv
        have e0 : heldN S [] = 0 := by simp [heldN]
        rw [e0] at CHe CLa HAo
        have HSp : ¬ (S : Int) < 0 := by omega
        clear I
        rw [List.length_nil] at CTo ⊢
        go_wp2_with fail
        refine (CHe.out wr (Below.refl _ _)).mono ?_
        rintro e w5 ⟨rfl, B5⟩
        go_wp2_with fail
        refine (CRo.out w5 B5).mono ?_
        rintro e w6 ⟨rfl, B6'⟩
        have B6 := B5.trans (B6'.mono B5.size)
        clear B5 B6'
        go_wp2_with fail
        refine (CTo.out w6 B6).mono ?_
        rintro e w7 ⟨rfl, B7'⟩
        have B7 := B6.trans (B7'.mono B6.size)
        clear B6 B7'
        go_wp2_with fail
        refine (CLa.out w7 B7).mono ?_
        rintro e w8 ⟨oa, oc, rfl, O8, B8'⟩
        have B8 := B7.trans (B8'.mono B7.size)
        have CS := same6_any oa none [] [] oc 0 w8 (SegK.nil (by decide) _ _) (SegK.nil (by decide) _ _)
        rw [List.length_nil] at CS
        clear B7 B8' O8
        go_wp2_with fail
        refine CS.mono ?_
        rintro e w9 ⟨rfl, hw9⟩
        subst w9
        have HA1 : Hid (atE S [] 1 = 61) := HAo.out
        clear CS HAo
        go_wp2_with fail
        go_loopw [11] (fun ti wq => ti = .int .i64 1 ∧ Below wr.heap.size wr wq) (fun _ _ => 0)
        case atStart => exact ⟨rfl, B8⟩
        case round =>
          rename_i wq _
          obtain ⟨rfl, BQ⟩ := hrel
          go_wp2_with fail
          refine (CAt.out _ 1 BQ).mono ?_
          rintro e w10 ⟨rfl, B10⟩
          rw [HA1.out]
          go_wp2_with fail
          go_ret
          have b10 := BQ.trans (B10.mono BQ.size)
          exact ⟨rfl, HBel.out.trans (b10.mono HBel.out.size)⟩
      · obtain ⟨g, rc', hv, hrc, hgB, hgl⟩ := own_shape I.own (List.length_pos_iff.2 hL)
        simp only [Value.slice.injEq] at hv
        obtain ⟨rfl, _, rfl⟩ := hv
        obtain ⟨q5, a5', k5', hv5, s5, _⟩ := own_seg I.own (M := 255) (by decide) HLb.out
        cases hv5
        have OW := I.own
        have hpos : 0 < L.length := List.length_pos_iff.2 hL
        have hH1 : 1 ≤ heldN S L := by have := HS.out; unfold heldN; omega
        have hH2 : heldN S L ≤ L.length := heldN_le S L
        have hH3 : heldN S L ≤ S := by unfold heldN; omega
        have hH4 : heldN S L < L.length → heldN S L = S := by unfold heldN; omega
        have HIn : Hid (∀ i : Nat, 1 ≤ i → i ≤ heldN S L → atV S L (i : Int) = L.getD (L.length - i) 0 ∧ atE S L (i : Int) = 0) := fun i h1 h2 => at_in h1 h2
        have HOc : Hid (∀ W, Below wr.heap.size wr W → ∀ i, i < L.length → W.cell? ⟨g, i, none⟩ = some (.int .u8 (L.getD i 0))) := fun W hW i hi => own_cellB (own_kp OW (Kp.of_below (S := fun _ => False) hW) (fun _ _ e => e)) hi
        have HSg : Hid (∀ W, Below wr.heap.size wr W → Seg W (some ⟨g, 0 + (L.length - heldN S L), none⟩) (L.drop (L.length - heldN S L))) := fun W hW => (s5.drop _).old hW
        have HDl : Hid ((L.drop (L.length - heldN S L)).length = heldN S L) := by show _ = _; rw [List.length_drop]; omega
        clear I s5 OW q5
        generalize heldN S L = H at *
        obtain ⟨N, hNe⟩ : ∃ N, N = L.length := ⟨_, rfl⟩
        have HLN : Hid (L.length = N) := hNe.symm
        rw [← hNe] at hrc hpos hH2 hH4 HIn HOc HSg HDl CLa CTo hl hN ⊢
        clear hNe
        obtain ⟨D, hD⟩ : ∃ D, D = N - H := ⟨_, rfl⟩
        rw [← hD] at HSg HDl CLa
        have hDi : (N : Int) - (H : Int) = (D : Int) := by omega
        have hne : ¬ rc = D := by omega
        have hDN : D ≤ N := by omega
        have HDe : Hid (D = N - H) := hD
        have hND : N - D = H := by omega
        rw [Nat.zero_add] at HSg
        have hgt : ¬ (N : Int) < (H : Int) := by omega
        have hgs : ¬ (S : Int) < (H : Int) := by omega
        clear hD
        generalize wr = wA at *
        by_cases hc2 : H < N
        · have hc2i : (H : Int) < (N : Int) := by omega
          obtain rfl := hH4 hc2
          clear hH4
          go_wp2_with fail
          refine (CHe.out wA (Below.refl _ _)).mono ?_
          rintro e w5 ⟨rfl, B5⟩
          go_wp2_with fail
          refine (CRo.out w5 B5).mono ?_
          rintro e w6 ⟨rfl, B6'⟩
          have B6 := B5.trans (B6'.mono B5.size)
          clear B5 B6'
          go_wp2_with fail
          refine (CRo.out w6 B6).mono ?_
          rintro e w6b ⟨rfl, B6''⟩
          have B6b := B6.trans (B6''.mono B6.size)
          clear B6 B6''
          go_wp2_with fail
          refine (CTo.out w6b B6b).mono ?_
          rintro e w7 ⟨rfl, B7'⟩
          have B7 := B6b.trans (B7'.mono B6b.size)
          clear B6b B7'
          go_wp2_with fail
          refine (CLa.out w7 B7).mono ?_
          rintro e w8 ⟨oa, oc, rfl, O8, B8'⟩
          have B8 := B7.trans (B8'.mono B7.size)
          obtain ⟨q8, a8', k8', hv8, s8, _⟩ := own_seg O8 (M := 255) (by decide) (fun z hz => HLb.out z (List.mem_of_mem_drop hz))
          cases hv8
          have CS := same6_any oa (some ⟨g, D, none⟩) (L.drop D) (L.drop D) oc (rc - D) w8 s8 (HSg.out w8 B8)
          rw [HDl.out, show (L.drop D == L.drop D) = true by simp] at CS
          clear B7 B8' O8 q8 s8
          go_wp2_with fail
          refine CS.mono ?_
          rintro e w9 ⟨rfl, hw9⟩
          subst w9
          clear CS
          go_wp2_with fail
          go_loopw [11] (fun ti wq => ∃ i : Nat, 1 ≤ i ∧ i ≤ H + 1 ∧ ti = .int .i64 (i : Int) ∧ Below wA.heap.size wA wq) (fun ti _ => H + 1 - (intOf ti).toNat)
          case atStart => exact ⟨1, by omega, by omega, rfl, B8⟩
          case round =>
            obtain ⟨i, hi1, hi2, rfl, BQ⟩ := hrel
            by_cases hiH : i ≤ H
            · have hii : (i : Int) ≤ (H : Int) := by omega
              obtain ⟨m, hm⟩ : ∃ m, m = N - i := ⟨_, rfl⟩
              have hmi : (N : Int) - (i : Int) = (m : Int) := by omega
              have hmN : m < N := by omega
              have hmNi : (m : Int) < (N : Int) := by omega
              have CA := CAt.out _ (i : Int) BQ
              rw [(HIn.out i hi1 hiH).1, (HIn.out i hi1 hiH).2, ← hm] at CA
              have HOm : Hid (∀ W, Below wA.heap.size wA W → W.cell? ⟨g, m, none⟩ = some (.int .u8 (L.getD m 0))) := fun W hW => HOc.out W hW m hmN
              generalize L.getD m 0 = zz at *
              clear hm
              go_wp2_with fail
              refine CA.mono ?_
              rintro e w10 ⟨rfl, B10⟩
              have b10 := BQ.trans (B10.mono BQ.size)
              have c10 := HOm.out w10 b10
              clear BQ B10 CA
              go_wp2_with fail
              go_roundw
              case rel => exact ⟨i + 1, by omega, by omega, by go_num, b10⟩
              case measure => simp [intOf]; omega
            · have hie : i = H + 1 := by omega
              have hii : ¬ (i : Int) ≤ (H : Int) := by omega
              clear hie
              go_wp2_with fail
              refine (CAt.out _ ((H : Int) + 1) BQ).mono ?_
              rintro e w10 ⟨rfl, B10⟩
              rw [HAo.out]
              go_wp2_with fail
              go_ret
              have b10 := BQ.trans (B10.mono BQ.size)
              exact ⟨rfl, HBel.out.trans (b10.mono HBel.out.size)⟩
        · have hc2i : ¬ (H : Int) < (N : Int) := by omega
          clear hH4 
          go_wp2_with fail
          refine (CHe.out wA (Below.refl _ _)).mono ?_
          rintro e w5 ⟨rfl, B5⟩
          go_wp2_with fail
          refine (CRo.out w5 B5).mono ?_
          rintro e w6 ⟨rfl, B6'⟩
          have B6 := B5.trans (B6'.mono B5.size)
          clear B5 B6'
          go_wp2_with fail
          refine (CTo.out w6 B6).mono ?_
          rintro e w7 ⟨rfl, B7'⟩
          have B7 := B6.trans (B7'.mono B6.size)
          clear B6 B7'
          go_wp2_with fail
          refine (CLa.out w7 B7).mono ?_
          rintro e w8 ⟨oa, oc, rfl, O8, B8'⟩
          have B8 := B7.trans (B8'.mono B7.size)
          obtain ⟨q8, a8', k8', hv8, s8, _⟩ := own_seg O8 (M := 255) (by decide) (fun z hz => HLb.out z (List.mem_of_mem_drop hz))
          cases hv8
          have CS := same6_any oa (some ⟨g, D, none⟩) (L.drop D) (L.drop D) oc (rc - D) w8 s8 (HSg.out w8 B8)
          rw [HDl.out, show (L.drop D == L.drop D) = true by simp] at CS
          clear B7 B8' O8 q8 s8
          go_wp2_with fail
          refine CS.mono ?_
          rintro e w9 ⟨rfl, hw9⟩
          subst w9
          clear CS
          go_wp2_with fail
          go_loopw [11] (fun ti wq => ∃ i : Nat, 1 ≤ i ∧ i ≤ H + 1 ∧ ti = .int .i64 (i : Int) ∧ Below wA.heap.size wA wq) (fun ti _ => H + 1 - (intOf ti).toNat)
          case atStart => exact ⟨1, by omega, by omega, rfl, B8⟩
          case round =>
            obtain ⟨i, hi1, hi2, rfl, BQ⟩ := hrel
            by_cases hiH : i ≤ H
            · have hii : (i : Int) ≤ (H : Int) := by omega
              obtain ⟨m, hm⟩ : ∃ m, m = N - i := ⟨_, rfl⟩
              have hmi : (N : Int) - (i : Int) = (m : Int) := by omega
              have hmN : m < N := by omega
              have hmNi : (m : Int) < (N : Int) := by omega
              have CA := CAt.out _ (i : Int) BQ
              rw [(HIn.out i hi1 hiH).1, (HIn.out i hi1 hiH).2, ← hm] at CA
              have HOm : Hid (∀ W, Below wA.heap.size wA W → W.cell? ⟨g, m, none⟩ = some (.int .u8 (L.getD m 0))) := fun W hW => HOc.out W hW m hmN
              generalize L.getD m 0 = zz at *
              clear hm
              go_wp2_with fail
              refine CA.mono ?_
              rintro e w10 ⟨rfl, B10⟩
              have b10 := BQ.trans (B10.mono BQ.size)
              have c10 := HOm.out w10 b10
              clear BQ B10 CA
              go_wp2_with fail
              go_roundw
              case rel => exact ⟨i + 1, by omega, by omega, by go_num, b10⟩
              case measure => simp [intOf]; omega
            · have hie : i = H + 1 := by omega
              have hii : ¬ (i : Int) ≤ (H : Int) := by omega
              clear hie
              go_wp2_with fail
              refine (CAt.out _ ((H : Int) + 1) BQ).mono ?_
              rintro e w10 ⟨rfl, B10⟩
              rw [HAo.out]
              go_wp2_with fail
              go_ret
              have b10 := BQ.trans (B10.mono BQ.size)
              exact ⟨rfl, HBel.out.trans (b10.mono HBel.out.size)⟩
end Go.Proofs.Ythebboppbebffaa
