import Derived.Test.YtodioefbfchckaaProg
import Derived.Test.YtodioefbfchckaaPn
import Derived.Test.YtodioefbfchckaaPh
import Derived.Test.YtodioefbfchckaaPk
import Derived.Test.YtodioefbfchckaaPa
import Derived.WalkKit
import Derived.WalkSpells
import Derived.WalkLawsBesides
namespace Go.Proofs.Ytodioefbfchckaa
open Go.RowKit
set_option linter.unusedVariables false

set_option maxRecDepth 100000 in
set_option maxHeartbeats 400000 in
theorem read_any (a : Option Addr) (zs : List Int) (cap : Nat) (w : World) (hs : Seg w a zs) (hl : zs.length ≤ 140737488355328) (hcap : zs.length ≤ cap) :
    Calls Try.prog 54 #[.slice a zs.length cap] w fun e w' => e = .returned (.tuple #[.int .u64 (decL 0 0 zs).1, .int .i64 (decL 0 0 zs).2.1, .int .i64 (decL 0 0 zs).2.2]) ∧ w' = w := by
  go_enter Try.func54, Try.ntmps54
  go_wp2
  go_loop [5] (fun i => ∃ k : Nat, k ≤ zs.length ∧ i = .int .i64 k ∧ k ≤ 9 ∧ decL 0 0 zs = decL (valL (zs.take k)) k (zs.drop k)) (fun i => zs.length - (intOf i).toNat)
  case atStart => exact ⟨0, Nat.zero_le _, rfl, by omega, by simp [valL]⟩
  case round =>
    obtain ⟨k, hk, rfl, hk9, hd⟩ := hrel
    by_cases hlt : k < zs.length
    · obtain ⟨b, off, rfl, hcell⟩ := hs.at_ k hlt
      have hx := hs.bd k
      have hv1 := valL_lt (zs.take k)
      have hv0 := valL_pos (zs.take k)
      have ht : (zs.take k).length = k := by simp; omega
      rw [ht] at hv1
      have hst := hs.take (k + 1)
      have ht1 : (zs.take (k + 1)).length = k + 1 := by simp; omega
      have HV : Hid (valL (zs.take (k + 1)) = tkVal (valL (zs.take k)) k (zs.getD k 0)) := valL_take zs k hlt
      rw [drop_cons hlt] at hd
      generalize zs.getD k 0 = x at *
      have hki : (k : Int) + 1 ≤ (cap : Int) := by omega
      by_cases he : tkErr k x = 0
      · have hne : (tkErr k x != 0) = false := by simp [he]
        have hbd := tkVal_bd (valL (zs.take k)) k x hv0 hv1 (by omega)
        by_cases h7 : x < 128
        · have HD : Hid (decL 0 0 zs = (tkVal (valL (zs.take k)) k x, (k : Int) + 1, 0)) := by rw [hd]; show decL _ k _ = _; simp [decL, he, h7]
          have hfit : valL (zs.take (k + 1)) ≤ 18446744073709551615 := by
            rw [HV.out]
            have := tk_fits k x hk9 (by omega) (tkErr_nine he)
            unfold tkVal
            omega
          clear hd hbd hv1 hv0
          go_wp2_with (first
            | (go_at_call 66; refine (wrong_any b off k cap x _ hcell (by omega) (by omega)).mono ?_; rintro e w' ⟨rfl, hw'⟩; subst w')
            | (go_at_call 67; refine (value_at _ (zs.take (k + 1)) _ cap _ hst ht1 (by omega) hfit).mono ?_; rintro e w' ⟨rfl, hw'⟩; subst w'))
          go_ret3
          rw [HD.out, HV.out]
          exact ⟨rfl, rfl⟩
        · have HD : Hid (decL 0 0 zs = decL (valL (zs.take (k + 1))) (k + 1) (zs.drop (k + 1))) := by rw [hd, HV.out]; show decL _ k _ = _; simp [decL, he, h7]
          have hk8 := tk_more_le hk9 he (by omega)
          clear hd hbd hv1 hv0
          go_wp2_with (first
            | (go_at_call 66; refine (wrong_any b off k cap x _ hcell (by omega) (by omega)).mono ?_; rintro e w' ⟨rfl, hw'⟩; subst w'))
          go_round
          case rel => exact ⟨k + 1, by omega, by go_num, by omega, HD.out⟩
          case measure => simp [intOf]; omega
      · have HD : Hid (decL 0 0 zs = (0, 0, tkErr k x)) := by rw [hd]; show decL _ k _ = _; simp [decL, he]
        have hne : (tkErr k x != 0) = true := by simp [he]
        clear hd
        go_wp2_with (first
            | (go_at_call 66; refine (wrong_any b off k cap x _ hcell (by omega) (by omega)).mono ?_; rintro e w' ⟨rfl, hw'⟩; subst w'))
        go_ret3
        rw [HD.out]
        exact ⟨rfl, rfl⟩
    · have HD : Hid (decL 0 0 zs = (0, 0, 11)) := by rw [hd, List.drop_of_length_le (by omega)]; rfl
      clear hd
      have hge : (zs.length : Int) ≤ (k : Int) := by omega
      go_wp2
      go_ret3
      rw [HD.out]
      exact ⟨rfl, rfl⟩
end Go.Proofs.Ytodioefbfchckaa

namespace Go.Proofs.Ytodioefbfchckaa
open Go.RowKit Go.Shelf
set_option linter.unusedVariables false

/-! Uncontrol, the document's. -/
set_option maxRecDepth 100000 in
set_option maxHeartbeats 8000000 in
theorem ruc17 (a : Option Addr) (n cap : Nat) (zs : List Int) (w : World) (hs : Seg w a zs) (hn : Hid (zs.length = n)) (hc : n ≤ cap) (hnil : a = none → cap = 0) (hl : n ≤ 5864062014804) :
    Calls Try.prog 27 #[.slice a n cap] w (UcQ17 77 w zs) := by
  have H0 : Hid (Ui17 w w.heap.size 77 zs n zs [] a cap (.slice none 0 0) w) := ⟨hs, by rw [hn.out]; exact hc, hnil, ⟨rfl, .inl ⟨rfl, rfl⟩⟩, by rw [hn.out], by rw [hn.out]; exact Nat.le_refl _, by simp, by simp, Below.refl _ _, Nat.le_refl _⟩
  have HX0 : Hid (∀ x off, a = some ⟨x, off, none⟩ → 0 < zs.length → x < w.heap.size) := hs.lt
  have HN : Hid (zs.length = n) := hn
  clear hs hn hc hnil
  go_enter Try.func27, Try.ntmps27
  go_wp2_with fail
  go_loopw [0, 4] (fun t0 t5 V => ∃ (f : Nat) (b : List Int) (acc : List St16) (ra : Option Addr) (rc : Nat) (v : Value), t0 = .slice ra b.length rc ∧ t5 = v ∧ Ui17 w w.heap.size 77 zs f b acc ra rc v V ∧ (∀ x off, ra = some ⟨x, off, none⟩ → 0 < b.length → x < w.heap.size)) (fun t0 _ _ => ln17 t0)
  case atStart =>
    refine ⟨n, zs, [], a, cap, _, by rw [HN.out], rfl, H0.out, HX0.out⟩
  case round =>
    obtain ⟨f, b, acc, ra, rc, v, rfl, rfl, hU, hx⟩ := hrel
    clear H0 HX0
    obtain ⟨pv, cv, hv⟩ := own_sl17 hU.own
    subst hv
    by_cases hb : b = []
    · subst hb
      have HQ : Hid (UcQ17 77 w zs (.returned (.tuple #[.slice pv acc.length cv, .int .i64 0])) wr) := ucq17_ok hU (Nat.le_refl _)
      clear hU hx
      generalize acc.length = k at *
      go_wp2_with fail
      go_ret2
      exact HQ.out
    · have hbl : 0 < b.length := List.length_pos_iff.2 hb
      obtain ⟨m, hm⟩ : ∃ m, m = b.length := ⟨_, rfl⟩
      have hm0 : (0 : Int) < (m : Int) := by omega
      have HM : Hid (m = b.length) := hm
      have HU : Hid (Ui17 w w.heap.size 77 zs f b acc ra rc (.slice pv acc.length cv) wr) := hU
      have HI0 := Un17.start (rc := rc) 108 hU.seg hU.cap hU.nil
      have HI : Hid (Un17 wr b wr.heap.size 108 0 [] b ra rc (wr.alloc (.cells #[.int .u64 0, .int .u64 0, .int .u64 0] 108))) := HI0
      obtain ⟨b6, hb6⟩ : ∃ b6, b6 = wr.heap.size := ⟨_, rfl⟩
      have HB6 : Hid (wr.heap.size = b6) := hb6.symm
      rw [← hm]
      rw [← hb6] at HI
      clear HI0 hU hb6 hm hbl
      go_wp2_with fail
      rw [HB6.out, show decide (0 < m) = true from decide_eq_true (by omega)]
      go_loopw [0, 15] (fun t0 t16 V => ∃ (j : Nat) (l bi : List Int) (ra : Option Addr) (rc : Nat), t0 = .slice ra bi.length rc ∧ t16 = .int .i64 (j : Int) ∧ Un17 wr b b6 108 j l bi ra rc V ∧ (∀ x off, ra = some ⟨x, off, none⟩ → 0 < bi.length → x < w.heap.size)) (fun _ t16 _ => 3 - (intOf t16).toNat)
      case atStart => exact ⟨0, [], b, ra, rc, by rw [HM.out], rfl, HI.out, fun x off e h => hx x off e h⟩
      case round =>
        obtain ⟨j, l, bi, ra2, rc2, rfl, rfl, hI, hx2⟩ := hrel
        clear HI hx
        have HL : Hid (bi.length ≤ 5864062014804) := by
          show _ ≤ _
          have := hI.ln; have := HU.out.ln; have := HN.out; omega
        have HBL : Hid (Below w.heap.size w wr) := HU.out.bl.trans (hI.bl.mono HU.out.bl.size)
        by_cases hj : j < 3
        · have hj3 : (j : Int) < 3 := by omega
          have hj0 : (0 : Int) ≤ (j : Int) := by omega
          have HD := read_any ra2 bi rc2 wr hI.seg (by have := HL.out; omega) hI.cap
          obtain ⟨k, hk⟩ : ∃ k, k = bi.length := ⟨_, rfl⟩
          have HQN : Hid (∀ x, un17 zs.length zs [] = (x, []) → UcQ17 77 w zs (.returned (.tuple #[.slice none 0 0, .int .i64 x])) wr) := fun x h1 => ucq17_no h1 HBL.out
          rw [← hk] at HD ⊢
          have HK : Hid (k = bi.length) := hk
          clear hk
          by_cases he : (decL 0 0 bi).2.2 = 0
          · by_cases hj2 : j = 2
            · subst hj2
              have hLM : lim17 2 = 33554432 := rfl
              by_cases hlim : lim17 2 < (decL 0 0 bi).1
              · have HNX : Hid (nx17 2 bi = (171, 0, 0)) := nx17_lim he hlim
                have HNO := Un17.no HU.out hb hI hj (by rw [HNX.out]; decide)
                rw [HNX.out] at HNO
                have HQ : Hid (UcQ17 77 w zs (.returned (.tuple #[.slice none 0 0, .int .i64 171])) wr) := HQN.out 171 HNO
                rw [he] at HD
                rw [hLM] at hlim
                clear HNO HNX HQN he hI hx2 HK HL HU hLM
                generalize (decL 0 0 bi).1 = v0 at *
                generalize (decL 0 0 bi).2.1 = n0 at *
                go_wp2_with fail
                refine HD.mono ?_
                rintro e w' ⟨rfl, hw'⟩
                subst w'
                go_wp2_with fail
                go_ret2
                exact HQ.out
              · have hnx := nx17_ok he hlim
                obtain ⟨_, _, f3, f4, f5, f6, f7, f8⟩ := nx17_fact (j := 2) (fun z hz => (hI.seg.mem z hz).1) (by rw [hnx])
                have he1 : (nx17 2 bi).1 = 0 := by rw [hnx]
                have HST : Hid (Un17 _ b b6 108 (2 + 1) (l ++ [(nx17 2 bi).2.1]) (bi.drop (nx17 2 bi).2.2) (rs16 ra2 rc2 (nx17 2 bi).2.2) (rc2 - (nx17 2 bi).2.2) (wr.setCell ⟨b6, 2, none⟩ (.int .u64 (nx17 2 bi).2.1))) := hI.step hj he1 (fun x off e hp => Nat.lt_of_lt_of_le (hx2 x off e hp) HU.out.bl.size)
                have HX3 : Hid (∀ x off, rs16 ra2 rc2 (nx17 2 bi).2.2 = some ⟨x, off, none⟩ → 0 < (bi.drop (nx17 2 bi).2.2).length → x < w.heap.size) := fun x off e hp => by
                  obtain ⟨sg, sa⟩ := seg_rs16 (c := rc2) (d := (nx17 2 bi).2.2) hI.seg f6 hI.cap
                  obtain ⟨o, ho⟩ := sa x off e hp
                  exact hx2 x o ho (by rw [List.length_drop] at hp; omega)
                have HCP : Hid (bi.length ≤ rc2) := hI.cap
                rw [he, ← f3, f4] at HD
                rw [← f3, hLM] at hlim
                generalize (nx17 2 bi).2.1 = v0 at *
                generalize (nx17 2 bi).2.2 = d at *
                have hdk : (d : Int) ≤ (k : Int) := by have := HK.out; omega
                have hdc : (d : Int) ≤ (rc2 : Int) := by have := HK.out; have := HCP.out; omega
                have hd0 : (0 : Int) ≤ (d : Int) := by omega
                obtain ⟨ax, hax⟩ : ∃ ax, ax = rs16 ra2 rc2 d := ⟨_, rfl⟩
                have hif : (if rc2 = d then ra2 else ra2.map (fun y => y.add d)) = ax := hax.symm
                rw [← hax] at HST HX3
                have g1 := ar17_free (j := 2) hI.q6
                have g2 := ar17_cell hI.q6 hj
                have HDL : Hid ((bi.drop d).length = k - d) := by show _ = _; rw [List.length_drop, HK.out]
                clear hax f4 f3 hnx he he1 HQN hI hx2 HK HCP f6 f5 HL HU HBL hb f7 f8 hLM
                go_wp2_with fail
                refine HD.mono ?_
                rintro e w' ⟨rfl, hw'⟩
                subst w'
                clear HD
                go_wp2_with fail
                go_roundw
                case rel => exact ⟨2 + 1, l ++ [v0], bi.drop d, ax, rc2 - d, by rw [HDL.out], by simp, HST.out, HX3.out⟩
                case measure => first | (simp [intOf]; omega) | simp [intOf]
            · have hLM : lim17 j = 65536 := by unfold lim17; rw [if_neg hj2]
              have hjn : ((j : Int) == 2) = false := by simp; omega
              clear hj2
              by_cases hlim : lim17 j < (decL 0 0 bi).1
              · have HNX : Hid (nx17 j bi = (171, 0, 0)) := nx17_lim he hlim
                have HNO := Un17.no HU.out hb hI hj (by rw [HNX.out]; decide)
                rw [HNX.out] at HNO
                have HQ : Hid (UcQ17 77 w zs (.returned (.tuple #[.slice none 0 0, .int .i64 171])) wr) := HQN.out 171 HNO
                rw [he] at HD
                rw [hLM] at hlim
                clear HNO HNX HQN he hI hx2 HK HL HU hLM
                generalize (decL 0 0 bi).1 = v0 at *
                generalize (decL 0 0 bi).2.1 = n0 at *
                go_wp2_with fail
                refine HD.mono ?_
                rintro e w' ⟨rfl, hw'⟩
                subst w'
                go_wp2_with fail
                go_ret2
                exact HQ.out
              · have hnx := nx17_ok he hlim
                obtain ⟨_, _, f3, f4, f5, f6, f7, f8⟩ := nx17_fact (j := j) (fun z hz => (hI.seg.mem z hz).1) (by rw [hnx])
                have he1 : (nx17 j bi).1 = 0 := by rw [hnx]
                have HST : Hid (Un17 _ b b6 108 (j + 1) (l ++ [(nx17 j bi).2.1]) (bi.drop (nx17 j bi).2.2) (rs16 ra2 rc2 (nx17 j bi).2.2) (rc2 - (nx17 j bi).2.2) (wr.setCell ⟨b6, j, none⟩ (.int .u64 (nx17 j bi).2.1))) := hI.step hj he1 (fun x off e hp => Nat.lt_of_lt_of_le (hx2 x off e hp) HU.out.bl.size)
                have HX3 : Hid (∀ x off, rs16 ra2 rc2 (nx17 j bi).2.2 = some ⟨x, off, none⟩ → 0 < (bi.drop (nx17 j bi).2.2).length → x < w.heap.size) := fun x off e hp => by
                  obtain ⟨sg, sa⟩ := seg_rs16 (c := rc2) (d := (nx17 j bi).2.2) hI.seg f6 hI.cap
                  obtain ⟨o, ho⟩ := sa x off e hp
                  exact hx2 x o ho (by rw [List.length_drop] at hp; omega)
                have HCP : Hid (bi.length ≤ rc2) := hI.cap
                rw [he, ← f3, f4] at HD
                rw [← f3, hLM] at hlim
                generalize (nx17 j bi).2.1 = v0 at *
                generalize (nx17 j bi).2.2 = d at *
                have hdk : (d : Int) ≤ (k : Int) := by have := HK.out; omega
                have hdc : (d : Int) ≤ (rc2 : Int) := by have := HK.out; have := HCP.out; omega
                have hd0 : (0 : Int) ≤ (d : Int) := by omega
                obtain ⟨ax, hax⟩ : ∃ ax, ax = rs16 ra2 rc2 d := ⟨_, rfl⟩
                have hif : (if rc2 = d then ra2 else ra2.map (fun y => y.add d)) = ax := hax.symm
                rw [← hax] at HST HX3
                have g1 := ar17_free (j := j) hI.q6
                have g2 := ar17_cell hI.q6 hj
                have HDL : Hid ((bi.drop d).length = k - d) := by show _ = _; rw [List.length_drop, HK.out]
                clear hax f4 f3 hnx he he1 HQN hI hx2 HK HCP f6 f5 HL HU HBL hb f7 f8 hLM
                go_wp2_with fail
                refine HD.mono ?_
                rintro e w' ⟨rfl, hw'⟩
                subst w'
                clear HD
                go_wp2_with fail
                go_roundw
                case rel => exact ⟨j + 1, l ++ [v0], bi.drop d, ax, rc2 - d, by rw [HDL.out], by simp, HST.out, HX3.out⟩
                case measure => first | (simp [intOf]; omega) | simp [intOf]
          · have HNX : Hid (nx17 j bi = ((decL 0 0 bi).2.2, 0, 0)) := nx17_err he
            have HNO := Un17.no HU.out hb hI hj (by rw [HNX.out]; exact he)
            rw [HNX.out] at HNO
            have HQ : Hid (UcQ17 77 w zs (.returned (.tuple #[.slice none 0 0, .int .i64 (decL 0 0 bi).2.2])) wr) := HQN.out _ HNO
            have he2 : ((decL 0 0 bi).2.2 != 0) = true := by simp [he]
            clear HNO HNX HQN he hI hx2 HK HL HU
            generalize (decL 0 0 bi).1 = v0 at *
            generalize (decL 0 0 bi).2.1 = n0 at *
            generalize (decL 0 0 bi).2.2 = e0 at *
            go_wp2_with fail
            refine HD.mono ?_
            rintro e w' ⟨rfl, hw'⟩
            subst w'
            go_wp2_with fail
            go_ret2
            exact HQ.out
        · have h3 : j = 3 := by have := hI.hj; omega
          subst h3
          obtain ⟨A, hA⟩ : ∃ A, A = l.getD 0 0 := ⟨_, rfl⟩
          obtain ⟨C, hC⟩ : ∃ C, C = l.getD 1 0 := ⟨_, rfl⟩
          obtain ⟨U, hU⟩ : ∃ U, U = l.getD 2 0 := ⟨_, rfl⟩
          have bA := hI.bd 0 (by omega)
          have bC := hI.bd 1 (by omega)
          have bU := hI.bd 2 (by omega)
          have kA : 0 ≤ A ∧ A ≤ 65536 := by rw [hA]; exact bA
          have kC : 0 ≤ C ∧ C ≤ 65536 := by rw [hC]; exact bC
          have kU : 0 ≤ U ∧ U ≤ 33554432 := by rw [hU]; exact bU
          have HCL : Hid (∀ V : World, V.heap[b6]? = some (.cells (ar17 l) 108 (0, 0)) → V.cell? ⟨b6, 0, none⟩ = some (.int .u64 A) ∧ V.cell? ⟨b6, 1, none⟩ = some (.int .u64 C) ∧ V.cell? ⟨b6, 2, none⟩ = some (.int .u64 U)) := fun V h => by
            rw [hA, hC, hU]
            exact ⟨ar17_cell h (by omega), ar17_cell h (by omega), ar17_cell h (by omega)⟩
          obtain ⟨bS, hbS⟩ : ∃ bS, bS = wr.heap.size := ⟨_, rfl⟩
          have cB : Cb16 wr #[.int .i64 A, .int .i64 C, .int .i64 (U / 2)] 77 (wr.alloc (.cells #[.int .i64 A, .int .i64 C, .int .i64 (U / 2)] 77)) := cb16 _ _ _
          have HOW : Hid (∀ V, Below wr.heap.size wr V → V.ownsRow w.heap.size 77 3 (.slice pv acc.length cv) acc.length (flat16 acc)) := fun V hV => own_kp16 HU.out.own (Kp.of_below (S := fun _ => False) (hI.bl.trans (hV.mono hI.bl.size))) (fun _ _ x => x)
          have HFI : Hid (∀ (V wE : World) (g rg : Nat), Below wr.heap.size wr V → Kp (fun k => (Value.slice pv acc.length cv).ownBlock = some k) V wE → wE.ownsRow w.heap.size 77 3 (.slice (some ⟨g, 0, none⟩) (acc.length + 1) rg) (acc.length + 1) (flat16 acc ++ [.int .i64 A, .int .i64 C, .int .i64 (zagI U)]) → ∃ f', Ui17 w w.heap.size 77 zs f' bi (acc ++ [sp17 l]) ra2 rc2 (.slice (some ⟨g, 0, none⟩) (acc.length + 1) rg) wE) := fun V wE g rg hV k1 ow => by
            have hlt := HU.out.own.lt
            have sE : Seg wE ra2 bi := (hI.seg.old hV).kp k1 (fun x off e hp hx => by have := (hlt x hx).1; have := hx2 x off e hp; omega)
            have BV : Below w.heap.size w V := HBL.out.trans (hV.mono HBL.out.size)
            have BE : Below w.heap.size w wE := BV.trans (k1.below (fun k x => (hlt k x).1) BV.size)
            exact Un17.fin HU.out hb hI sE BE BE.size (by rw [← hA, ← hC, ← hU]; exact ow)
          have HME : Hid (bi.length < m) := by
            show _ < _
            have := hI.ln; have := HM.out; omega
          have hACL : acc.length + 1 ≤ 5864062014805 := by have := HU.out.ln; have := HN.out; omega
          have hzs : ∀ V : World, Below wr.heap.size wr V → w.heap.size ≤ V.heap.size := fun V hV => Nat.le_trans HBL.out.size hV.size
          obtain ⟨g0, g1, g2⟩ := HCL.out wr hI.q6
          have hwA : IntKind.i64.wrap A = A := IntWalk.i64_in _ (by omega)
          have hwC : IntKind.i64.wrap C = C := IntWalk.i64_in _ (by omega)
          have hu2 : 0 ≤ U / 2 ∧ U / 2 ≤ 16777216 := by omega
          have hwU : IntKind.i64.wrap (U / 2) = U / 2 := IntWalk.i64_in _ (by omega)
          have HX3 : Hid (∀ x off, ra2 = some ⟨x, off, none⟩ → 0 < bi.length → x < w.heap.size) := hx2
          have HKC : Hid (∀ V, Below wr.heap.size wr V → V.cell? ⟨b6, 2, none⟩ = some (.int .u64 U)) := fun V hV => (HCL.out V ((hV.block b6 (Array.getElem?_eq_some_iff.1 hI.q6).1).trans hI.q6)).2.2
          by_cases hodd : U % 2 = 1
          · have hz : zagI U = -(U / 2) - 1 := by unfold zagI; rw [if_neg (by omega)]
            have hwN : IntKind.i64.wrap (-(U / 2)) = -(U / 2) := IntWalk.i64_in _ (by omega)
            have hwM : IntKind.i64.wrap (-(U / 2) - 1) = -(U / 2) - 1 := IntWalk.i64_in _ (by omega)
            obtain ⟨wS, hwS⟩ : ∃ wS, wS = wr.alloc (.cells #[.int .i64 A, .int .i64 C, .int .i64 (-(U / 2) - 1)] 77) := ⟨_, rfl⟩
            have cS : Cb16 wr #[.int .i64 A, .int .i64 C, .int .i64 (-(U / 2) - 1)] 77 wS := by rw [hwS]; exact cb16 _ _ _
            obtain ⟨g, rg, wE, hr, ow, k1, -⟩ := appr17 wS (A, C, zagI U) (HOW.out wS cS.bl) hACL (hzs wS cS.bl)
            have hFin := HFI.out wS wE g rg cS.bl k1 ow
            have HF : Hid (∃ f', Ui17 w w.heap.size 77 zs f' bi (acc ++ [sp17 l]) ra2 rc2 (.slice (some ⟨g, 0, none⟩) (acc.length + 1) rg) wE) := hFin
            simp only at hr
            rw [hz, cS.sz, hwS] at hr
            have x6 := HKC.out _ cB.bl
            clear ow k1 hFin hz hwS cS HOW HFI HKC hzs cB hI hx2 HU HBL HL hj HCL hA hC hU bA bC bU hbS
            generalize acc.length = al at *
            go_wp2_with (first | (at_builtin; refine wpList_app17 rfl (.tmp 61) (.tmp 63) 22 rfl rfl rfl hr ?_))
            obtain ⟨f', hF⟩ := HF.out
            go_roundw
            case rel => exact ⟨f', bi, acc ++ [sp17 l], ra2, rc2, _, rfl, rfl, hF, HX3.out⟩
            case measure => exact HME.out
          · have hz : zagI U = U / 2 := by unfold zagI; rw [if_pos (by omega)]
            have hev : (U % 2 == 1) = false := by simp; omega
            clear hodd
            obtain ⟨wS, hwS⟩ : ∃ wS, wS = wr.alloc (.cells #[.int .i64 A, .int .i64 C, .int .i64 (U / 2)] 77) := ⟨_, rfl⟩
            have cS : Cb16 wr #[.int .i64 A, .int .i64 C, .int .i64 (U / 2)] 77 wS := by rw [hwS]; exact cb16 _ _ _
            obtain ⟨g, rg, wE, hr, ow, k1, -⟩ := appr17 wS (A, C, zagI U) (HOW.out wS cS.bl) hACL (hzs wS cS.bl)
            have hFin := HFI.out wS wE g rg cS.bl k1 ow
            have HF : Hid (∃ f', Ui17 w w.heap.size 77 zs f' bi (acc ++ [sp17 l]) ra2 rc2 (.slice (some ⟨g, 0, none⟩) (acc.length + 1) rg) wE) := hFin
            simp only at hr
            rw [hz, cS.sz, hwS] at hr
            have x6 := HKC.out _ cB.bl
            clear ow k1 hFin hz hwS cS HOW HFI HKC hzs cB hI hx2 HU HBL HL hj HCL hA hC hU bA bC bU hbS
            generalize acc.length = al at *
            go_wp2_with (first | (at_builtin; refine wpList_app17 rfl (.tmp 61) (.tmp 63) 22 rfl rfl rfl hr ?_))
            obtain ⟨f', hF⟩ := HF.out
            go_roundw
            case rel => exact ⟨f', bi, acc ++ [sp17 l], ra2, rc2, _, rfl, rfl, hF, HX3.out⟩
            case measure => exact HME.out
end Go.Proofs.Ytodioefbfchckaa

namespace Go.Proofs.Ytodioefbfchckaa
open Go.RowKit Go.Shelf
set_option linter.unusedVariables false

/-! The document's in, Sums. -/
set_option maxRecDepth 100000 in
theorem rin17 (x lo hi : Int) (w : World) : Calls Try.prog 41 #[.int .i64 x, .int .i64 lo, .int .i64 hi] w fun e w' => e = .returned (.bool (decide (lo ≤ x ∧ x ≤ hi))) ∧ w' = w := by
  by_cases h1 : lo ≤ x
  · by_cases h2 : x ≤ hi
    · rw [decide_eq_true ⟨h1, h2⟩]
      go_enter Try.func41, Try.ntmps41
      go_wp2
      go_ret
      exact ⟨rfl, rfl⟩
    · rw [decide_eq_false (by omega)]
      go_enter Try.func41, Try.ntmps41
      go_wp2
      go_ret
      exact ⟨rfl, rfl⟩
  · rw [decide_eq_false (by omega)]
    go_enter Try.func41, Try.ntmps41
    go_wp2
    go_ret
    exact ⟨rfl, rfl⟩
/-- The i-th step's numbers may be summed up. -/
def M17 (S : List St16) (i : Nat) : Prop := 0 ≤ (S.getD i z16).1 ∧ (S.getD i z16).1 ≤ 16777216 ∧ 0 ≤ (S.getD i z16).2.1 ∧ (S.getD i z16).2.1 ≤ 16777216 ∧ sa16 S (i + 1) ≤ 16777216 ∧ sc16 S (i + 1) ≤ 16777216
open Classical in
noncomputable def sms17 (S : List St16) (n : Nat) : Value := if (∀ i, i < n → M17 S i) then .tuple #[.int .i64 (sa16 S n : Int), .int .i64 (sc16 S n : Int), .bool true] else .tuple #[.int .i64 0, .int .i64 0, .bool false]
theorem sms17_ok {S : List St16} {n : Nat} (h : ∀ i, i < n → M17 S i) : sms17 S n = .tuple #[.int .i64 (sa16 S n : Int), .int .i64 (sc16 S n : Int), .bool true] := by unfold sms17; rw [if_pos h]
theorem sms17_no {S : List St16} {n : Nat} (h : ¬ ∀ i, i < n → M17 S i) : sms17 S n = .tuple #[.int .i64 0, .int .i64 0, .bool false] := by unfold sms17; rw [if_neg h]
set_option maxRecDepth 100000 in
set_option maxHeartbeats 4000000 in
theorem rsum17 (a : Option Addr) (n cap : Nat) (S : List St16) (w : World) (hs : SegS w a S) (hn : Hid (S.length = n)) (hl : n ≤ 5864062014805) :
    Calls Try.prog 46 #[.slice a n cap] w fun e w' => e = .returned (sms17 S n) ∧ Below w.heap.size w w' := by
  go_enter Try.func46, Try.ntmps46
  go_wp2_with fail
  go_loopw [5, 6, 11] (fun ta tc ti wr => ∃ i : Nat, i ≤ n ∧ ti = .int .i64 (i : Int) ∧ ta = .int .i64 (sa16 S i : Int) ∧ tc = .int .i64 (sc16 S i : Int) ∧ Hid (∀ j, j < i → M17 S j) ∧ (sa16 S i ≤ 16777216 ∧ sc16 S i ≤ 16777216) ∧ Below w.heap.size w wr) (fun _ _ ti _ => n - (intOf ti).toNat)
  case atStart => exact ⟨0, by omega, rfl, rfl, rfl, fun j hj => by omega, by simp [sa16, sc16], Below.refl _ _⟩
  case round =>
    obtain ⟨i, hi, rfl, rfl, rfl, HM, hb, BR⟩ := hrel
    by_cases hin : i < n
    · have hii : (i : Int) < (n : Int) := by omega
      have hi0 : (0 : Int) ≤ (i : Int) := by omega
      have hil : i < S.length := by rw [hn.out]; exact hin
      obtain ⟨b, off, rfl, hT⟩ := (hs.old BR).at_ i hil
      have c0 := hT.c0
      have c1 := hT.c1
      have c2 := hT.c2
      have HNO : Hid (¬ M17 S i → sms17 S n = .tuple #[.int .i64 0, .int .i64 0, .bool false]) := fun h => sms17_no (fun x => h (x i hin))
      have HME : Hid (M17 S i ↔ (0 ≤ (S.getD i z16).1 ∧ (S.getD i z16).1 ≤ 16777216 ∧ 0 ≤ (S.getD i z16).2.1 ∧ (S.getD i z16).2.1 ≤ 16777216 ∧ (sa16 S i : Int) + (S.getD i z16).1 ≤ 16777216 ∧ (sc16 S i : Int) + (S.getD i z16).2.1 ≤ 16777216)) := by
        unfold Hid M17
        simp only [sa16, sc16, ad16, cp16]
        constructor
        · rintro ⟨y1, y2, y3, y4, y5, y6⟩; exact ⟨y1, y2, y3, y4, by omega, by omega⟩
        · rintro ⟨y1, y2, y3, y4, y5, y6⟩; exact ⟨y1, y2, y3, y4, by omega, by omega⟩
      have HSU : Hid (M17 S i → ((sa16 S (i + 1) : Int) = (sa16 S i : Int) + (S.getD i z16).1 ∧ (sc16 S (i + 1) : Int) = (sc16 S i : Int) + (S.getD i z16).2.1) ∧ (sa16 S (i + 1) ≤ 16777216 ∧ sc16 S (i + 1) ≤ 16777216) ∧ (∀ j, j < i + 1 → M17 S j)) := fun h => by
        have h0 := h
        obtain ⟨y1, y2, y3, y4, y5, y6⟩ := h
        refine ⟨by simp only [sa16, sc16, ad16, cp16]; omega, ⟨y5, y6⟩, fun j hj => ?_⟩
        rcases Nat.lt_or_ge j i with z | z
        · exact HM.out j z
        · have : j = i := by omega
          subst this; exact h0
      generalize S.getD i z16 = s at *
      obtain ⟨A, C, K⟩ := s
      simp only at c0 c1 c2 HME HSU
      have hA0 : (0 : Int) ≤ (sa16 S i : Int) ∧ (sa16 S i : Int) ≤ 16777216 ∧ (0 : Int) ≤ (sc16 S i : Int) ∧ (sc16 S i : Int) ≤ 16777216 := by omega
      generalize (sa16 S i : Int) = d at *
      generalize (sc16 S i : Int) = x at *
      have hi1 := rin17 A 0 16777216
      have hi2 := rin17 C 0 16777216
      clear hT HM hb
      obtain ⟨wB, hwB⟩ : ∃ wB, wB = wr.alloc (.cells #[.int .i64 A, .int .i64 C, .int .i64 K] 77) := ⟨_, rfl⟩
      have HWB : Hid (wr.alloc (.cells #[.int .i64 A, .int .i64 C, .int .i64 K] 77) = wB) := hwB.symm
      have BB : Below w.heap.size w wB := by rw [hwB]; exact BR.trans ((below_box16 _ _).mono BR.size)
      rw [hwB] at BB
      clear hwB
      by_cases k1 : 0 ≤ A ∧ A ≤ 16777216
      · rw [decide_eq_true k1] at hi1
        by_cases k2 : 0 ≤ C ∧ C ≤ 16777216
        · rw [decide_eq_true k2] at hi2
          have w1 : IntKind.i64.wrap (d + A) = d + A := IntWalk.i64_in _ (by omega)
          have w2 : IntKind.i64.wrap (x + C) = x + C := IntWalk.i64_in _ (by omega)
          by_cases k3 : 16777216 < d + A
          · have HN : Hid (sms17 S n = .tuple #[.int .i64 0, .int .i64 0, .bool false]) := HNO.out (fun h => by have := HME.out.1 h; omega)
            go_wp2_with (first | (go_at_call 41; refine (hi1 _).mono ?_; rintro e1 w1 ⟨rfl, rfl⟩; clear hi1) | (go_at_call 41; refine (hi2 _).mono ?_; rintro e1 w1 ⟨rfl, rfl⟩; clear hi2))
            go_ret3
            exact ⟨by rw [HN.out]; rfl, BB⟩
          · by_cases k4 : 16777216 < x + C
            · have HN : Hid (sms17 S n = .tuple #[.int .i64 0, .int .i64 0, .bool false]) := HNO.out (fun h => by have := HME.out.1 h; omega)
              go_wp2_with (first | (go_at_call 41; refine (hi1 _).mono ?_; rintro e1 w1 ⟨rfl, rfl⟩; clear hi1) | (go_at_call 41; refine (hi2 _).mono ?_; rintro e1 w1 ⟨rfl, rfl⟩; clear hi2))
              go_ret3
              exact ⟨by rw [HN.out]; rfl, BB⟩
            · have HY : Hid (M17 S i) := HME.out.2 (by omega)
              go_wp2_with (first | (go_at_call 41; refine (hi1 _).mono ?_; rintro e1 w1 ⟨rfl, rfl⟩; clear hi1) | (go_at_call 41; refine (hi2 _).mono ?_; rintro e1 w1 ⟨rfl, rfl⟩; clear hi2))
              go_roundw
              case rel =>
                obtain ⟨y1, y2, y3⟩ := HSU.out HY.out
                exact ⟨i + 1, by omega, by simp, by rw [y1.1], by rw [y1.2], y3, y2, BB⟩
              case measure => simp [intOf]; omega
        · rw [decide_eq_false k2] at hi2
          have HN : Hid (sms17 S n = .tuple #[.int .i64 0, .int .i64 0, .bool false]) := HNO.out (fun h => by have := HME.out.1 h; omega)
          go_wp2_with (first | (go_at_call 41; refine (hi1 _).mono ?_; rintro e1 w1 ⟨rfl, rfl⟩; clear hi1) | (go_at_call 41; refine (hi2 _).mono ?_; rintro e1 w1 ⟨rfl, rfl⟩; clear hi2))
          go_ret3
          exact ⟨by rw [HN.out]; rfl, BB⟩
      · rw [decide_eq_false k1] at hi1
        have HN : Hid (sms17 S n = .tuple #[.int .i64 0, .int .i64 0, .bool false]) := HNO.out (fun h => by have := HME.out.1 h; omega)
        go_wp2_with (first | (go_at_call 41; refine (hi1 _).mono ?_; rintro e1 w1 ⟨rfl, rfl⟩; clear hi1))
        go_ret3
        exact ⟨by rw [HN.out]; rfl, BB⟩
    · have hk2 : i = n := by omega
      subst hk2
      have hneg : ¬ (i : Int) < (i : Int) := by omega
      have HY : Hid (sms17 S i = .tuple #[.int .i64 (sa16 S i : Int), .int .i64 (sc16 S i : Int), .bool true]) := sms17_ok HM.out
      clear HM hb
      go_wp2_with fail
      go_ret3
      exact ⟨by rw [HY.out]; rfl, BR⟩
end Go.Proofs.Ytodioefbfchckaa

namespace Go.Proofs.Ytodioefbfchckaa
open Go.RowKit
set_option linter.unusedVariables false

theorem info_u8r : (Try.prog.info? 5).map (fun i => (i.zero, i.size, i.bytes)) = some (some (.int .u8 0), 1, 1) := by kernel_rfl

set_option maxRecDepth 100000 in
set_option maxHeartbeats 1000000 in
theorem rbytes_any (x : Int) (w : World) (hx0 : 0 ≤ x) (hx1 : x ≤ 18446744073709551615) :
    Calls Try.prog 65 #[.int .u64 x] w fun e w' => ∃ v, e = .returned v ∧ w'.ownsRow w.heap.size 5 1 v (encI x).length ((encI x).map (Value.int .u8)) ∧ Below w.heap.size w w' := by
  obtain ⟨i0, hi, hz0, hz1, hz2⟩ := info_parts info_u8r
  go_enter Try.func65, Try.ntmps65
  go_wp2
  go_loopw [0, 3] (fun t o wr => ∃ (pre : List Int) (f : Nat) (u : Int), t = .int .u64 u ∧ wr.ownsRow w.heap.size 5 1 o pre.length (pre.map (Value.int .u8)) ∧ encI x = pre ++ encL f u ∧ pre.length + f = 9 ∧ 0 ≤ u ∧ u < 2 * 128 ^ f ∧ Below w.heap.size w wr) (fun t _ _ => (intOf t).toNat)
  case atStart => exact ⟨[], 9, x, rfl, World.ownsRow_nil _ _ _ _, rfl, rfl, hx0, by rw [pow9]; omega, Below.refl _ _⟩
  case round =>
    obtain ⟨pre, f, u, rfl, hown2, he, hf, hu0, hu1, hb2⟩ := hrel
    have hu2 : u ≤ 18446744073709551615 := by
      have h9 : (128 : Int) ^ f ≤ 128 ^ 9 := pow128_mono (by omega)
      have := pow9
      omega
    have hszr := hb2.size
    by_cases h7 : 127 < u
    · obtain ⟨f, rfl⟩ : ∃ g, f = g + 1 := ⟨f - 1, by
        cases f with
        | zero => simp at hu1; omega
        | succ f => rfl⟩
      have h8 : 128 ≤ u := by omega
      have HN : Hid (encI x = (pre ++ [u % 128 + 128]) ++ encL f (u / 128)) := by
        show encI x = _
        rw [he]; simp only [encL, if_pos h7, List.append_assoc, List.singleton_append]
      have hu3 : u / 128 < 2 * 128 ^ f := by rw [Int.pow_succ] at hu1; omega
      clear he h7
      go_wp2_with (at_builtin; refine wpList_push rfl _ _ 23 rfl w.heap.size 5 i0 (.int .u8 0) 1 Try.underlying23 hi hz0 hz1 hz2 rfl wr (.int .u8 (u % 128 + 128)) rfl hown2 rfl rfl (by omega) (by omega) hszr ?_; intro v' w2 hown3 hg3 hb3)
      go_roundw
      case rel => exact ⟨pre ++ [u % 128 + 128], f, u / 128, rfl, by simpa using hown3, HN.out, by simp; omega, by omega, hu3, hb2.trans hb3⟩
      case measure => simp [intOf]; omega
    · have h8 : u < 128 := by omega
      have HN : Hid (encI x = pre ++ [u]) := by
        show encI x = _
        rw [he]
        cases f <;> simp [encL, h7]
      clear he h7
      go_wp2_with (at_builtin; refine wpList_push rfl _ _ 23 rfl w.heap.size 5 i0 (.int .u8 0) 1 Try.underlying23 hi hz0 hz1 hz2 rfl wr (.int .u8 u) rfl hown2 rfl rfl (by omega) (by omega) hszr ?_; intro v' w2 hown3 hg3 hb3)
      go_ret
      exact ⟨_, rfl, by rw [HN.out]; simpa using hown3, hb2.trans hb3⟩

set_option maxRecDepth 100000 in
set_option maxHeartbeats 1000000 in
theorem rencode_any (a : Option Addr) (zs : List Int) (cap : Nat) (w : World) (hs : Seg64 w a zs) (hl : zs.length ≤ 8796093022208) :
    Calls Try.prog 51 #[.slice a zs.length cap] w fun e w' => ∃ v, e = .returned v ∧ w'.ownsRow w.heap.size 5 1 v (encA zs).length ((encA zs).map (Value.int .u8)) ∧ Below w.heap.size w w' := by
  obtain ⟨i0, hi, hz0, hz1, hz2⟩ := info_parts info_u8r
  go_enter Try.func51, Try.ntmps51
  go_wp2
  go_loopw [3, 8] (fun o i wr => ∃ k : Nat, k ≤ zs.length ∧ i = .int .i64 k ∧ wr.ownsRow w.heap.size 5 1 o (encA (zs.take k)).length ((encA (zs.take k)).map (Value.int .u8)) ∧ Below w.heap.size w wr) (fun _ i _ => zs.length - (intOf i).toNat)
  case atStart => exact ⟨0, Nat.zero_le _, rfl, World.ownsRow_nil _ _ _ _, Below.refl _ _⟩
  case round =>
    obtain ⟨k, hk, rfl, hown, hb⟩ := hrel
    have hle := encA_take_len zs k
    by_cases hlt : k < zs.length
    · have hsr := hs.old hb
      obtain ⟨b, off, rfl, hcell⟩ := hsr.at_ k hlt
      have hx := hs.bd k
      have HT : Hid (encA (zs.take (k + 1)) = encA (zs.take k) ++ encI (zs.getD k 0)) := encA_take zs k hlt
      have hlen := encI_len (zs.getD k 0)
      have hszr := hb.size
      have hbd := encI_bd (zs.getD k 0) hx.1 hx.2
      generalize zs.getD k 0 = x at *
      generalize encA (zs.take k) = E at *
      go_wp2_with fail
      refine (rbytes_any x _ hx.1 hx.2).mono ?_
      rintro e w1 ⟨v1, rfl, hown1, hb1⟩
      obtain ⟨_, a1, c1, rfl, hseg1, hblk, hc1, _⟩ := own_seg hown1 (M := 255) (by decide) hbd
      have hn1 : a1 = none → c1 = 0 := by
        intro e
        subst e
        rcases hown1.2 with ⟨h0, _⟩ | ⟨g, cp, cur, h0, _⟩
        · simp at h0; exact h0.2
        · simp at h0
      have hownA := own_below hown hb1
      have hz1' := hb1.size
      clear hown1 hblk hsr hcell
      go_wp2_with (at_builtin; refine wpList_append_seg rfl _ _ 23 rfl w.heap.size 5 i0 (.int .u8 0) 1 Try.underlying23 hi hz0 hz1 hz2 rfl hownA hseg1 hn1 rfl rfl (by omega) (by omega) (by omega) ?_; intro v2 w2 hown2 hg2 hb2)
      go_roundw
      case rel => exact ⟨k + 1, by omega, by go_num, by rw [HT.out]; simpa using hown2, hb.trans ((hb1.mono hszr).trans hb2)⟩
      case measure => simp [intOf]; omega
    · obtain rfl : k = zs.length := by omega
      have HT : Hid (zs.take zs.length = zs) := List.take_length
      rw [HT.out] at hown
      clear hle hlt
      go_wp2
      go_ret
      exact ⟨_, rfl, hown, hb⟩
end Go.Proofs.Ytodioefbfchckaa
