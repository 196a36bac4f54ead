import Derived.Test.YtbjjddoeilhomaaPy
import Derived.Test.YtbjjddoeilhomaaProg
import Derived.Test.YtbjjddoeilhomaaPh
import Derived.Test.YtbjjddoeilhomaaPq
import Derived.WalkKit
import Derived.WalkSpells
import Derived.WalkLawsBesides
import Derived.Deep.QuietTactic
import Derived.BigQuiet
import Derived.Test.YtbjjddoeilhomaaPx
import Derived.ProofKit
import Derived.OpenShut
import Derived.SizedLaws
namespace Go.Proofs.Ytbjjddoeilhomaa
open Go.RowKit
set_option linter.unusedVariables false

/-! The document's Split. -/
set_option maxRecDepth 100000 in
set_option maxHeartbeats 8000000 in
theorem rsp15 (za : Option Addr) (z : List Int) (n zc : Nat) (pos back : Int) (qa : Option Addr) (q : List Int) (m qc : Nat) (at_ k : Int) (w0 : World) (hs : Seg w0 za z) (hq : Seg w0 qa q) (hn : Hid (z.length = n)) (hm : Hid (q.length = m)) (hnb : n ≤ 140737488351232) (hmb : m ≤ 140737488351232) (hzc : n ≤ zc) (hqc : m ≤ qc) (hkb : k ≤ 9223372036854775807) :
    Calls Try.prog 22 #[.slice za n zc, .int .i64 pos, .int .i64 back, .slice qa m qc, .int .i64 at_, .int .i64 k] w0 fun e w' => e = .returned (.int .i64 ((sp15 z pos back q at_ k : Nat) : Int)) ∧ ∃ d, w' = w0.drewN d := by
  have HZ : Hid (¬ (0 ≤ k ∧ (0 ≤ pos ∧ pos ≤ (n : Int) - k) ∧ (0 ≤ back ∧ back ≤ (n : Int) - k) ∧ (0 ≤ at_ ∧ at_ ≤ (m : Int) - k)) → sp15 z pos back q at_ k = 0) := fun h => by
    unfold sp15
    rw [if_neg]
    unfold pt15
    rw [hn.out, hm.out]
    exact h
  have HP : Hid ((0 ≤ k ∧ (0 ≤ pos ∧ pos ≤ (n : Int) - k) ∧ (0 ≤ back ∧ back ≤ (n : Int) - k) ∧ (0 ≤ at_ ∧ at_ ≤ (m : Int) - k)) → sp15 z pos back q at_ k = bst15 (sc15 (fs15 z pos.toNat q at_.toNat) (fs15 z back.toNat q at_.toNat)) k.toNat) := fun h => by
    unfold sp15
    rw [if_pos]
    unfold pt15
    rw [hn.out, hm.out]
    exact h
  by_cases ck : k < 0
  · rw [HZ.out (by omega)]
    clear HZ HP
    go_enter Try.func22, Try.ntmps22
    go_wp2_with fail
    go_ret
    exact ⟨rfl, 0, rfl⟩
  · have f1 : IntKind.i64.wrap ((n : Int) - k) = (n : Int) - k := IntWalk.i64_in _ (by omega)
    have f2 : IntKind.i64.wrap ((m : Int) - k) = (m : Int) - k := IntWalk.i64_in _ (by omega)
    by_cases c1 : pos < 0
    · rw [HZ.out (by omega)]
      clear HZ HP
      go_enter Try.func22, Try.ntmps22
      go_wp2_with fail
      go_ret
      exact ⟨rfl, 0, rfl⟩
    · by_cases c2 : back < 0
      · rw [HZ.out (by omega)]
        clear HZ HP
        go_enter Try.func22, Try.ntmps22
        go_wp2_with fail
        go_ret
        exact ⟨rfl, 0, rfl⟩
      · by_cases c3 : at_ < 0
        · rw [HZ.out (by omega)]
          clear HZ HP
          go_enter Try.func22, Try.ntmps22
          go_wp2_with fail
          go_ret
          exact ⟨rfl, 0, rfl⟩
        · by_cases c4 : (n : Int) - k < pos
          · rw [HZ.out (by omega)]
            clear HZ HP
            go_enter Try.func22, Try.ntmps22
            go_wp2_with fail
            go_ret
            exact ⟨rfl, 0, rfl⟩
          · by_cases c5 : (n : Int) - k < back
            · rw [HZ.out (by omega)]
              clear HZ HP
              go_enter Try.func22, Try.ntmps22
              go_wp2_with fail
              go_ret
              exact ⟨rfl, 0, rfl⟩
            · by_cases c6 : (m : Int) - k < at_
              · rw [HZ.out (by omega)]
                clear HZ HP
                go_enter Try.func22, Try.ntmps22
                go_wp2_with fail
                go_ret
                exact ⟨rfl, 0, rfl⟩
              · obtain ⟨kn, rfl⟩ : ∃ kn : Nat, k = (kn : Int) := ⟨k.toNat, by omega⟩
                obtain ⟨p, rfl⟩ : ∃ p : Nat, pos = (p : Int) := ⟨pos.toNat, by omega⟩
                obtain ⟨b, rfl⟩ : ∃ b : Nat, back = (b : Int) := ⟨back.toNat, by omega⟩
                obtain ⟨f, rfl⟩ : ∃ f : Nat, at_ = (f : Int) := ⟨at_.toNat, by omega⟩
                rw [HP.out (by omega)]
                simp only [Int.toNat_natCast]
                have lp : p + kn ≤ n := by omega
                have lb : b + kn ≤ n := by omega
                have lf : f + kn ≤ m := by omega
                have HSG : Hid (Seg w0 za z ∧ Seg w0 qa q) := ⟨hs, hq⟩
                have kpn : (p : Int) ≤ (n : Int) := by omega
                have kbn : (b : Int) ≤ (n : Int) := by omega
                have kfm : (f : Int) ≤ (m : Int) := by omega
                clear hs hq HP HZ
                go_enter Try.func22, Try.ntmps22
                go_wp2_with fail
                go_loopw [13, 14, 15] (fun tb tm tn wr => ∃ (i ou : Nat) (tp : Int), i ≤ kn + 1 ∧ tb = .int .i64 (ou : Int) ∧ tm = .int .i64 tp ∧ tn = .int .i64 (i : Int) ∧ Hid (ou = bst15 (sc15 (fs15 z p q f) (fs15 z b q f)) (i - 1)) ∧ Hid (tp = top15 (sc15 (fs15 z p q f) (fs15 z b q f)) (i - 1)) ∧ (-140737488351232 ≤ tp ∧ tp ≤ 140737488351232) ∧ ∃ d, wr = w0.drewN d) (fun _ _ tn _ => kn + 1 - (intOf tn).toNat)
                case atStart => exact ⟨0, 0, 0, Nat.zero_le _, rfl, rfl, rfl, (rfl : _ = _), (rfl : _ = _), by omega, 0, rfl⟩
                case round =>
                  obtain ⟨i, ou, tp, hi, rfl, rfl, rfl, HO, HT, htb, d, hd⟩ := hrel
                  have HD : Hid (wr = w0.drewN d) := hd
                  clear hd
                  by_cases hlt : i ≤ kn
                  · have hlti : (i : Int) ≤ (kn : Int) := by omega
                    obtain ⟨K1, hK1⟩ : ∃ K1, K1 = al15 (fs15 z p q f) i := ⟨_, rfl⟩
                    obtain ⟨K2, hK2⟩ : ∃ K2, K2 = al15 (fs15 z b q f) i := ⟨_, rfl⟩
                    have hb1 : K1 ≤ i := by rw [hK1]; exact al15_le _ _
                    have hb2 : K2 ≤ i := by rw [hK2]; exact al15_le _ _
                    have AK1 := ak15 (p := p) (f := f) (i := i) (v := K1) HSG.out.1 HSG.out.2 hn.out hm.out hzc hqc (by omega) (by omega) hnb hK1.symm
                    have AK2 := ak15 (p := b) (f := f) (i := i) (v := K2) HSG.out.1 HSG.out.2 hn.out hm.out hzc hqc (by omega) (by omega) hnb hK2.symm
                    obtain ⟨az, haz⟩ : ∃ az, (if zc = p then za else za.map (fun x => x.add p)) = az := ⟨_, rfl⟩
                    obtain ⟨ab, hab⟩ : ∃ ab, (if zc = b then za else za.map (fun x => x.add b)) = ab := ⟨_, rfl⟩
                    obtain ⟨aq, haq⟩ : ∃ aq, (if qc = f then qa else qa.map (fun x => x.add f)) = aq := ⟨_, rfl⟩
                    rw [haz, haq] at AK1
                    rw [hab, haq] at AK2
                    have HAK : Hid (∀ xa lx cx ya ly cy k v, Ak15 w0 xa lx cx ya ly cy k v → ∀ W, (∃ d, W = w0.drewN d) → Calls Try.prog 36 #[.slice xa lx cx, .slice ya ly cy, .int .i64 ((k : Nat) : Int)] W fun e w' => e = .returned (.int .i64 ((v : Nat) : Int)) ∧ ∃ d, w' = w0.drewN d) := fun xa lx cx ya ly cy k v A W h => A.out W h
                    have hE : ∃ d, wr.drew = w0.drewN d := ⟨d + 1, by rw [HD.out]; rfl⟩
                    obtain ⟨V, hV⟩ : ∃ V : Int, V = (K1 : Int) - (K2 : Int) := ⟨_, rfl⟩
                    have HGV : Hid (V = sc15 (fs15 z p q f) (fs15 z b q f) i) := by show _ = _; rw [sc15_two, hV, hK1, hK2]
                    have k2 : (K1 : Int) - (K2 : Int) = V := hV.symm
                    have k3w : IntKind.i64.wrap ((K1 : Int) - (K2 : Int)) = V := by rw [k2]; exact IntWalk.i64_in _ (by omega)
                    have k4w : IntKind.i64.wrap V = V := IntWalk.i64_in _ (by omega)
                    have hVb : -140737488351232 ≤ V ∧ V ≤ 140737488351232 := by omega
                    have HN1 : Hid ((if tp < V then i else ou) = bst15 (sc15 (fs15 z p q f) (fs15 z b q f)) i ∧ (if tp < V then V else tp) = top15 (sc15 (fs15 z p q f) (fs15 z b q f)) i) := by
                      have h1 := HO.out
                      have h2 := HT.out
                      have h3 := HGV.out
                      cases i with
                      | zero =>
                        have e1 : V = 0 := h3
                        have e2 : tp = 0 := h2
                        have e3 : ou = 0 := h1
                        show _ ∧ _
                        rw [e1, e2, e3]
                        exact ⟨rfl, rfl⟩
                      | succ i =>
                        rw [Nat.add_sub_cancel] at h1 h2
                        show _ ∧ _
                        rw [h1, h2, h3]
                        exact ⟨rfl, rfl⟩
                    clear hV hK1 hK2 HGV
                    go_wp2_with fail
                    go_region_held3 (fun _ => True) (trivial) (first | (go_at_call 36; refine (HAK.out _ _ _ _ _ _ _ _ (by assumption) _ (by assumption)).mono ?_; rintro e2 w2 ⟨rfl, hE2⟩))
                    all_goals
                      have HD2 : Hid (∃ d, w2 = w0.drewN d) := hE2
                      by_cases hz : tp < V
                      · rw [if_pos hz, if_pos hz] at HN1
                        go_wp2_with fail
                        go_roundw
                        case rel => exact ⟨i + 1, i, V, by omega, by first | rfl | go_num, by first | rfl | go_num, by go_num, (by rw [Nat.add_sub_cancel]; exact HN1.out.1), (by rw [Nat.add_sub_cancel]; exact HN1.out.2), hVb, HD2.out⟩
                        case measure => simp [intOf]; omega
                      · rw [if_neg hz, if_neg hz] at HN1
                        go_wp2_with fail
                        go_roundw
                        case rel => exact ⟨i + 1, ou, tp, by omega, by first | rfl | go_num, by first | rfl | go_num, by go_num, (by rw [Nat.add_sub_cancel]; exact HN1.out.1), (by rw [Nat.add_sub_cancel]; exact HN1.out.2), htb, HD2.out⟩
                        case measure => simp [intOf]; omega
                  · obtain rfl : i = kn + 1 := by omega
                    have HF : Hid (ou = bst15 (sc15 (fs15 z p q f) (fs15 z b q f)) kn) := by have := HO.out; rw [Nat.add_sub_cancel] at this; exact this
                    obtain ⟨M1, hM1⟩ : ∃ M1, M1 = kn + 1 := ⟨_, rfl⟩
                    rw [← hM1]
                    have c1i : ¬ (M1 : Int) ≤ (kn : Int) := by omega
                    clear hM1
                    go_wp2_with fail
                    go_ret
                    exact ⟨by rw [← HF.out]; rfl, d, HD.out⟩
end Go.Proofs.Ytbjjddoeilhomaa

namespace Go.Proofs.Ytbjjddoeilhomaa
open Go.RowKit
set_option linter.unusedVariables false

theorem info_u8' : (Try.prog.info? 5).map (fun i => (i.zero, i.size, i.bytes)) = some (some (.int .u8 0), 1, 1) := by kernel_rfl
def lentL (zs : List Int) : List Int := zs ++ [171, 172, 173, 174, 175]

theorem seg_five (w : World) : Seg (w.alloc (.cells #[.int .u8 171, .int .u8 172, .int .u8 173, .int .u8 174, .int .u8 175] 5)) (some ⟨w.heap.size, 0, none⟩) [171, 172, 173, 174, 175] := by
  refine ⟨fun i hi => ⟨w.heap.size, 0, rfl, ?_⟩, by decide, ?_⟩
  · simp only [List.length_cons, List.length_nil] at hi
    match i, hi with
    | 0, _ => simp
    | 1, _ => simp
    | 2, _ => simp
    | 3, _ => simp
    | 4, _ => simp
  · exact getD_bd (by decide) (by intro z hz; simp at hz; omega)

set_option maxRecDepth 100000 in
set_option maxHeartbeats 400000 in
theorem lend_any (a : Option Addr) (zs : List Int) (cap : Nat) (w : World) (hs : Seg w a zs) (hnil : a = none → cap = 0) (hl : zs.length ≤ 140737488351232) :
    Calls Try.prog 11 #[.slice a zs.length cap] w fun e w' => ∃ g cap', e = .returned (.tuple #[.slice (some ⟨g, 0, none⟩) (zs.length + 5) cap', .slice (some ⟨g, 0, none⟩) zs.length cap']) ∧
      w'.ownsRow w.heap.size 5 1 (.slice (some ⟨g, 0, none⟩) (zs.length + 5) cap') (zs.length + 5) ((lentL zs).map (Value.int .u8)) ∧ Below w.heap.size w w' := by
  obtain ⟨i0, hi, hz0, hz1, hz2⟩ := info_parts info_u8'
  go_enter Try.func11, Try.ntmps11
  have hm0 : (w.alloc (.cells #[] 5)).ownsRow w.heap.size 5 1 (.slice (some ⟨w.heap.size, 0, none⟩) 0 0) 0 [] := World.ownsRow_made w #[] 0 (Nat.le_refl _) (by decide) rfl
  have hb0 : Below w.heap.size w (w.alloc (.cells #[] 5)) := (Below.refl _ _).alloc (Nat.le_refl _) _
  go_wp2_with (first
    | (at_builtin; refine wpList_append_seg rfl (.tmp 5) (.tmp 6) 23 rfl w.heap.size 5 i0 (.int .u8 0) 1 Try.underlying23 hi hz0 hz1 hz2 rfl hm0 (hs.alloc _) hnil rfl rfl (by omega) (by omega) (by simp) ?_; intro v1 w1 hown1 hg1 hb1)
    | (at_builtin; refine wpList_append_seg rfl (.tmp 7) (.tmp 8) 23 rfl w.heap.size 5 i0 (.int .u8 0) 1 Try.underlying23 hi hz0 hz1 hz2 rfl (hown1.alloc _) (seg_five w1) (by intro h; cases h) rfl rfl (by simp; omega) (by simp; omega) (by have := hb1.size; simp at this ⊢; omega) ?_; intro v2 w2 hown2 hg2 hb2))
  obtain ⟨g, cap', rfl, hc2, hg, hgs⟩ := own_shape hown2 (by simp)
  have hcc : (zs.length : Int) ≤ (cap' : Int) := by simp at hc2; omega
  have hs1 := hb1.size
  have hbb : Below w.heap.size w w2 := hb0.trans (hb1.trans (((Below.refl _ _).alloc (by simp at hs1; omega) _).trans hb2))
  have hown3 : w2.ownsRow w.heap.size 5 1 (.slice (some ⟨g, 0, none⟩) (zs.length + 5) cap') (zs.length + 5) ((lentL zs).map (Value.int .u8)) := by
    have := hown2
    simp only [List.nil_append, Nat.zero_add, ← List.map_append] at this
    exact this
  clear hown2 hown1 hg1 hg2 hb1 hb2
  have e5 : 0 + zs.length + ([171, 172, 173, 174, 175] : List Int).length = zs.length + 5 := by simp
  rw [e5]
  clear e5 hc2
  go_region
  go_wp2
  go_ret2
  exact ⟨g, cap', rfl, hown3, hbb.drew⟩

theorem lent_bd {zs : List Int} (h : ∀ z ∈ zs, 0 ≤ z ∧ z ≤ 255) : ∀ z ∈ lentL zs, 0 ≤ z ∧ z ≤ 255 := by
  intro z hz
  unfold lentL at hz
  rw [List.mem_append] at hz
  rcases hz with hz | hz
  · exact h z hz
  · simp at hz; omega

set_option maxRecDepth 100000 in
/-- The longer list is as Lend made it. -/
theorem kept_any (a b : Option Addr) (xs zs : List Int) (ca cap : Nat) (w : World) (hx : Seg w b xs) (hs : Seg w a zs) (hnil : a = none → cap = 0) (hl : zs.length ≤ 140737488351232) :
    Calls Try.prog 14 #[.slice b xs.length ca, .slice a zs.length cap] w fun e w' => e = .returned (.bool (xs == lentL zs)) ∧ Below w.heap.size w w' := by
  go_enter Try.func14, Try.ntmps14
  go_wp2_with fail
  refine (lend_any a zs cap _ hs hnil hl).mono ?_
  rintro e w1 ⟨g, cap', rfl, hown, hb⟩
  obtain ⟨hn, a', c', hv, hseg, _, _, _⟩ := own_seg hown (M := 255) (by decide) (lent_bd hs.mem)
  have ha : a' = some ⟨g, 0, none⟩ := by simp at hv; exact hv.1.symm
  subst ha
  clear hv
  have hx1 := hx.old hb
  go_wp2_with fail
  refine (bsame_any b (some ⟨g, 0, none⟩) xs (lentL zs) ca cap' _ hx1 hseg).mono ?_
  rintro e w2 ⟨rfl, hw2⟩
  subst w2
  go_wp2
  go_ret
  exact ⟨rfl, hb⟩
end Go.Proofs.Ytbjjddoeilhomaa

namespace Go.Proofs.Ytbjjddoeilhomaa
open Go.RowKit
set_option linter.unusedVariables false

/-! ScanPays. -/
/-- A text that is lent: five more behind it. -/
structure Ld15 (w : World) (g c n : Nat) (p : List Int) : Prop where
  seg : Seg w (some ⟨g, 0, none⟩) (lentL p)
  cap : n + 5 ≤ c
  len : p.length = n
theorem Ld15.old {w w' : World} {g c n : Nat} {p : List Int} (h : Ld15 w g c n p) (hb : Below w.heap.size w w') : Ld15 w' g c n p := ⟨h.seg.old hb, h.cap, h.len⟩
theorem Ld15.txt {w : World} {g c n : Nat} {p : List Int} (h : Ld15 w g c n p) : Seg w (some ⟨g, 0, none⟩) p := by
  have := h.seg.take p.length
  rwa [show (lentL p).take p.length = p by simp [lentL]] at this
theorem lend15 {w : World} {a : Option Addr} {p : List Int} {n cap : Nat} (hs : Seg w a p) (hn : Hid (p.length = n)) (hnil : a = none → cap = 0) (hl : n ≤ 140737488351232) {W : World} (hb : Below w.heap.size w W) :
    Calls Try.prog 11 #[.slice a n cap] W fun e w' => ∃ g c, e = .returned (.tuple #[.slice (some ⟨g, 0, none⟩) (n + 5) c, .slice (some ⟨g, 0, none⟩) n c]) ∧ Ld15 w' g c n p ∧ Below w.heap.size w w' ∧ Below W.heap.size W w' := by
  have hn0 := hn.out
  subst hn0
  refine (lend_any a p cap W (hs.old hb) hnil hl).mono ?_
  rintro e w' ⟨g, c, he, hown, hB⟩
  obtain ⟨_, a', c', hv, hseg, _⟩ := own_seg hown (M := 255) (by decide) (lent_bd hs.mem)
  have ha : a' = some ⟨g, 0, none⟩ := by simp at hv; exact hv.1.symm
  subst ha
  obtain ⟨g', cap', hv', hc2, -, -⟩ := own_shape hown (by omega)
  have hcc : p.length + 5 ≤ c := by cases hv'; exact hc2
  exact ⟨g, c, he, ⟨hseg, hcc, rfl⟩, hb.trans (hB.mono hb.size), hB⟩
theorem kept15 {w : World} {a : Option Addr} {p : List Int} {n cap : Nat} (hs : Seg w a p) (hn : Hid (p.length = n)) (hnil : a = none → cap = 0) (hl : n ≤ 140737488351232) {W : World} (hb : Below w.heap.size w W) {g c : Nat} (hL : Ld15 W g c n p) :
    Calls Try.prog 14 #[.slice (some ⟨g, 0, none⟩) (n + 5) c, .slice a n cap] W fun e w' => e = .returned (.bool true) ∧ Below w.heap.size w w' ∧ Below W.heap.size W w' := by
  have hn0 := hn.out
  subst hn0
  have := kept_any a (some ⟨g, 0, none⟩) (lentL p) p c cap W hL.seg (hs.old hb) hnil hl
  rw [show (lentL p).length = p.length + 5 by simp [lentL]] at this
  exact this.mono fun e w' ⟨he, hB⟩ => ⟨by rw [he]; simp, hb.trans (hB.mono hb.size), hB⟩
theorem drewB15 {w W : World} (hb : Below w.heap.size w W) (d : Nat) : Below w.heap.size w (W.drewN d) := hb.trans ((drewN_below15 W d).mono hb.size)
set_option maxRecDepth 100000 in
set_option maxHeartbeats 16000000 in
theorem scanPays_walk (w : World) (a : Option Addr) (z : List Int) (ca : Nat) (hs : Seg w a z) (hc : z.length ≤ ca) (hnil : a = none → ca = 0) (hl : z.length ≤ 140737488351232) (qa : Option Addr) (q : List Int) (qc : Nat) (hq : Seg w qa q) (hqc : q.length ≤ qc) (hqn : qa = none → qc = 0) (hql : q.length ≤ 140737488351232)
    (x1 : Int) (u1 : -9223372036854775808 ≤ x1) (v1 : x1 ≤ 9223372036854775807) (x2 : Int) (u2 : -9223372036854775808 ≤ x2) (v2 : x2 ≤ 9223372036854775807) (x3 : Int) (u3 : -9223372036854775808 ≤ x3) (v3 : x3 ≤ 9223372036854775807) (x4 : Int) (u4 : -9223372036854775808 ≤ x4) (v4 : x4 ≤ 9223372036854775807) :
    Calls Try.prog 5 #[.slice a z.length ca, .slice qa q.length qc, .agg #[.int .i64 x1, .int .i64 x2, .int .i64 x3, .int .i64 x4]] w fun e w' => e = .returned (.bool true) ∧ Below w.heap.size w w' := by
  generalize hn0 : z.length = n at *
  have hn : Hid (z.length = n) := hn0
  generalize hm0 : q.length = m at *
  have hm : Hid (q.length = m) := hm0
  clear hn0 hm0
  obtain ⟨W, hW⟩ : ∃ W, W = w.alloc (.cells #[.int .i64 x1, .int .i64 x2, .int .i64 x3, .int .i64 x4] 41) := ⟨_, rfl⟩
  have HW : Hid (W = w.alloc (.cells #[.int .i64 x1, .int .i64 x2, .int .i64 x3, .int .i64 x4] 41)) := hW
  have BW : Below w.heap.size w W := by rw [hW]; exact (Below.refl _ _).alloc (Nat.le_refl _) _
  have gp : W.heap[w.heap.size]? = some (.cells #[.int .i64 x1, .int .i64 x2, .int .i64 x3, .int .i64 x4] 41 (0, 0)) := by rw [hW]; exact heap_alloc_new _ _
  have L1 := lend15 hs hn hnil hl BW
  have HL2 : Hid (∀ W', Below w.heap.size w W' → Calls Try.prog 11 #[.slice qa m qc] W' fun e w' => ∃ g c, e = .returned (.tuple #[.slice (some ⟨g, 0, none⟩) (m + 5) c, .slice (some ⟨g, 0, none⟩) m c]) ∧ Ld15 w' g c m q ∧ Below w.heap.size w w' ∧ Below W'.heap.size W' w') := fun W' hb => lend15 hq hm hqn hql hb
  have HK1 : Hid (∀ W' g c, Below w.heap.size w W' → Ld15 W' g c n z → Calls Try.prog 14 #[.slice (some ⟨g, 0, none⟩) (n + 5) c, .slice a n ca] W' fun e w' => e = .returned (.bool true) ∧ Below w.heap.size w w' ∧ Below W'.heap.size W' w') := fun W' g c hb hL => kept15 hs hn hnil hl hb hL
  have HK2 : Hid (∀ W' g c, Below w.heap.size w W' → Ld15 W' g c m q → Calls Try.prog 14 #[.slice (some ⟨g, 0, none⟩) (m + 5) c, .slice qa m qc] W' fun e w' => e = .returned (.bool true) ∧ Below w.heap.size w w' ∧ Below W'.heap.size W' w') := fun W' g c hb hL => kept15 hq hm hqn hql hb hL
  have HR : Hid (∀ w2 : World, Below w.heap.size w w2 → ∀ W', Below w2.heap.size w2 W' →
      (Calls Try.prog 18 #[.slice a n ca, .int .i64 x1, .slice qa m qc, .int .i64 x3, .int .i64 x4] W' fun e w' => e = .returned (.int .i64 ((fw15 z x1 q x3 x4 : Nat) : Int)) ∧ Below w2.heap.size w2 w') ∧
      (Calls Try.prog 20 #[.slice a n ca, .int .i64 x1, .slice qa m qc, .int .i64 x3, .int .i64 x4] W' fun e w' => e = .returned (.int .i64 ((bw15 z x1 q x3 x4 : Nat) : Int)) ∧ Below w2.heap.size w2 w') ∧
      (Calls Try.prog 22 #[.slice a n ca, .int .i64 x1, .int .i64 x2, .slice qa m qc, .int .i64 x3, .int .i64 x4] W' fun e w' => e = .returned (.int .i64 ((sp15 z x1 x2 q x3 x4 : Nat) : Int)) ∧ Below w2.heap.size w2 w')) := fun w2 hb2 W' hb => by
    have hb3 := hb2.trans (hb.mono hb2.size)
    refine ⟨(rfw15 a z n ca x1 qa q m qc x3 x4 W' (hs.old hb3) (hq.old hb3) hn hm hl hql hc hqc).mono ?_, (rbw15 a z n ca x1 qa q m qc x3 x4 W' (hs.old hb3) (hq.old hb3) hn hm hl hql hc hqc).mono ?_, (rsp15 a z n ca x1 x2 qa q m qc x3 x4 W' (hs.old hb3) (hq.old hb3) hn hm hl hql hc hqc v4).mono ?_⟩
    · rintro e w' ⟨he, d, rfl⟩; exact ⟨he, drewB15 hb d⟩
    · rintro e w' ⟨he, d, rfl⟩; exact ⟨he, drewB15 hb d⟩
    · rintro e w' ⟨he, d, rfl⟩; exact ⟨he, drewB15 hb d⟩
  have HP : Hid (∀ (w2 : World) (g1 c1 g2 c2 : Nat), Ld15 w2 g1 c1 n z → Ld15 w2 g2 c2 m q → ∀ W', Below w2.heap.size w2 W' →
      (Calls Try.prog 17 #[.slice (some ⟨g1, 0, none⟩) n c1, .int .i64 x1, .slice (some ⟨g2, 0, none⟩) m c2, .int .i64 x3, .int .i64 x4] W' fun e w' => e = .returned (.int .i64 ((fw15 z x1 q x3 x4 : Nat) : Int)) ∧ Below w2.heap.size w2 w') ∧
      (Calls Try.prog 19 #[.slice (some ⟨g1, 0, none⟩) n c1, .int .i64 x1, .slice (some ⟨g2, 0, none⟩) m c2, .int .i64 x3, .int .i64 x4] W' fun e w' => e = .returned (.int .i64 ((bw15 z x1 q x3 x4 : Nat) : Int)) ∧ Below w2.heap.size w2 w') ∧
      (Calls Try.prog 21 #[.slice (some ⟨g1, 0, none⟩) n c1, .int .i64 x1, .int .i64 x2, .slice (some ⟨g2, 0, none⟩) m c2, .int .i64 x3, .int .i64 x4] W' fun e w' => e = .returned (.int .i64 ((sp15 z x1 x2 q x3 x4 : Nat) : Int)) ∧ Below w2.heap.size w2 w')) := fun w2 g1 c1 g2 c2 h1 h2 W' hb => by
    have s1 := h1.txt.old hb
    have s2 := h2.txt.old hb
    refine ⟨(pfw15 _ z n c1 x1 _ q m c2 x3 x4 W' s1 s2 hn hm hl hql).mono ?_, (pbw15 _ z n c1 x1 _ q m c2 x3 x4 W' s1 s2 hn hm hl hql).mono ?_, (psp15 _ z n c1 x1 x2 _ q m c2 x3 x4 W' s1 s2 hn hm hl hql v4).mono ?_⟩
    · rintro e w' ⟨he, hB⟩; exact ⟨he, hb.trans (hB.mono hb.size)⟩
    · rintro e w' ⟨he, hB⟩; exact ⟨he, hb.trans (hB.mono hb.size)⟩
    · rintro e w' ⟨he, hB⟩; exact ⟨he, hb.trans (hB.mono hb.size)⟩
  have HCa : Hid (∀ w1 : World, (convert 23 23 (.slice (some ⟨w1.heap.size, 0, none⟩) 6 6)).run Try.prog (w1.alloc (.cells #[.int .u8 97, .int .u8 98, .int .u8 99, .int .u8 100, .int .u8 101, .int .u8 102] 5)) = .ok (.slice (some ⟨w1.heap.size, 0, none⟩) 6 6) (w1.alloc (.cells #[.int .u8 97, .int .u8 98, .int .u8 99, .int .u8 100, .int .u8 101, .int .u8 102] 5 (6, 7)))) := fun w1 => Lib.run_convert_bytes_const (P := Try.prog) w1 23 5 #[.int .u8 97, .int .u8 98, .int .u8 99, .int .u8 100, .int .u8 101, .int .u8 102] 6 6 Try.underlying23 Try.underlying5
  have HCb : Hid (∀ w1 : World, (convert 23 23 (.slice (some ⟨w1.heap.size, 0, none⟩) 6 6)).run Try.prog (w1.alloc (.cells #[.int .u8 97, .int .u8 98, .int .u8 120, .int .u8 100, .int .u8 121, .int .u8 121] 5)) = .ok (.slice (some ⟨w1.heap.size, 0, none⟩) 6 6) (w1.alloc (.cells #[.int .u8 97, .int .u8 98, .int .u8 120, .int .u8 100, .int .u8 121, .int .u8 121] 5 (6, 7)))) := fun w1 => Lib.run_convert_bytes_const (P := Try.prog) w1 23 5 #[.int .u8 97, .int .u8 98, .int .u8 120, .int .u8 100, .int .u8 121, .int .u8 121] 6 6 Try.underlying23 Try.underlying5
  have HEX : Hid (fw15 [97, 98, 99, 100, 101, 102] 0 [97, 98, 120, 100, 121, 121] 0 6 = 2) := by show _ = _; decide
  clear hs hq hW
  generalize fw15 z x1 q x3 x4 = F at *
  generalize bw15 z x1 q x3 x4 = B at *
  generalize sp15 z x1 x2 q x3 x4 = S at *
  go_enter Try.func5, Try.ntmps5
  go_wp2_with (first
    | (go_at_call 11; fail))
  rw [← HW.out]
  obtain ⟨pb, hpb⟩ : ∃ pb, pb = w.heap.size := ⟨_, rfl⟩
  rw [← hpb] at gp ⊢
  clear hpb
  refine L1.mono ?_
  rintro e1 w1 ⟨g1, c1, rfl, D1, B1, B01⟩
  have gp1 := (B01.block pb (Array.getElem?_eq_some_iff.1 gp).1).trans gp
  clear L1 gp B01
  go_wp2_with (first
    | (go_at_call 11; fail))
  refine (HL2.out w1 B1).mono ?_
  rintro e2 w2 ⟨g2, c2, rfl, D2, B2, B12⟩
  have gp2 := (B12.block pb (Array.getElem?_eq_some_iff.1 gp1).1).trans gp1
  have D1' := D1.old B12
  have HCL : Hid (∀ W', Below w2.heap.size w2 W' → W'.cell? ⟨pb, 0, none⟩ = some (.int .i64 x1) ∧ W'.cell? ⟨pb, 2, none⟩ = some (.int .i64 x3) ∧ W'.cell? ⟨pb, 3, none⟩ = some (.int .i64 x4)) := fun W' hb => by
    have g := (hb.block pb (Array.getElem?_eq_some_iff.1 gp2).1).trans gp2
    refine ⟨?_, ?_, ?_⟩ <;> simp [World.cell?, g]
  have HCL1 : Hid (∀ W', Below w2.heap.size w2 W' → W'.cell? ⟨pb, 1, none⟩ = some (.int .i64 x2)) := fun W' hb => by
    have g := (hb.block pb (Array.getElem?_eq_some_iff.1 gp2).1).trans gp2
    simp [World.cell?, g]
  have HLD : Hid (∀ W', Below w2.heap.size w2 W' → Ld15 W' g1 c1 n z ∧ Ld15 W' g2 c2 m q) := fun W' hb => ⟨D1'.old hb, D2.old hb⟩
  have HPP : Hid (∀ W', Below w2.heap.size w2 W' → _) := fun W' hb => HP.out w2 g1 c1 g2 c2 D1' D2 W' hb
  have HRR : Hid (∀ W', Below w2.heap.size w2 W' → _) := fun W' hb => HR.out w2 B2 W' hb
  clear HP HR D1 D2 D1' gp1 gp2 HL2 B12
  have BD : Below w2.heap.size w2 w2.drew := (Below.refl _ _).drew
  go_wp2_with fail
  go_region_held3 (fun W => W.cell? ⟨pb, 0, none⟩ = some (.int .i64 x1) ∧ W.cell? ⟨pb, 2, none⟩ = some (.int .i64 x3) ∧ W.cell? ⟨pb, 3, none⟩ = some (.int .i64 x4)) (first | exact HCL.out _ (by assumption) | go_keep) (first
    | (go_at_call 17; refine (HPP.out _ (by assumption)).1.mono ?_; rintro e3 w3 ⟨rfl, B3⟩)
    | (go_at_call 18; refine (HRR.out _ (by assumption)).1.mono ?_; rintro e3 w3 ⟨rfl, B3⟩)
    | (go_at_call 19; refine (HPP.out _ (by assumption)).2.1.mono ?_; rintro e3 w3 ⟨rfl, B3⟩)
    | (go_at_call 20; refine (HRR.out _ (by assumption)).2.1.mono ?_; rintro e3 w3 ⟨rfl, B3⟩))
  have HB3 : Hid (Below w2.heap.size w2 w3) := B3
  clear BD
  rename_i w3x B3x
  clear B3x
  clear B3
  have BD : Below w2.heap.size w2 w3.drew := HB3.out.trans ((Below.refl w3.heap.size w3).drew.mono HB3.out.size)
  go_wp2_with fail
  go_region_held3 (fun W => W.cell? ⟨pb, 0, none⟩ = some (.int .i64 x1) ∧ W.cell? ⟨pb, 1, none⟩ = some (.int .i64 x2) ∧ W.cell? ⟨pb, 2, none⟩ = some (.int .i64 x3) ∧ W.cell? ⟨pb, 3, none⟩ = some (.int .i64 x4)) (first | exact ⟨(HCL.out _ (by assumption)).1, HCL1.out _ (by assumption), (HCL.out _ (by assumption)).2⟩ | go_keep) (first
    | (go_at_call 21; refine (HPP.out _ (by assumption)).2.2.mono ?_; rintro e4 w4 ⟨rfl, B4⟩)
    | (go_at_call 22; refine (HRR.out _ (by assumption)).2.2.mono ?_; rintro e4 w4 ⟨rfl, B4⟩))
  all_goals
    have F4 : Below w.heap.size w w4 := B2.trans (B4.mono B2.size)
    obtain ⟨E1, E2⟩ := HLD.out w4 B4
    have CK1 := HK1.out w4 g1 c1 F4 E1
    have HE2 : Hid (Ld15 w4 g2 c2 m q) := E2
    clear HPP HRR HCL HCL1 HLD E1 E2 BD
    go_wp2_with (first
      | (go_at_call 14; fail))
    refine CK1.mono ?_
    rintro e5 w5 ⟨rfl, F5, B45⟩
    have CK2 := HK2.out w5 g2 c2 F5 (HE2.out.old B45)
    clear CK1
    go_wp2_with (first
      | (go_at_call 14; fail))
    refine CK2.mono ?_
    rintro e6 w6 ⟨rfl, F6, -⟩
    clear CK2 HE2 B45
    have hca := HCa.out w6
    obtain ⟨w7, hw7⟩ : ∃ w7, w7 = w6.alloc (.cells #[.int .u8 97, .int .u8 98, .int .u8 99, .int .u8 100, .int .u8 101, .int .u8 102] 5 (6, 7)) := ⟨_, rfl⟩
    have hw7s : w7.heap.size = w6.heap.size + 1 := by rw [hw7]; simp
    have hcb := HCb.out w7
    have A7 : Below w6.heap.size w6 w7 := by rw [hw7]; exact (Below.refl _ _).alloc (Nat.le_refl _) _
    have A8 : Below w7.heap.size w7 (w7.alloc (.cells #[.int .u8 97, .int .u8 98, .int .u8 120, .int .u8 100, .int .u8 121, .int .u8 121] 5 (6, 7))) := (Below.refl _ _).alloc (Nat.le_refl _) _
    have sg7 : Seg w7 (some ⟨w6.heap.size, 0, none⟩) [97, 98, 99, 100, 101, 102] := by rw [hw7]; exact seg_lit15 w6 [97, 98, 99, 100, 101, 102] 5 (6, 7) (by decide)
    have CF := pfw15 (some ⟨w6.heap.size, 0, none⟩) [97, 98, 99, 100, 101, 102] 6 6 0 (some ⟨w7.heap.size, 0, none⟩) [97, 98, 120, 100, 121, 121] 6 6 0 6 _ (sg7.old A8) (seg_lit15 w7 [97, 98, 120, 100, 121, 121] 5 (6, 7) (by decide)) rfl rfl (by omega) (by omega)
    have F8 : Below w.heap.size w (w7.alloc (.cells #[.int .u8 97, .int .u8 98, .int .u8 120, .int .u8 100, .int .u8 121, .int .u8 121] 5 (6, 7))) := (F6.trans (A7.mono F6.size)).trans (A8.mono (by have := F6.size; have := A7.size; omega))
    rw [HEX.out] at CF
    rw [hw7] at CF hcb F8
    rw [size_alloc15] at CF hcb
    have HCF : Hid (Calls Try.prog 17 #[.slice (some ⟨w6.heap.size, 0, none⟩) 6 6, .int .i64 0, .slice (some ⟨w6.heap.size + 1, 0, none⟩) 6 6, .int .i64 0, .int .i64 6] ((w6.alloc (.cells #[.int .u8 97, .int .u8 98, .int .u8 99, .int .u8 100, .int .u8 101, .int .u8 102] 5 (6, 7))).alloc (.cells #[.int .u8 97, .int .u8 98, .int .u8 120, .int .u8 100, .int .u8 121, .int .u8 121] 5 (6, 7))) fun e w' => e = .returned (.int .i64 2) ∧ Below w.heap.size w w') := CF.mono fun e w' ⟨he, hB⟩ => ⟨he, F8.trans (hB.mono F8.size)⟩
    clear CF A7 A8 sg7 hw7 hw7s F8
    go_wp2_with (first
      | (go_at_call 17; refine HCF.out.mono ?_; rintro e9 w9 ⟨rfl, F9⟩)
      | (go_at_call 9; refine (plives15 _).mono ?_; rintro e10 w10 ⟨rfl, B10⟩))
    go_ret
    exact ⟨by first | rfl | simp, F9.trans (B10.mono F9.size)⟩
end Go.Proofs.Ytbjjddoeilhomaa

namespace Go.Proofs.Ytbjjddoeilhomaa
open Go.ChangeShapes Go.WideShapes Go.ChangeAt Go.RowKit
set_option linter.unusedVariables false

/-- A slice of whole numbers that came in: what lies there, and how it was read. -/
theorem open_seg {H : Type} {enc : TypeId × Value → H} {P : Program} {W : World} {T e : TypeId} {k : IntKind} {M : Int} {a : Option Addr} {len cap : Nat} {d : DataW H} {p : List MemPlace}
    (hT : P.underlying T = some (.slice e)) (he : P.underlying e = some (.int k)) (hc : P.cellsOf e = 1) (hM : 0 ≤ M) (hwf : ∀ n, (Lit.int k n).wf = true → 0 ≤ n ∧ n ≤ M)
    (h : DataW.Trod enc P W 0 (fun _ => true) true T (.slice a len cap) d p) :
    ∃ zs : List Int, zs.length = len ∧ SegK k M W a zs ∧ len ≤ cap ∧ (a = none → cap = 0) ∧ ((d = .nil ∧ len = 0) ∨ ∃ elems spare, d = .slice elems spare ∧ elems.length = len) := by
  obtain ⟨fuel, hf⟩ := h
  rcases open_ints hT he hc hf with ⟨hcs, hx⟩ | ⟨x, l, c, zs, hcs, _, hl, hm, hz, hx, hcell, hwz⟩
  · simp [Value.cells] at hcs
    obtain ⟨rfl, rfl, rfl⟩ := hcs
    simp only [Prod.mk.injEq] at hx
    exact ⟨[], rfl, SegK.nil hM _ _, Nat.le_refl _, fun _ => rfl, Or.inl ⟨hx.1, rfl⟩⟩
  · simp [Value.cells] at hcs
    obtain ⟨rfl, rfl, rfl⟩ := hcs
    simp only [Prod.mk.injEq] at hx
    simp only [if_true] at hz
    refine ⟨zs.take len, by simp; omega, ⟨fun i hi => ?_, hM, getD_bd hM ?_⟩, hl, (by intro h; cases h), Or.inr ⟨_, _, hx.1, by simp [ChangeShapes.lits]; omega⟩⟩
    · simp at hi
      have hi2 : i < len := by omega
      have h1 := hcell i (by omega)
      obtain ⟨b, off, spot⟩ := x
      have hs : spot = none := by
        have := hcell 0 (by omega)
        simpa [Addr.add] using World.cell?_spot this
      subst hs
      refine ⟨b, off, rfl, ?_⟩
      have hadd : (⟨b, off, none⟩ : Addr).add i = ⟨b, off + i, none⟩ := by unfold Addr.add; split <;> simp_all
      rw [hadd] at h1
      rw [h1]
      simp [List.getD, hi2]
    · intro z hz1
      exact hwf z (hwz z (List.mem_of_mem_take hz1))
end Go.Proofs.Ytbjjddoeilhomaa
