import Derived.Test.YtkjccbihdinlkaaPq
import Derived.Test.YtkjccbihdinlkaaProg
import Derived.Test.YtkjccbihdinlkaaPc
import Derived.Test.YtkjccbihdinlkaaPn
import Derived.WalkKit
import Derived.WalkSpells
import Derived.WalkLawsBesides
import Derived.Deep.QuietTactic
import Derived.BigQuiet
import Derived.Test.YtkjccbihdinlkaaPp
namespace Go.Proofs.Ytkjccbihdinlkaa
open Go.RowKit
set_option linter.unusedVariables false

theorem u8_and_one (v : Nat) (hv : v < 256) : bits .and .u8 (v : Int) 1 = ((v % 2 : Nat) : Int) := by
  have := u8_and_nat v 1 hv (by decide)
  rw [show ((1 : Nat) : Int) = 1 from rfl] at this
  rw [this, Nat.and_one_is_mod]

set_option maxRecDepth 100000 in
set_option maxHeartbeats 4000000 in
theorem rfeed_any (b B : Nat) (v : Value) (L : List Bool) (g : Nat) (pa : Option Addr) (p : List Int) (pc : Nat) (w : World) (h : RrL w b B v L g) (hle : L.length ≤ 64) (hs : Seg w pa p) (hcap : p.length ≤ pc) (hfar : ∀ g off, pa = some ⟨g, off, none⟩ → 0 < p.length → g < b ∧ g < B) (hl : p.length ≤ 4611686018427387904) :
    Calls Try.prog 30 #[.pointer (some ⟨b, 0, none⟩), .slice pa p.length pc] w fun e w' => e = .returned (.int .i64 (feedN L p.length : Int)) ∧ ∃ v', RrL w' b B v' (L ++ bB (p.take (feedN L p.length))) g ∧ Kp (WS b v) w w' ∧ Fresh w v v' := by
  obtain ⟨i0, hi, hz0, hz1, hz2⟩ := info_parts info_b1
  have C := rspace_any b B v L g w h hle
  obtain ⟨m, hm⟩ : ∃ m, m = feedN L p.length := ⟨_, rfl⟩
  rw [← hm]
  have hmp : m ≤ p.length := by rw [hm]; unfold feedN; omega
  have hm8 : L.length + 8 * m ≤ 64 := by rw [hm]; unfold feedN; omega
  have hmn : m = min p.length ((64 - L.length) / 8) := hm
  have hsl : (m : Int) ≤ (pc : Int) := by omega
  have far : ∀ {W : World} {a : Option Addr} {cap : Nat} {M : List Bool} {xs : List Value}, RB W b B 65 xs a cap M → ∀ g off, pa = some ⟨g, off, none⟩ → 0 < p.length → ¬ WS b (.slice a M.length cap) g := by
    intro W a cap M xs hW g off e hp
    have hg := hfar g off e hp
    rintro (e2 | e2)
    · omega
    · have := (hW.own_lt g e2).1; omega
  have HF : Hid (∀ {W : World} {a : Option Addr} {cap : Nat} {M : List Bool} {xs : List Value}, RB W b B 65 xs a cap M → ∀ g off, pa = some ⟨g, off, none⟩ → 0 < p.length → ¬ WS b (.slice a M.length cap) g) := far
  obtain ⟨a, cap, rfl, h⟩ := h
  clear hm far hfar
  generalize (64 - L.length) / 8 = sp at *
  by_cases hsp : p.length < sp
  · obtain rfl : m = p.length := by omega
    clear hmn
    go_enter Try.func30, Try.ntmps30
    go_wp2_with fail
    refine C.mono ?_
    rintro e w1 ⟨rfl, hw1⟩
    subst w1
    go_wp2
    go_loopw [21] (fun ti wr => ∃ (i : Nat) (a1 : Option Addr) (cap1 : Nat), i ≤ p.length ∧ ti = .int .i64 (i : Int) ∧ RB wr b B 65 [.int .i64 (g : Int)] a1 cap1 (L ++ bB (p.take i)) ∧ Seg wr pa p ∧ Kp (WS b (.slice a L.length cap)) w wr ∧ Fresh w (.slice a L.length cap) (.slice a1 (L ++ bB (p.take i)).length cap1)) (fun ti _ => p.length - (intOf ti).toNat)
    case atStart => exact ⟨0, a, cap, Nat.zero_le _, rfl, by simpa [bB] using h, hs, Kp.refl _ _, by simpa [bB] using Fresh.refl w (.slice a L.length cap)⟩
    case round =>
      obtain ⟨i, a1, cap1, hik, rfl, hr, qs, hkr, hfr⟩ := hrel
      by_cases hlt : i < p.length
      · have hlt2 : (i : Int) < (p.length : Int) := by omega
        have qs2 := qs
        obtain ⟨pg, po, rfl, hcell⟩ := qs.at_ i (by omega)
        have hz := qs.bd i
        have HT : Hid (L ++ bB (p.take (i + 1)) = L ++ bB (p.take i) ++ bN (p.getD i 0).toNat 8) := by
          show _ = _
          rw [List.take_succ_eq_append_getElem (by omega), bB_append, bB_one, List.append_assoc]
          simp [List.getD, show i < p.length by omega]
        have hlen : (L ++ bB (p.take i)).length = L.length + 8 * i := by rw [List.length_append, bB_len, List.length_take]; omega
        obtain ⟨z, hzz⟩ : ∃ z : Nat, p.getD i 0 = z := ⟨(p.getD i 0).toNat, by omega⟩
        rw [hzz] at hcell HT hz
        rw [Int.toNat_natCast] at HT
        have hz256 : z < 256 := by omega
        have hh56 : (L ++ bB (p.take i)).length ≤ 56 := by omega
        clear hzz hz hlen
        generalize L ++ bB (p.take i) = G at *
        obtain ⟨wo, hwo⟩ : ∃ wo, wo = wr := ⟨_, rfl⟩
        go_wp2
        clear hcell
        go_loopw [8] (fun tj wr => ∃ (j : Nat) (a2 : Option Addr) (cap2 : Nat), j ≤ 8 ∧ tj = .int .i64 (j : Int) ∧ RB wr b B 65 [.int .i64 (g : Int)] a2 cap2 (G ++ bN z j) ∧ Seg wr (some ⟨pg, po, none⟩) p ∧ Kp (WS b (.slice a L.length cap)) w wr ∧ Fresh w (.slice a L.length cap) (.slice a2 (G ++ bN z j).length cap2)) (fun tj _ => 8 - (intOf tj).toNat)
        case atStart => exact ⟨0, a1, cap1, Nat.zero_le _, rfl, by simpa [bN] using hr, qs2, hkr, by simpa [bN] using hfr⟩
        case round =>
          obtain ⟨j, a2, cap2, hj8, rfl, hr2, qs3, hkr2, hfr2⟩ := hrel
          clear hr qs qs2 hkr hfr hwo
          have hbs : bN z (j + 1) = bN z j ++ [z.testBit j] := bN_succ z j
          have HB : Hid (G ++ bN z (j + 1) = (G ++ bN z j) ++ [z.testBit j]) := by show _ = _; rw [hbs, List.append_assoc]
          have hlt1 : (G ++ bN z j).length + 1 ≤ 140737488355328 := by rw [List.length_append, bN_len]; omega
          obtain ⟨M, hM⟩ : ∃ M, M = G ++ bN z j := ⟨_, rfl⟩
          rw [← hM] at hr2 hfr2 hlt1 HB
          have HM : Hid (M = G ++ bN z j) := hM
          clear hbs hM
          by_cases hj : j < 8
          · have hq := shr_nat z j
            have hq2 : z / 2 ^ j < 256 := Nat.lt_of_le_of_lt (Nat.div_le_self _ _) hz256
            have ha := u8_and_one (z / 2 ^ j) hq2
            have hb := bit_eq z j
            generalize z / 2 ^ j = q at *
            have hb2 : q % 2 < 2 := by omega
            generalize q % 2 = bb at *
            generalize z.testBit j = y at *
            have hjI : (j : Int) < 8 := by omega
            have hd0 := hr2.cell0
            have hdf0 := hr2.free 0
            have hltr := hr2.b_lt
            have hfa : ∀ o, (wr.alloc o).frozen? ⟨b, 0, none⟩ = false := fun o => (((Below.refl wr.heap.size wr).alloc (Nat.le_refl _) o).frozen (p := ⟨b, 0, none⟩) hltr).trans hdf0
            have hca : ∀ o, (wr.alloc o).cell? ⟨b, 0, none⟩ = some (.slice a2 M.length cap2) := fun o => (((Below.refl wr.heap.size wr).alloc (Nat.le_refl _) o).cell (p := ⟨b, 0, none⟩) hltr).trans hd0
            have hown1 := hr2.own
            have hbase := hr2.bB
            have hne := hr2.ne
            go_wp2
            go_region_law
              (refine step_append_lies _ (by rfl) _ _ _ (by rfl) B 4 i0 _ 1 1 Try.underlying48 hi hz0 hz1 hz2 rfl (by omega) (.slice a2 M.length cap2) M.length (M.map Value.bool) (by rfl) ((hown1.alloc _).drew)
                  ⟨wr.heap.size, 0, none⟩ 1 1 [.bool y] (by rfl) (by rfl) (World.news_of_block (cs := #[.bool y]) (t := 4) (fr := (0, 0)) (heap_alloc_new wr _)) (by simp [Value.oneCell'])
                  (by omega) (by unfold maxLen; omega) (by omega) (by simp; omega) (wr.heap.size + 1) (by simp) ?_; intro gg cap3 w2 hown2 hgrow hat hlt3
               have hx0 := (hgrow.cell_far ⟨b, 0, none⟩ (by simp; omega) (Ne.symm hne)).trans (hca _)
               have hxf := (hgrow.frozen_far ⟨b, 0, none⟩ (by simp; omega) (Ne.symm hne)).trans (hfa _))
            all_goals
              have hpu := hr2.pushed hown2 hgrow hat
              have hsN := qs3.kp hpu.2.1 (HF.out hr2)
              generalize w2.setCell ⟨b, 0, none⟩ (.slice (some ⟨gg, 0, none⟩) (M.length + 1) cap3) = w3 at *
              clear hx0 hxf hgrow hown2 hd0 hdf0 hfa hca hown1 hr2 qs3
              go_wp2
              go_roundw
              case rel => exact ⟨j + 1, _, cap3, by omega, by go_num, by rw [HB.out]; exact hpu.1, hsN, hkr2.trans hpu.2.1 (fun j hj e => ws_back hfr2 hj e), by rw [HB.out]; exact hfr2.trans hpu.2.2 hkr2.size⟩
              case measure => simp [intOf]; omega
          · have HJ : Hid (j = 8) := by show _ = _; omega
            have hge : 8 ≤ (j : Int) := by omega
            clear hj hj8
            have HE : Hid (M = G ++ bN z 8) := by show _ = _; rw [HM.out, HJ.out]
            go_wp2
            go_roundw
            case rel => exact ⟨i + 1, a2, cap2, by omega, by go_num, by rw [HT.out, ← HE.out]; exact hr2, qs3, hkr2, by rw [HT.out, ← HE.out]; exact hfr2⟩
            case measure => simp [intOf]; omega
      · have HI : Hid (i = p.length) := by show _ = _; omega
        have hge : (p.length : Int) ≤ (i : Int) := by omega
        clear hlt hik
        go_wp2
        go_ret
        rw [HI.out] at hr hfr
        exact ⟨rfl, _, ⟨a1, cap1, rfl, hr⟩, hkr, hfr⟩
  · obtain rfl : sp = m := by omega
    clear hmn
    go_enter Try.func30, Try.ntmps30
    go_wp2_with fail
    refine C.mono ?_
    rintro e w1 ⟨rfl, hw1⟩
    subst w1
    go_wp2
    go_loopw [21] (fun ti wr => ∃ (i : Nat) (a1 : Option Addr) (cap1 : Nat), i ≤ sp ∧ ti = .int .i64 (i : Int) ∧ RB wr b B 65 [.int .i64 (g : Int)] a1 cap1 (L ++ bB (p.take i)) ∧ Seg wr pa p ∧ Kp (WS b (.slice a L.length cap)) w wr ∧ Fresh w (.slice a L.length cap) (.slice a1 (L ++ bB (p.take i)).length cap1)) (fun ti _ => sp - (intOf ti).toNat)
    case atStart => exact ⟨0, a, cap, Nat.zero_le _, rfl, by simpa [bB] using h, hs, Kp.refl _ _, by simpa [bB] using Fresh.refl w (.slice a L.length cap)⟩
    case round =>
      obtain ⟨i, a1, cap1, hik, rfl, hr, qs, hkr, hfr⟩ := hrel
      by_cases hlt : i < sp
      · have hlt2 : (i : Int) < (sp : Int) := by omega
        have qs2 := qs
        obtain ⟨pg, po, rfl, hcell⟩ := qs.at_ i (by omega)
        have hz := qs.bd i
        have HT : Hid (L ++ bB (p.take (i + 1)) = L ++ bB (p.take i) ++ bN (p.getD i 0).toNat 8) := by
          show _ = _
          rw [List.take_succ_eq_append_getElem (by omega), bB_append, bB_one, List.append_assoc]
          simp [List.getD, show i < p.length by omega]
        have hlen : (L ++ bB (p.take i)).length = L.length + 8 * i := by rw [List.length_append, bB_len, List.length_take]; omega
        obtain ⟨z, hzz⟩ : ∃ z : Nat, p.getD i 0 = z := ⟨(p.getD i 0).toNat, by omega⟩
        rw [hzz] at hcell HT hz
        rw [Int.toNat_natCast] at HT
        have hz256 : z < 256 := by omega
        have hh56 : (L ++ bB (p.take i)).length ≤ 56 := by omega
        clear hzz hz hlen
        generalize L ++ bB (p.take i) = G at *
        obtain ⟨wo, hwo⟩ : ∃ wo, wo = wr := ⟨_, rfl⟩
        go_wp2
        clear hcell
        go_loopw [8] (fun tj wr => ∃ (j : Nat) (a2 : Option Addr) (cap2 : Nat), j ≤ 8 ∧ tj = .int .i64 (j : Int) ∧ RB wr b B 65 [.int .i64 (g : Int)] a2 cap2 (G ++ bN z j) ∧ Seg wr (some ⟨pg, po, none⟩) p ∧ Kp (WS b (.slice a L.length cap)) w wr ∧ Fresh w (.slice a L.length cap) (.slice a2 (G ++ bN z j).length cap2)) (fun tj _ => 8 - (intOf tj).toNat)
        case atStart => exact ⟨0, a1, cap1, Nat.zero_le _, rfl, by simpa [bN] using hr, qs2, hkr, by simpa [bN] using hfr⟩
        case round =>
          obtain ⟨j, a2, cap2, hj8, rfl, hr2, qs3, hkr2, hfr2⟩ := hrel
          clear hr qs qs2 hkr hfr hwo
          have hbs : bN z (j + 1) = bN z j ++ [z.testBit j] := bN_succ z j
          have HB : Hid (G ++ bN z (j + 1) = (G ++ bN z j) ++ [z.testBit j]) := by show _ = _; rw [hbs, List.append_assoc]
          have hlt1 : (G ++ bN z j).length + 1 ≤ 140737488355328 := by rw [List.length_append, bN_len]; omega
          obtain ⟨M, hM⟩ : ∃ M, M = G ++ bN z j := ⟨_, rfl⟩
          rw [← hM] at hr2 hfr2 hlt1 HB
          have HM : Hid (M = G ++ bN z j) := hM
          clear hbs hM
          by_cases hj : j < 8
          · have hq := shr_nat z j
            have hq2 : z / 2 ^ j < 256 := Nat.lt_of_le_of_lt (Nat.div_le_self _ _) hz256
            have ha := u8_and_one (z / 2 ^ j) hq2
            have hb := bit_eq z j
            generalize z / 2 ^ j = q at *
            have hb2 : q % 2 < 2 := by omega
            generalize q % 2 = bb at *
            generalize z.testBit j = y at *
            have hjI : (j : Int) < 8 := by omega
            have hd0 := hr2.cell0
            have hdf0 := hr2.free 0
            have hltr := hr2.b_lt
            have hfa : ∀ o, (wr.alloc o).frozen? ⟨b, 0, none⟩ = false := fun o => (((Below.refl wr.heap.size wr).alloc (Nat.le_refl _) o).frozen (p := ⟨b, 0, none⟩) hltr).trans hdf0
            have hca : ∀ o, (wr.alloc o).cell? ⟨b, 0, none⟩ = some (.slice a2 M.length cap2) := fun o => (((Below.refl wr.heap.size wr).alloc (Nat.le_refl _) o).cell (p := ⟨b, 0, none⟩) hltr).trans hd0
            have hown1 := hr2.own
            have hbase := hr2.bB
            have hne := hr2.ne
            go_wp2
            go_region_law
              (refine step_append_lies _ (by rfl) _ _ _ (by rfl) B 4 i0 _ 1 1 Try.underlying48 hi hz0 hz1 hz2 rfl (by omega) (.slice a2 M.length cap2) M.length (M.map Value.bool) (by rfl) ((hown1.alloc _).drew)
                  ⟨wr.heap.size, 0, none⟩ 1 1 [.bool y] (by rfl) (by rfl) (World.news_of_block (cs := #[.bool y]) (t := 4) (fr := (0, 0)) (heap_alloc_new wr _)) (by simp [Value.oneCell'])
                  (by omega) (by unfold maxLen; omega) (by omega) (by simp; omega) (wr.heap.size + 1) (by simp) ?_; intro gg cap3 w2 hown2 hgrow hat hlt3
               have hx0 := (hgrow.cell_far ⟨b, 0, none⟩ (by simp; omega) (Ne.symm hne)).trans (hca _)
               have hxf := (hgrow.frozen_far ⟨b, 0, none⟩ (by simp; omega) (Ne.symm hne)).trans (hfa _))
            all_goals
              have hpu := hr2.pushed hown2 hgrow hat
              have hsN := qs3.kp hpu.2.1 (HF.out hr2)
              generalize w2.setCell ⟨b, 0, none⟩ (.slice (some ⟨gg, 0, none⟩) (M.length + 1) cap3) = w3 at *
              clear hx0 hxf hgrow hown2 hd0 hdf0 hfa hca hown1 hr2 qs3
              go_wp2
              go_roundw
              case rel => exact ⟨j + 1, _, cap3, by omega, by go_num, by rw [HB.out]; exact hpu.1, hsN, hkr2.trans hpu.2.1 (fun j hj e => ws_back hfr2 hj e), by rw [HB.out]; exact hfr2.trans hpu.2.2 hkr2.size⟩
              case measure => simp [intOf]; omega
          · have HJ : Hid (j = 8) := by show _ = _; omega
            have hge : 8 ≤ (j : Int) := by omega
            clear hj hj8
            have HE : Hid (M = G ++ bN z 8) := by show _ = _; rw [HM.out, HJ.out]
            go_wp2
            go_roundw
            case rel => exact ⟨i + 1, a2, cap2, by omega, by go_num, by rw [HT.out, ← HE.out]; exact hr2, qs3, hkr2, by rw [HT.out, ← HE.out]; exact hfr2⟩
            case measure => simp [intOf]; omega
      · have HI : Hid (i = sp) := by show _ = _; omega
        have hge : (sp : Int) ≤ (i : Int) := by omega
        clear hlt hik
        go_wp2
        go_ret
        rw [HI.out] at hr hfr
        exact ⟨rfl, _, ⟨a1, cap1, rfl, hr⟩, hkr, hfr⟩
end Go.Proofs.Ytkjccbihdinlkaa

namespace Go.Proofs.Ytkjccbihdinlkaa
open Go.RowKit
set_option linter.unusedVariables false

theorem info_u8' : (Try.prog.info? 5).map (fun i => (i.zero, i.size, i.bytes)) = some (some (.int .u8 0), 1, 1) := by kernel_rfl
def lentL (zs : List Int) : List Int := zs ++ [171, 172, 173, 174, 175]

theorem seg_five (w : World) : Seg (w.alloc (.cells #[.int .u8 171, .int .u8 172, .int .u8 173, .int .u8 174, .int .u8 175] 5)) (some ⟨w.heap.size, 0, none⟩) [171, 172, 173, 174, 175] := by
  refine ⟨fun i hi => ⟨w.heap.size, 0, rfl, ?_⟩, by decide, ?_⟩
  · simp only [List.length_cons, List.length_nil] at hi
    match i, hi with
    | 0, _ => simp
    | 1, _ => simp
    | 2, _ => simp
    | 3, _ => simp
    | 4, _ => simp
  · exact getD_bd (by decide) (by intro z hz; simp at hz; omega)

theorem lent_bd {zs : List Int} (h : ∀ z ∈ zs, 0 ≤ z ∧ z ≤ 255) : ∀ z ∈ lentL zs, 0 ≤ z ∧ z ≤ 255 := by
  intro z hz
  unfold lentL at hz
  rw [List.mem_append] at hz
  rcases hz with hz | hz
  · exact h z hz
  · simp at hz; omega

end Go.Proofs.Ytkjccbihdinlkaa

namespace Go.Proofs.Ytkjccbihdinlkaa
open Go.RowKit
set_option linter.unusedVariables false

variable {w w0 w' wP wR : World} {b bx B : Nat} {v v' u u' : Value} {L L' M : List Bool}
theorem WrL.apartR (h1 : WrL w b B v L) (h2 : RwL w bx B u M) (hk : Kp (WS bx u) w w') (hb : b ≠ bx) (hb1 : b < B) (hb2 : bx < B) (hap : Ap v.ownBlock u.ownBlock) : WrL w' b B v L := by
  refine h1.kp hk ?_ ?_
  · rintro (e | e)
    · exact hb e
    · have := (h2.own_lt _ e).1; omega
  · intro k e
    have hk1 := h1.own_lt k e
    rintro (e2 | e2)
    · omega
    · exact hap k e e2
theorem RwL.apartW (h1 : RwL w bx B u M) (h2 : WrL w b B v L) (hk : Kp (WS b v) w w') (hb : b ≠ bx) (hb1 : b < B) (hb2 : bx < B) (hap : Ap v.ownBlock u.ownBlock) : RwL w' bx B u M := by
  refine h1.kp hk ?_ ?_
  · rintro (e | e)
    · exact hb e.symm
    · have := (h2.own_lt _ e).1; omega
  · intro k e
    have hk1 := h1.own_lt k e
    rintro (e2 | e2)
    · omega
    · exact hap k e2 e
theorem Ap.freshR (hap : Ap u.ownBlock v.ownBlock) (h1 : RwL w bx B u M) (hf : Fresh w v v') : Ap u.ownBlock v'.ownBlock := by
  intro k e1 e2
  have := (h1.own_lt k e1).2.1
  rcases hf k e2 with e | e
  · exact hap k e1 e
  · omega
def PS (b bx : Nat) (v u : Value) : Nat → Prop := fun k => WS b v k ∨ WS bx u k
/-- A Writer and the document's Writer beside each other, with the same bits. -/
structure Pair (w : World) (b bx B : Nat) (v u : Value) (L : List Bool) : Prop where
  g : WrL w b B v L
  x : RwL w bx B u L
  ap : Ap v.ownBlock u.ownBlock
/-- Both have gone on. -/
def Done (w w' : World) (b bx B : Nat) (v u : Value) (L : List Bool) : Prop := ∃ v' u', Pair w' b bx B v' u' L ∧ Kp (PS b bx v u) w w' ∧ Fresh w v v' ∧ Fresh w u u'
theorem Fresh.wide (h : Fresh w' v v') (hs : w.heap.size ≤ w'.heap.size) : Fresh w v v' := fun k e => (h k e).imp id (fun e => by omega)
theorem pair_wr (h : Pair w0 b bx B v u L) (hb : b ≠ bx) (hb1 : b < B) (hb2 : bx < B) (gP : WrL wP b B v' L') (kP : Kp (WS b v) w0 wP) (fP : Fresh w0 v v') (gR : RwL wR bx B u' L') (kR : Kp (WS bx u) wP wR) (fR : Fresh wP u u') : Done w0 wR b bx B v u L' := by
  have xP := h.x.apartW h.g kP hb hb1 hb2 h.ap
  have ap1 : Ap u.ownBlock v'.ownBlock := h.ap.symm.freshR h.x fP
  refine ⟨v', u', ⟨gP.apartR xP kR hb hb1 hb2 ap1.symm, gR, ap1.symm.fresh gP fR⟩, ?_, fP, fR.wide kP.size⟩
  exact (kP.mono (S' := PS b bx v u) (fun _ _ e => .inl e)).trans kR (fun _ _ e => .inr e)
theorem pair_rw (h : Pair w0 b bx B v u L) (hb : b ≠ bx) (hb1 : b < B) (hb2 : bx < B) (gR : RwL wR bx B u' L') (kR : Kp (WS bx u) w0 wR) (fR : Fresh w0 u u') (gP : WrL wP b B v' L') (kP : Kp (WS b v) wR wP) (fP : Fresh wR v v') : Done w0 wP b bx B v u L' := by
  have gX := h.g.apartR h.x kR hb hb1 hb2 h.ap
  have ap1 : Ap v.ownBlock u'.ownBlock := h.ap.fresh h.g fR
  refine ⟨v', u', ⟨gP, gR.apartW gX kP hb hb1 hb2 ap1, (ap1.symm.freshR gR fP).symm⟩, ?_, fP.wide kR.size, fR⟩
  exact (kR.mono (S' := PS b bx v u) (fun _ _ e => .inr e)).trans kP (fun _ _ e => .inl e)
theorem Pair.kp {S : Nat → Prop} (h : Pair w b bx B v u L) (hk : Kp S w w') (h1 : ¬ S b) (h2 : ¬ S bx) (h3 : ∀ k, B ≤ k → k < w.heap.size → v.ownBlock = some k ∨ u.ownBlock = some k → ¬ S k) : Pair w' b bx B v u L :=
  ⟨h.g.kp hk h1 (fun k e => h3 k (h.g.own_lt k e).1 (h.g.own_lt k e).2.1 (.inl e)), h.x.kp hk h2 (fun k e => h3 k (h.x.own_lt k e).1 (h.x.own_lt k e).2.1 (.inr e)), h.ap⟩
theorem Pair.old (h : Pair w b bx B v u L) (hb : Below w.heap.size w w') : Pair w' b bx B v u L := h.kp (S := fun _ => False) (Kp.of_below hb) (by simp) (by simp) (by simp)
theorem Pair.done (h : Pair w' b bx B v u L) (hb : Below w.heap.size w w') : Done w w' b bx B v u L := ⟨v, u, h, Kp.of_below hb, Fresh.refl _ _, Fresh.refl _ _⟩
theorem Done.after (hb : Below w.heap.size w w0) (h : Done w0 w' b bx B v u L) (hb1 : b < w.heap.size) : Done w w' b bx B v u L := by
  obtain ⟨v', u', h1, h2, h3, h4⟩ := h
  exact ⟨v', u', h1, (Kp.of_below hb).trans h2 (fun _ _ e => e), h3.wide hb.size, h4.wide hb.size⟩
theorem Done.then_old (h : Done w w0 b bx B v u L) (hb : Below w0.heap.size w0 w') : Done w w' b bx B v u L := by
  obtain ⟨v', u', h1, h2, h3, h4⟩ := h
  exact ⟨v', u', h1.old hb, h2.trans (S' := fun _ => False) (Kp.of_below hb) (fun _ _ e => e.elim), h3, h4⟩

/-- What a call leaves of the bits. -/
def stepL (L : List Bool) (c : Int) (x : Nat) (n : Int) (p : List Int) : List Bool := if c = 0 then putL L x n else if c = 1 then turnL L x n else if c = 2 then alignL L else if c = 3 then alignL L ++ bB p else L

/-- A block of four cells. -/
theorem four_cell {w : World} {b : Nat} {x y z t : Value} {T : TypeId} (h : w.heap[b]? = some (.cells #[x, y, z, t] T (0, 0))) : w.cell? ⟨b, 0, none⟩ = some x ∧ w.cell? ⟨b, 1, none⟩ = some y ∧ w.cell? ⟨b, 2, none⟩ = some z ∧ w.cell? ⟨b, 3, none⟩ = some t := by simp [World.cell?, h]

end Go.Proofs.Ytkjccbihdinlkaa
