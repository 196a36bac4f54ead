import Derived.Test.YtpodakndckflgaaGreatDoorPc
import Derived.Test.YtpodakndckflgaaGreatDoorPa
import Derived.Lib.SmallJoins
import Derived.Test.YtpodakndckflgaaGreatDoorPb
import Derived.Deep.AppendLies
import Derived.ArgAppend
import Derived.Lib.SlBytesConst
namespace Go.Proofs.YtpodakndckflgaaGreatDoor
open Go.RowKit
set_option linter.unusedVariables false
set_option linter.unusedSimpArgs false
theorem seg_lit (w : World) (zs : List Int) (t : TypeId) (fr : Nat × Nat) (h : ∀ z ∈ zs, 0 ≤ z ∧ z ≤ 255) : Seg (w.alloc (.cells (zs.map (Value.int .u8)).toArray t fr)) (some ⟨w.heap.size, 0, none⟩) zs := by
  refine ⟨fun i hi => ⟨w.heap.size, 0, rfl, ?_⟩, by decide, getD_bd (by decide) h⟩
  have e : zs.getD i 0 = zs[i] := by simp [List.getD, hi]
  rw [e, Nat.zero_add, World.cell?_alloc_mark]
  simp [hi]
theorem parts_one (w : World) (g n : Nat) (a : Option Addr) (zs : List Int) (cap : Nat) (t : TypeId) (h : Seg w a zs) (hg : g = w.heap.size) (hn : n = zs.length) (hl : zs.length ≤ 9223372036854775807) :
    Parts (w.alloc (.cells #[.slice a n cap] t)) (some ⟨g, 0, none⟩) [⟨a, zs, cap⟩] := by
  subst hg hn
  refine ⟨fun i hi => ⟨w.heap.size, 0, rfl, ?_⟩, fun i hi => ?_, fun i hi => ?_⟩ <;> (obtain rfl : i = 0 := by simpa using hi)
  · rw [World.cell?_alloc_mark]
    rfl
  · exact h.alloc _
  · exact hl
theorem flat_one (a : Option Addr) (zs : List Int) (cap : Nat) : flat [⟨a, zs, cap⟩] = zs := by simp [flat]
/-- The sum of one part. -/
theorem sum_one (w : World) (g n : Nat) (a : Option Addr) (zs : List Int) (cap c : Nat) (t : TypeId) (ht : Tab w) (h : Seg w a zs) (hg : g = w.heap.size) (hn : n = zs.length) (hl : zs.length ≤ 9223372036854775807) :
    Calls Tryz.prog 52 #[.slice (some ⟨g, 0, none⟩) 1 c] (w.alloc (.cells #[.slice a n cap] t)) fun e w' => e = .returned (.int .u32 (wI (sumW zs))) ∧ w' = w.alloc (.cells #[.slice a n cap] t) := by
  refine (sum_any (some ⟨g, 0, none⟩) [⟨a, zs, cap⟩] c _ (ht.alloc _) (parts_one w g n a zs cap t h hg hn hl) (by simp)).mono ?_
  rintro e w' ⟨rfl, hw'⟩
  rw [flat_one]
  exact ⟨rfl, hw'⟩
end Go.Proofs.YtpodakndckflgaaGreatDoor

namespace Go.Proofs.YtpodakndckflgaaGreatDoor
open Go.RowKit Go.Shelf
set_option linter.unusedVariables false
theorem wpList_app18 {P : Program} {ops : Array Oper} {rest : List Oper} {o : Oper} {a : Act} {Q : Exit → Act → World → Prop} {w : World} (hg : o.guard = none) (s x : Operand) (t : TypeId)
    (hop : o.op = Op.call { callee := Callee.builtin Builtin.append, args := #[s, x], argTypes := #[t, t] }) {u v v' : Value} {w' : World} (hs : a.eval s = u) (hx : a.eval x = v) (hr : (Builtin.append_ #[t, t] o.type #[u, v]).run P w = .ok v' w')
    (h : wpList P ops Q rest (a.put o.dst v') w') : wpList P ops Q (o :: rest) a w := by
  refine wpList_plain hg fun K hK' => ?_
  exact operwp_app16 s x t hop hs hx hr (hK' _ _ h)
theorem info_u64f : (Tryz.prog.info? 53).map (fun i => (i.zero, i.size, i.bytes)) = some (some (.int .u64 0), 1, 8) := by kernel_rfl
theorem info_u8g : (Tryz.prog.info? 5).map (fun i => (i.zero, i.size, i.bytes)) = some (some (.int .u8 0), 1, 1) := by kernel_rfl
theorem own_sl18 {w : World} {base n sz : Nat} {e : TypeId} {v : Value} {xs : List Value} (h : w.ownsRow base e sz v n xs) : ∃ p c, v = .slice p n c := by
  rcases h.2 with ⟨h1, h2⟩ | ⟨g, cap, cur, h1, _⟩
  · exact ⟨none, 0, by rw [h1, h2]⟩
  · exact ⟨_, _, h1⟩
/-- One number more. -/
theorem appv18 (V : World) {base : Nat} {v : Value} {n : Nat} {xs : List Value} (x : Int) (hown : V.ownsRow base 53 1 v n xs) (hn : n + 1 ≤ 17592186044416) (hbase : base ≤ V.heap.size) :
    ∃ g rc w', (Builtin.append_ #[122, 122] 122 #[v, .slice (some ⟨V.heap.size, 0, none⟩) 1 1]).run Tryz.prog (V.alloc (.cells #[.int .u64 x] 53)) = .ok (.slice (some ⟨g, 0, none⟩) (n + 1) rc) w' ∧
      w'.ownsRow base 53 1 (.slice (some ⟨g, 0, none⟩) (n + 1) rc) (n + 1) (xs ++ [.int .u64 x]) ∧ Kp (fun k => v.ownBlock = some k) V w' := by
  obtain ⟨i0, hi, hz0, hz1, hz2⟩ := info_parts info_u64f
  obtain ⟨g, rc, w', hr, h1, h2, h3, h4⟩ := run_append_lies (P := Tryz.prog) (V.alloc (.cells #[.int .u64 x] 53)) 122 122 base 53 i0 _ 1 8 Tryz.underlying122 hi hz0 hz1 hz2 rfl (by omega) v n xs (hown.alloc _) ⟨V.heap.size, 0, none⟩ 1 1 [.int .u64 x] rfl
    (World.news_of_block (heap_alloc_new V (.cells #[.int .u64 x] 53 (0, 0)))) (by intro u hu; simp at hu; rcases hu with rfl; rfl) (by omega) (by unfold maxLen; omega) (by omega) (by simp; omega) (V.heap.size + 1) (by simp)
  exact ⟨g, rc, w', hr, h1, (Kp.alloc V _).trans (Kp.grown (S := fun k => v.ownBlock = some k) h2 (fun i e => e)) (fun _ _ e => e)⟩
/-- A row of bytes behind another one. -/
theorem appe18 (V : World) {base base2 : Nat} {v v2 : Value} {n m : Nat} {xs : List Value} {ys : List Int} (hown : V.ownsRow base 5 1 v n xs) (h2 : V.ownsRow base2 5 1 v2 m (ys.map (Value.int .u8))) (hm : 0 < m) (hn : n + m ≤ 140737488355328) (hbase : base ≤ V.heap.size) :
    ∃ g rc w', (Builtin.append_ #[22, 22] 22 #[v, v2]).run Tryz.prog V = .ok (.slice (some ⟨g, 0, none⟩) (n + m) rc) w' ∧
      w'.ownsRow base 5 1 (.slice (some ⟨g, 0, none⟩) (n + m) rc) (n + m) (xs ++ ys.map (Value.int .u8)) ∧ Kp (fun k => v.ownBlock = some k) V w' := by
  obtain ⟨i0, hi, hz0, hz1, hz2⟩ := info_parts info_u8g
  rcases h2.2 with ⟨_, h0⟩ | ⟨g2, cp, cur, hv, _⟩
  · omega
  subst hv
  have hl : ys.length = m := by simpa using h2.1
  obtain ⟨g, rc, w', hr, h1, h3, _, _⟩ := run_append_lies (P := Tryz.prog) V 22 22 base 5 i0 _ 1 1 Tryz.underlying22 hi hz0 hz1 hz2 rfl (by omega) v n xs hown ⟨g2, 0, none⟩ m cp (ys.map (Value.int .u8)) (by simp [hl])
    (fun j u hu => h2.cells (g := g2) rfl j u hu) (ints_oneCell _ _) hm (by unfold maxLen; omega) (by omega) hbase V.heap.size rfl
  exact ⟨g, rc, w', hr, h1, Kp.grown (S := fun k => v.ownBlock = some k) h3 (fun i e => e)⟩
def hv18 (h : Hd18) : List Int := [h.o, h.n, h.wi, h.lo]
def RwQ18 (w : World) (L : List Int) (e : Ending) (w' : World) : Prop := ∃ p c, e = .returned (.slice p L.length c) ∧ w'.ownsRow w.heap.size 5 1 (.slice p L.length c) L.length (L.map (Value.int .u8)) ∧ Below w.heap.size w w'
set_option maxRecDepth 100000 in
set_option maxHeartbeats 8000000 in
theorem pwri18 (B hb : Nat) (h : Hd18) (w : World) (hF : Fl18 B w) (hq : w.heap[hb]? = some (.cells h.cs 34 (0, 0))) (hk : h.Ok) :
    Calls Tryz.prog 41 #[.slice (some ⟨B + 8, 0, none⟩) 4 4, .pointer (some ⟨hb, 0, none⟩)] w (RwQ18 w (encA (hv18 h))) := by
  obtain ⟨i0, hi, hz0, hz1, hz2⟩ := info_parts info_u64f
  have HF : Hid (∀ V, Below w.heap.size w V → Fl18 B V) := fun V hV => hF.old hV
  have HQ : Hid (∀ V, Below w.heap.size w V → V.heap[hb]? = some (.cells h.cs 34 (0, 0))) := fun V hV => (hV.block _ (Array.getElem?_eq_some_iff.1 hq).1).trans hq
  have HK : Hid h.Ok := hk
  clear hF hq hk
  go_enter Tryz.func41, Tryz.ntmps41
  go_wp2_with (first
    | (at_make; refine wpList_make_own _ rfl _ _ 122 rfl w.heap.size 53 i0 (.int .u64 0) 1 Tryz.underlying122 hi hz0 hz1 .i64 .i64 _ 4 rfl rfl (by omega) (by rw [hz2]; omega) (by unfold maxLen; omega) (Nat.le_refl _) ?_; intro w1 hown1 hgrow1))
  go_loopw [5, 13] (fun t5 t13 V => ∃ i : Nat, i ≤ 4 ∧ t13 = .int .i64 (i : Int) ∧ V.ownsRow w.heap.size 53 1 t5 i (((hv18 h).take i).map (Value.int .u64)) ∧ Below w.heap.size w V) (fun _ t13 _ => 4 - (intOf t13).toNat)
  case atStart => exact ⟨0, by omega, rfl, hown1, (Below.refl _ _).grown hgrow1 (Nat.le_refl _) (by intro k e; cases e)⟩
  case round =>
    obtain ⟨i, hi4, rfl, own, hB⟩ := hrel
    clear hown1 hgrow1
    have HB : Hid (Below w.heap.size w wr) := hB
    have hFl := HF.out wr hB
    clear hB
    obtain ⟨pv, cv, hv⟩ := own_sl18 own
    subst hv
    rcases (by omega : i = 0 ∨ i = 1 ∨ i = 2 ∨ i = 3 ∨ i = 4) with rfl | rfl | rfl | rfl | rfl
    · have f0 : wr.cell? ⟨B + 8, 0, none⟩ = some (.func (.func 58) #[] #[]) := cell18 hFl.fl rfl
      have f1 : wr.cell? ⟨B + 8, 1, none⟩ = some (.func (.func 80) #[] #[.pointer (some ⟨B, 0, none⟩), .pointer (some ⟨B + 1, 0, none⟩)]) := cell18 hFl.fl rfl
      obtain ⟨wB, hwB⟩ : ∃ wB, wB = wr.alloc (.cells #[.func (.func 58) #[] #[], .func (.func 80) #[] #[.pointer (some ⟨B, 0, none⟩), .pointer (some ⟨B + 1, 0, none⟩)]] 126) := ⟨_, rfl⟩
      have cB := cb16 wr #[.func (.func 58) #[] #[], .func (.func 80) #[] #[.pointer (some ⟨B, 0, none⟩), .pointer (some ⟨B + 1, 0, none⟩)]] 126
      rw [← hwB] at cB
      have BB : Below w.heap.size w wB := HB.out.trans (cB.bl.mono HB.out.size)
      have q := HQ.out wB BB
      have CA := phf18_1 hb wB ⟨_, cell18 (k := 0) q rfl⟩
      have cv' : wB.cell? ⟨hb, 0, none⟩ = some (.int .i64 h.o) := cell18 q rfl
      have hbd : 0 ≤ h.o ∧ h.o ≤ 16777216 := by
        obtain ⟨x0, x1, x2, x3⟩ := HK.out
        omega
      obtain ⟨g, rc, wE, hr, ow, k1⟩ := appv18 wB h.o (own_kp own (Kp.of_below (S := fun _ => False) cB.bl) (fun _ _ x => x)) (by omega) BB.size
      have HO : Hid (wE.ownsRow w.heap.size 53 1 (.slice (some ⟨g, 0, none⟩) (0 + 1) rc) 1 (((hv18 h).take 1).map (Value.int .u64))) := ow
      have HE : Hid (Below w.heap.size w wE) := BB.trans (k1.below (fun k x => (own.lt k x).1) BB.size)
      have HWB : Hid (wr.alloc (.cells #[.func (.func 58) #[] #[], .func (.func 80) #[] #[.pointer (some ⟨B, 0, none⟩), .pointer (some ⟨B + 1, 0, none⟩)]] 126) = wB) := hwB.symm
      clear hwB cB hFl BB q own ow k1
      generalize h.o = v at *
      have hwv : IntKind.u64.wrap v = v := IntWalk.u64_in _ (by omega)
      go_wp2_with fail
      rw [HWB.out]
      refine CA.mono ?_
      rintro e2 w2 ⟨rfl, hw2⟩
      subst w2
      go_wp2_with (first | (at_builtin; refine wpList_app18 rfl (.tmp 17) (.tmp 25) 122 rfl rfl rfl hr ?_))
      go_roundw
      case rel => exact ⟨1, by omega, rfl, HO.out, HE.out⟩
      case measure => simp [intOf]
    · have f0 : wr.cell? ⟨B + 8, 2, none⟩ = some (.func (.func 60) #[] #[]) := cell18 hFl.fl rfl
      have f1 : wr.cell? ⟨B + 8, 3, none⟩ = some (.func (.func 80) #[] #[.pointer (some ⟨B + 2, 0, none⟩), .pointer (some ⟨B + 3, 0, none⟩)]) := cell18 hFl.fl rfl
      obtain ⟨wB, hwB⟩ : ∃ wB, wB = wr.alloc (.cells #[.func (.func 60) #[] #[], .func (.func 80) #[] #[.pointer (some ⟨B + 2, 0, none⟩), .pointer (some ⟨B + 3, 0, none⟩)]] 126) := ⟨_, rfl⟩
      have cB := cb16 wr #[.func (.func 60) #[] #[], .func (.func 80) #[] #[.pointer (some ⟨B + 2, 0, none⟩), .pointer (some ⟨B + 3, 0, none⟩)]] 126
      rw [← hwB] at cB
      have BB : Below w.heap.size w wB := HB.out.trans (cB.bl.mono HB.out.size)
      have q := HQ.out wB BB
      have CA := phf18_2 hb wB ⟨_, cell18 (k := 0) q rfl⟩
      have cv' : wB.cell? ⟨hb, 1, none⟩ = some (.int .i64 h.n) := cell18 q rfl
      have hbd : 0 ≤ h.n ∧ h.n ≤ 16777216 := by
        obtain ⟨x0, x1, x2, x3⟩ := HK.out
        omega
      obtain ⟨g, rc, wE, hr, ow, k1⟩ := appv18 wB h.n (own_kp own (Kp.of_below (S := fun _ => False) cB.bl) (fun _ _ x => x)) (by omega) BB.size
      have HO : Hid (wE.ownsRow w.heap.size 53 1 (.slice (some ⟨g, 0, none⟩) (1 + 1) rc) 2 (((hv18 h).take 2).map (Value.int .u64))) := ow
      have HE : Hid (Below w.heap.size w wE) := BB.trans (k1.below (fun k x => (own.lt k x).1) BB.size)
      have HWB : Hid (wr.alloc (.cells #[.func (.func 60) #[] #[], .func (.func 80) #[] #[.pointer (some ⟨B + 2, 0, none⟩), .pointer (some ⟨B + 3, 0, none⟩)]] 126) = wB) := hwB.symm
      clear hwB cB hFl BB q own ow k1
      generalize h.n = v at *
      have hwv : IntKind.u64.wrap v = v := IntWalk.u64_in _ (by omega)
      go_wp2_with fail
      rw [HWB.out]
      refine CA.mono ?_
      rintro e2 w2 ⟨rfl, hw2⟩
      subst w2
      go_wp2_with (first | (at_builtin; refine wpList_app18 rfl (.tmp 17) (.tmp 25) 122 rfl rfl rfl hr ?_))
      go_roundw
      case rel => exact ⟨2, by omega, rfl, HO.out, HE.out⟩
      case measure => simp [intOf]
    · have f0 : wr.cell? ⟨B + 8, 4, none⟩ = some (.func (.func 61) #[] #[]) := cell18 hFl.fl rfl
      have f1 : wr.cell? ⟨B + 8, 5, none⟩ = some (.func (.func 80) #[] #[.pointer (some ⟨B + 4, 0, none⟩), .pointer (some ⟨B + 5, 0, none⟩)]) := cell18 hFl.fl rfl
      obtain ⟨wB, hwB⟩ : ∃ wB, wB = wr.alloc (.cells #[.func (.func 61) #[] #[], .func (.func 80) #[] #[.pointer (some ⟨B + 4, 0, none⟩), .pointer (some ⟨B + 5, 0, none⟩)]] 126) := ⟨_, rfl⟩
      have cB := cb16 wr #[.func (.func 61) #[] #[], .func (.func 80) #[] #[.pointer (some ⟨B + 4, 0, none⟩), .pointer (some ⟨B + 5, 0, none⟩)]] 126
      rw [← hwB] at cB
      have BB : Below w.heap.size w wB := HB.out.trans (cB.bl.mono HB.out.size)
      have q := HQ.out wB BB
      have CA := phf18_3 hb wB ⟨_, cell18 (k := 0) q rfl⟩
      have cv' : wB.cell? ⟨hb, 4, none⟩ = some (.int .i64 h.wi) := cell18 q rfl
      have hbd : 0 ≤ h.wi ∧ h.wi ≤ 16777216 := by
        obtain ⟨x0, x1, x2, x3⟩ := HK.out
        omega
      obtain ⟨g, rc, wE, hr, ow, k1⟩ := appv18 wB h.wi (own_kp own (Kp.of_below (S := fun _ => False) cB.bl) (fun _ _ x => x)) (by omega) BB.size
      have HO : Hid (wE.ownsRow w.heap.size 53 1 (.slice (some ⟨g, 0, none⟩) (2 + 1) rc) 3 (((hv18 h).take 3).map (Value.int .u64))) := ow
      have HE : Hid (Below w.heap.size w wE) := BB.trans (k1.below (fun k x => (own.lt k x).1) BB.size)
      have HWB : Hid (wr.alloc (.cells #[.func (.func 61) #[] #[], .func (.func 80) #[] #[.pointer (some ⟨B + 4, 0, none⟩), .pointer (some ⟨B + 5, 0, none⟩)]] 126) = wB) := hwB.symm
      clear hwB cB hFl BB q own ow k1
      generalize h.wi = v at *
      have hwv : IntKind.u64.wrap v = v := IntWalk.u64_in _ (by omega)
      go_wp2_with fail
      rw [HWB.out]
      refine CA.mono ?_
      rintro e2 w2 ⟨rfl, hw2⟩
      subst w2
      go_wp2_with (first | (at_builtin; refine wpList_app18 rfl (.tmp 17) (.tmp 25) 122 rfl rfl rfl hr ?_))
      go_roundw
      case rel => exact ⟨3, by omega, rfl, HO.out, HE.out⟩
      case measure => simp [intOf]
    · have f0 : wr.cell? ⟨B + 8, 6, none⟩ = some (.func (.func 62) #[] #[]) := cell18 hFl.fl rfl
      have f1 : wr.cell? ⟨B + 8, 7, none⟩ = some (.func (.func 80) #[] #[.pointer (some ⟨B + 6, 0, none⟩), .pointer (some ⟨B + 7, 0, none⟩)]) := cell18 hFl.fl rfl
      obtain ⟨wB, hwB⟩ : ∃ wB, wB = wr.alloc (.cells #[.func (.func 62) #[] #[], .func (.func 80) #[] #[.pointer (some ⟨B + 6, 0, none⟩), .pointer (some ⟨B + 7, 0, none⟩)]] 126) := ⟨_, rfl⟩
      have cB := cb16 wr #[.func (.func 62) #[] #[], .func (.func 80) #[] #[.pointer (some ⟨B + 6, 0, none⟩), .pointer (some ⟨B + 7, 0, none⟩)]] 126
      rw [← hwB] at cB
      have BB : Below w.heap.size w wB := HB.out.trans (cB.bl.mono HB.out.size)
      have q := HQ.out wB BB
      have CA := phf18_4 hb wB ⟨_, cell18 (k := 0) q rfl⟩
      have cv' : wB.cell? ⟨hb, 5, none⟩ = some (.int .i64 h.lo) := cell18 q rfl
      have hbd : 0 ≤ h.lo ∧ h.lo ≤ 16777216 := by
        obtain ⟨x0, x1, x2, x3⟩ := HK.out
        omega
      obtain ⟨g, rc, wE, hr, ow, k1⟩ := appv18 wB h.lo (own_kp own (Kp.of_below (S := fun _ => False) cB.bl) (fun _ _ x => x)) (by omega) BB.size
      have HO : Hid (wE.ownsRow w.heap.size 53 1 (.slice (some ⟨g, 0, none⟩) (3 + 1) rc) 4 (((hv18 h).take 4).map (Value.int .u64))) := ow
      have HE : Hid (Below w.heap.size w wE) := BB.trans (k1.below (fun k x => (own.lt k x).1) BB.size)
      have HWB : Hid (wr.alloc (.cells #[.func (.func 62) #[] #[], .func (.func 80) #[] #[.pointer (some ⟨B + 6, 0, none⟩), .pointer (some ⟨B + 7, 0, none⟩)]] 126) = wB) := hwB.symm
      clear hwB cB hFl BB q own ow k1
      generalize h.lo = v at *
      have hwv : IntKind.u64.wrap v = v := IntWalk.u64_in _ (by omega)
      go_wp2_with fail
      rw [HWB.out]
      refine CA.mono ?_
      rintro e2 w2 ⟨rfl, hw2⟩
      subst w2
      go_wp2_with (first | (at_builtin; refine wpList_app18 rfl (.tmp 17) (.tmp 25) 122 rfl rfl rfl hr ?_))
      go_roundw
      case rel => exact ⟨4, by omega, rfl, HO.out, HE.out⟩
      case measure => simp [intOf]
    · have hvb : ∀ z ∈ hv18 h, 0 ≤ z ∧ z ≤ 18446744073709551615 := by
        obtain ⟨x0, x1, x2, x3⟩ := HK.out
        intro z hz
        simp [hv18] at hz
        omega
      obtain ⟨-, a, c2, hv, sg, -, -, -⟩ := own_seg (zs := hv18 h) own (M := 18446744073709551615) (by decide) hvb
      injection hv with h1 h2 h3
      subst h1
      have EN := encode_any pv (hv18 h) cv wr sg (by simp [hv18])
      have EN : Hid (Calls Tryz.prog 57 #[.slice pv 4 cv] wr fun e w' => ∃ v, e = .returned v ∧ w'.ownsRow wr.heap.size 5 1 v (encA (hv18 h)).length ((encA (hv18 h)).map (Value.int .u8)) ∧ Below wr.heap.size wr w') := EN
      clear own sg hvb h3 h2
      go_wp2_with fail
      refine EN.out.mono ?_
      rintro e1 w2 ⟨v, rfl, o2, b2⟩
      obtain ⟨p2, c2', hv2⟩ := own_sl18 o2
      subst hv2
      have HQ2 : Hid (RwQ18 w (encA (hv18 h)) (.returned (.slice p2 (encA (hv18 h)).length c2')) w2) := ⟨p2, c2', rfl, own_base o2 HB.out.size, HB.out.trans (b2.mono HB.out.size)⟩
      clear o2 b2
      go_wp2_with fail
      go_ret
      exact HQ2.out
set_option maxRecDepth 100000 in
theorem pword18 (v : Int) (w : World) (h0 : 0 ≤ v) (h1 : v ≤ 4294967295) : Calls Tryz.prog 43 #[.int .u32 v] w fun e w' => e = .returned (.slice (some ⟨w.heap.size, 0, none⟩) 4 4) ∧
      w'.ownsRow w.heap.size 5 1 (.slice (some ⟨w.heap.size, 0, none⟩) 4 4) 4 ((fixL 4 v).map (Value.int .u8)) ∧ Below w.heap.size w w' := by
  have hw : IntKind.u64.wrap v = v := IntWalk.u64_in _ (by omega)
  have C := fixed_ok v 4 w (by omega) (by omega) h0 (by omega) (by show v / 4294967296 = 0; omega)
  go_enter Tryz.func43, Tryz.ntmps43
  go_wp2_with fail
  refine C.mono ?_
  rintro e w' ⟨rfl, o, b⟩
  go_wp2_with fail
  go_ret
  exact ⟨rfl, o, b⟩
/-- Bytes, and their sum behind them. -/
def sum18 (L : List Int) : List Int := L ++ fixL 4 (wI (sumW L))
theorem wI_bd18 (a : W32) : 0 ≤ wI a ∧ wI a ≤ 4294967295 := by
  have := a.isLt
  unfold wI
  omega
set_option maxRecDepth 100000 in
theorem psum18 (p : Option Addr) (c base : Nat) (L : List Int) (w : World) (ht : Tab w) (ho : w.ownsRow base 5 1 (.slice p L.length c) L.length (L.map (Value.int .u8))) (hb : ∀ z ∈ L, 0 ≤ z ∧ z ≤ 255) (hl : L.length ≤ 70368744177664) (hbs : base ≤ w.heap.size) :
    Calls Tryz.prog 32 #[.slice p L.length c] w fun e w' => ∃ q d, e = .returned (.slice q (sum18 L).length d) ∧ w'.ownsRow base 5 1 (.slice q (sum18 L).length d) (sum18 L).length ((sum18 L).map (Value.int .u8)) ∧ Below base w w' := by
  obtain ⟨-, a, c2, hv, sg, -, -, -⟩ := own_seg ho (M := 255) (by decide) hb
  injection hv with h1 h2 h3
  subst h1
  obtain ⟨wA, hwA⟩ : ∃ wA, wA = w.alloc (.cells #[.slice p L.length c] 22) := ⟨_, rfl⟩
  have SM := sum_one w w.heap.size L.length p L c 1 22 ht sg rfl rfl (by omega)
  have cA := cb16 w #[.slice p L.length c] 22
  rw [← hwA] at SM cA
  have WD := pword18 (wI (sumW L)) wA (wI_bd18 _).1 (wI_bd18 _).2
  have HO : Hid (∀ V, Below wA.heap.size wA V → V.ownsRow base 5 1 (.slice p L.length c) L.length (L.map (Value.int .u8))) := fun V hV => own_below ho (cA.bl.trans (hV.mono cA.bl.size))
  have HS : Hid ((sum18 L).length = L.length + 4 ∧ (sum18 L).map (Value.int .u8) = L.map (Value.int .u8) ++ (fixL 4 (wI (sumW L))).map (Value.int .u8)) := ⟨by unfold sum18; rw [List.length_append, fixL_len], by unfold sum18; rw [List.map_append]⟩
  have HA : Hid (Below base w wA) := cA.bl.mono hbs
  have HZ : Hid (base ≤ wA.heap.size) := by
    show _ ≤ _
    rw [cA.sz]; omega
  have HLT : Hid (∀ k, (Value.slice p L.length c).ownBlock = some k → base ≤ k) := fun k x => (ho.lt k x).1
  have HWA : Hid (w.alloc (.cells #[.slice p L.length c] 22) = wA) := hwA.symm
  generalize wI (sumW L) = sv at *
  clear hwA cA ho sg h2 h3 hb ht
  have HLL : Hid (L.length ≤ 70368744177664) := hl
  clear hl
  go_enter Tryz.func32, Tryz.ntmps32
  go_wp2_with fail
  rw [HWA.out]
  refine SM.mono ?_
  rintro e1 w1 ⟨rfl, hw1⟩
  subst w1
  clear SM
  go_wp2_with fail
  refine WD.mono ?_
  rintro e2 w2 ⟨rfl, o2, b2⟩
  obtain ⟨g, rc, wE, hr, ow, k1⟩ := appe18 w2 (HO.out w2 b2) o2 (by omega) (by have := HLL.out; omega) (Nat.le_trans HZ.out b2.size)
  have HE : Hid (Below base w wE) := (HA.out.trans (b2.mono HZ.out)).trans (k1.below (fun k x => HLT.out k x) (Nat.le_trans HZ.out b2.size))
  have HOW : Hid (wE.ownsRow base 5 1 (.slice (some ⟨g, 0, none⟩) (sum18 L).length rc) (sum18 L).length ((sum18 L).map (Value.int .u8))) := by
    show World.ownsRow _ _ _ _ _ _ _
    rw [HS.out.2, HS.out.1]; exact ow
  rw [← HS.out.1] at hr
  clear WD o2 b2 ow k1 HLL
  obtain ⟨sl, hsl⟩ : ∃ sl, sl = (sum18 L).length := ⟨_, rfl⟩
  have HSL : Hid (sl = (sum18 L).length) := hsl
  rw [← hsl] at hr
  clear hsl
  go_wp2_with (first | (at_builtin; refine wpList_app18 rfl (.tmp 3) (.tmp 7) 22 rfl rfl rfl hr ?_))
  go_ret
  exact ⟨some ⟨g, 0, none⟩, rc, by rw [← HSL.out]; rfl, HOW.out, HE.out⟩
end Go.Proofs.YtpodakndckflgaaGreatDoor

namespace Go.Proofs.YtpodakndckflgaaGreatDoor
open Go.RowKit Go.Shelf
set_option linter.unusedVariables false
def mag18 : List Int := [83, 65, 80, 82, 1]
def hd18 (h : Hd18) : List Int := ((mag18 ++ encA (hv18 h)) ++ fixL 4 h.so) ++ fixL 4 h.sn
open Classical in
noncomputable def hh18 (h : Hd18) : List Int := if h.Ok then sum18 (hd18 h) else []
open Classical in
noncomputable def he18 (h : Hd18) : Int := if h.Ok then 0 else 180
theorem hv18_bd {h : Hd18} (hk : h.Ok) : ∀ z ∈ hv18 h, 0 ≤ z ∧ z ≤ 18446744073709551615 := by
  obtain ⟨x0, x1, x2, x3⟩ := hk
  intro z hz
  simp [hv18] at hz
  omega
theorem hd18_bd {h : Hd18} (hk : h.Ok) : ∀ z ∈ hd18 h, 0 ≤ z ∧ z ≤ 255 := by
  intro z hz
  unfold hd18 at hz
  rcases List.mem_append.1 hz with hz | hz
  · rcases List.mem_append.1 hz with hz | hz
    · rcases List.mem_append.1 hz with hz | hz
      · simp [mag18] at hz; omega
      · exact encA_bd _ (hv18_bd hk) z hz
    · exact fixL_bd _ _ z hz
  · exact fixL_bd _ _ z hz
theorem sum18_bd {L : List Int} (hb : ∀ z ∈ L, 0 ≤ z ∧ z ≤ 255) : ∀ z ∈ sum18 L, 0 ≤ z ∧ z ≤ 255 := by
  intro z hz
  rcases List.mem_append.1 hz with hz | hz
  · exact hb z hz
  · exact fixL_bd _ _ z hz
theorem encA_hv18 (h : Hd18) : 4 ≤ (encA (hv18 h)).length ∧ (encA (hv18 h)).length ≤ 40 := by
  have := encA_len (hv18 h)
  simp only [hv18, List.length_cons, List.length_nil] at this
  exact ⟨this.1, this.2⟩
theorem hd18_len (h : Hd18) : (hd18 h).length = 13 + (encA (hv18 h)).length := by
  unfold hd18
  simp only [List.length_append, fixL_len, mag18, List.length_cons, List.length_nil]
  omega
def HdQ18 (w : World) (L : List Int) (er : Int) (e : Ending) (w' : World) : Prop := ∃ p c, e = .returned (.tuple #[.slice p L.length c, .int .i64 er]) ∧ w'.ownsRow w.heap.size 5 1 (.slice p L.length c) L.length (L.map (Value.int .u8)) ∧ Below w.heap.size w w'
/-- Bytes behind the magic. -/
theorem appm18 (V : World) {g base2 m : Nat} {v2 : Value} {ys : List Int} (hs : Seg V (some ⟨g, 0, none⟩) mag18) (h2 : V.ownsRow base2 5 1 v2 m (ys.map (Value.int .u8))) (hm : 0 < m) (hn : m ≤ 100000) :
    ∃ p c w', (Builtin.append_ #[22, 22] 22 #[.slice (some ⟨g, 0, none⟩) 5 5, v2]).run Tryz.prog V = .ok (.slice p (5 + m) c) w' ∧ w'.ownsRow V.heap.size 5 1 (.slice p (5 + m) c) (5 + m) ((mag18 ++ ys).map (Value.int .u8)) ∧ Below V.heap.size V w' := by
  obtain ⟨i0, hi, hz0, hz1, hz2⟩ := info_parts info_u8g
  rcases h2.2 with ⟨_, h0⟩ | ⟨g2, cp, cur, hv, _⟩
  · omega
  subst hv
  have hl : ys.length = m := by simpa using h2.1
  obtain ⟨v', w', hr, ho, hg⟩ := run_append_arg_grows (P := Tryz.prog) (w := V) 22 22 5 i0 _ 1 1 Tryz.underlying22 hi hz0 hz1 hz2 rfl (by omega) ⟨g, 0, none⟩ 5 5 (mag18.map (Value.int .u8)) rfl
    (fun j u hu => by
      obtain ⟨b, off, e, hc⟩ := hs.at_ j (by have := (List.getElem?_eq_some_iff.1 hu).1; simpa using this)
      cases e
      have e2 : (⟨g, 0, none⟩ : Addr).add j = ⟨g, 0 + j, none⟩ := by unfold Addr.add; split <;> simp_all
      rw [e2, hc]
      rw [List.getElem?_map] at hu
      obtain ⟨y, hy, rfl⟩ := Option.map_eq_some_iff.1 hu
      simp [List.getD, hy])
    ⟨g2, 0, none⟩ m cp (ys.map (Value.int .u8)) (by simp [hl]) (fun j u hu => h2.cells (g := g2) rfl j u hu) (by omega) (by unfold maxLen; omega) (by omega)
  obtain ⟨p, c, rfl⟩ := own_sl18 ho
  refine ⟨p, c, w', hr, by rw [List.map_append]; exact ho, ?_⟩
  exact (Below.refl _ _).grown hg (Nat.le_refl _) (by intro k e; cases e)
theorem mag18_seg (w : World) : Seg (w.alloc (.cells #[.int .u8 83, .int .u8 65, .int .u8 80, .int .u8 82, .int .u8 1] 5 (5, 6))) (some ⟨w.heap.size, 0, none⟩) mag18 :=
  seg_lit w mag18 5 (5, 6) (by decide)
/-- Bytes behind others, by their lists. -/
theorem appL18 (V : World) {base base2 m c : Nat} {p : Option Addr} {v2 : Value} {L M N : List Int} (hN : N = L ++ M) (ho : V.ownsRow base 5 1 (.slice p L.length c) L.length (L.map (Value.int .u8))) (h2 : V.ownsRow base2 5 1 v2 m (M.map (Value.int .u8))) (hm : 0 < m) (hl : L.length + m ≤ 140737488355328) (hb : base ≤ V.heap.size) :
    ∃ g rc w', (Builtin.append_ #[22, 22] 22 #[.slice p L.length c, v2]).run Tryz.prog V = .ok (.slice (some ⟨g, 0, none⟩) N.length rc) w' ∧ w'.ownsRow base 5 1 (.slice (some ⟨g, 0, none⟩) N.length rc) N.length (N.map (Value.int .u8)) ∧ Below base V w' := by
  obtain ⟨g, rc, w', hr, ow, k1⟩ := appe18 V ho h2 hm hl hb
  have hM : M.length = m := by simpa using h2.1
  subst hN
  rw [List.length_append, hM, List.map_append]
  exact ⟨g, rc, w', hr, ow, k1.below (fun k x => (ho.lt k x).1) hb⟩
set_option maxRecDepth 100000 in
set_option maxHeartbeats 8000000 in
theorem phead18_ok (h : Hd18) (w : World) (ht : Tab w) (hk : h.Ok) (hso : 0 ≤ h.so ∧ h.so ≤ 4294967295) (hsn : 0 ≤ h.sn ∧ h.sn ≤ 4294967295) :
    Calls Tryz.prog 28 #[.agg #[.int .i64 h.o, .int .i64 h.n, .int .u32 h.so, .int .u32 h.sn, .int .i64 h.wi, .int .i64 h.lo]] w (HdQ18 w (sum18 (hd18 h)) 0) := by
  have cA := cb16 w h.cs 34
  obtain ⟨wA, hwA⟩ : ∃ wA, wA = w.alloc (.cells h.cs 34) := ⟨_, rfl⟩
  rw [← hwA] at cA
  obtain ⟨b4, hb4⟩ : ∃ b4, b4 = w.heap.size := ⟨_, rfl⟩
  have HWA : Hid (w.alloc (.cells #[.int .i64 h.o, .int .i64 h.n, .int .u32 h.so, .int .u32 h.sn, .int .i64 h.wi, .int .i64 h.lo] 34) = wA) := hwA.symm
  have HB4 : Hid (w.heap.size = b4) := hb4.symm
  have q : wA.heap[b4]? = some (.cells h.cs 34 (0, 0)) := by rw [hb4]; exact cA.cl
  have HQ : Hid (∀ V, Below wA.heap.size wA V → V.heap[b4]? = some (.cells h.cs 34 (0, 0))) := fun V hV => (hV.block _ (Array.getElem?_eq_some_iff.1 q).1).trans q
  have HC : Hid (∀ V, Below wA.heap.size wA V → V.cell? ⟨b4, 2, none⟩ = some (.int .u32 h.so) ∧ V.cell? ⟨b4, 3, none⟩ = some (.int .u32 h.sn)) := fun V hV => ⟨cell18 (HQ.out V hV) rfl, cell18 (HQ.out V hV) rfl⟩
  have HA : Hid (Below w.heap.size w wA) := cA.bl
  have HT : Hid (∀ V, Below wA.heap.size wA V → Tab V) := fun V hV => (ht.old cA.bl).old hV
  have CK := pchk18 h wA
  rw [if_pos hk] at CK
  have l0 : wA.cell? ⟨b4, 0, none⟩ = some (.int .i64 h.o) := cell18 q rfl
  have HK : Hid h.Ok := hk
  have HLE := encA_hv18 h
  have HLE : Hid (4 ≤ (encA (hv18 h)).length ∧ (encA (hv18 h)).length ≤ 40) := HLE
  have HSO : Hid ((0 ≤ h.so ∧ h.so ≤ 4294967295) ∧ (0 ≤ h.sn ∧ h.sn ≤ 4294967295)) := ⟨hso, hsn⟩
  have l1 : wA.cell? ⟨b4, 1, none⟩ = some (.int .i64 h.n) := cell18 q rfl
  have l2 : wA.cell? ⟨b4, 2, none⟩ = some (.int .u32 h.so) := cell18 q rfl
  have l3 : wA.cell? ⟨b4, 3, none⟩ = some (.int .u32 h.sn) := cell18 q rfl
  have l4 : wA.cell? ⟨b4, 4, none⟩ = some (.int .i64 h.wi) := cell18 q rfl
  have l5 : wA.cell? ⟨b4, 5, none⟩ = some (.int .i64 h.lo) := cell18 q rfl
  rw [hwA] at l0 l1 l2 l3 l4 l5
  rw [hb4] at l0 l1 l2 l3 l4 l5
  clear hwA hb4 cA q ht hk hso hsn
  go_enter Tryz.func28, Tryz.ntmps28
  go_wp2_with fail
  rw [HWA.out, HB4.out]
  clear l0 l1 l2 l3 l4 l5
  refine CK.mono ?_
  rintro e1 w1 ⟨rfl, b1⟩
  have HB1 : Hid (Below wA.heap.size wA w1) := b1
  clear b1 CK
  have hcv := Lib.run_convert_bytes_const (P := Tryz.prog) w1 22 5 #[.int .u8 83, .int .u8 65, .int .u8 80, .int .u8 82, .int .u8 1] 5 5 Tryz.underlying22 Tryz.underlying5
  have hsM := mag18_seg w1
  obtain ⟨wM, hwM⟩ : ∃ wM, wM = w1.alloc (.cells #[.int .u8 83, .int .u8 65, .int .u8 80, .int .u8 82, .int .u8 1] 5 (5, 6)) := ⟨_, rfl⟩
  have bM : Below w1.heap.size w1 wM := by rw [hwM]; exact (Below.refl _ _).alloc (Nat.le_refl _) _
  rw [← hwM] at hsM
  have HWM : Hid (w1.alloc (.cells #[.int .u8 83, .int .u8 65, .int .u8 80, .int .u8 82, .int .u8 1] 5 (5, 6)) = wM) := hwM.symm
  obtain ⟨gM, hgM⟩ : ∃ gM, gM = w1.heap.size := ⟨_, rfl⟩
  have HGM : Hid (w1.heap.size = gM) := hgM.symm
  rw [← hgM] at hsM
  have HBM : Hid (Below wA.heap.size wA wM) := HB1.out.trans (bM.mono HB1.out.size)
  have HSM : Hid (Seg wM (some ⟨gM, 0, none⟩) mag18) := hsM
  clear bM hwM hsM hgM
  obtain ⟨L1, hL1⟩ : ∃ L1, L1 = mag18 ++ encA (hv18 h) := ⟨_, rfl⟩
  obtain ⟨L2, hL2⟩ : ∃ L2, L2 = L1 ++ fixL 4 h.so := ⟨_, rfl⟩
  obtain ⟨L3, hL3⟩ : ∃ L3, L3 = L2 ++ fixL 4 h.sn := ⟨_, rfl⟩
  have HL3 : Hid (hd18 h = L3) := by rw [hL3, hL2, hL1]; rfl
  have HL1 : Hid (L1 = mag18 ++ encA (hv18 h) ∧ L1.length = 5 + (encA (hv18 h)).length) := ⟨hL1, by rw [hL1, List.length_append]; rfl⟩
  have HL2 : Hid (L2 = L1 ++ fixL 4 h.so ∧ L2.length = L1.length + 4) := ⟨hL2, by rw [hL2, List.length_append, fixL_len]⟩
  have HL3' : Hid (L3 = L2 ++ fixL 4 h.sn ∧ L3.length = L2.length + 4) := ⟨hL3, by rw [hL3, List.length_append, fixL_len]⟩
  have HBD : Hid (∀ z ∈ L3, 0 ≤ z ∧ z ≤ 255) := by rw [← HL3.out]; exact hd18_bd HK.out
  clear hL1 hL2 hL3
  go_wp2_with fail
  rw [HWM.out, HGM.out]
  clear hcv
  refine (phf18 wM).mono ?_
  rintro e2 w2 ⟨rfl, hF, b2⟩
  have HB2 : Hid (Below wA.heap.size wA w2) := HBM.out.trans (b2.mono HBM.out.size)
  have WR := pwri18 wM.heap.size b4 h w2 hF (HQ.out w2 HB2.out) HK.out
  have HS2 : Hid (Seg w2 (some ⟨gM, 0, none⟩) mag18) := HSM.out.old b2
  clear b2 hF
  go_wp2_with fail
  refine WR.mono ?_
  rintro e3 w3 ⟨p3, c3, rfl, o3, b3⟩
  have HB3 : Hid (Below wA.heap.size wA w3) := HB2.out.trans (b3.mono HB2.out.size)
  obtain ⟨p4, c4, w4, hr4, o4, b4'⟩ := appm18 w3 (HS2.out.old b3) o3 (by have := HLE.out; omega) (by have := HLE.out; omega)
  rw [← HL1.out.1, ← HL1.out.2] at o4
  rw [← HL1.out.2] at hr4
  have HB4' : Hid (Below wA.heap.size wA w4) := HB3.out.trans (b4'.mono HB3.out.size)
  have H34 : Hid (Below w3.heap.size w3 w4) := b4'
  obtain ⟨x2, x3⟩ := HC.out w4 HB4'.out
  have WD := pword18 h.so w4 HSO.out.1.1 HSO.out.1.2
  have HO4 : Hid (w4.ownsRow w3.heap.size 5 1 (.slice p4 L1.length c4) L1.length (L1.map (Value.int .u8))) := o4
  clear o3 b3 o4 b4' WR
  generalize (encA (hv18 h)).length = lE at *
  go_wp2_with (first | (at_builtin; refine wpList_app18 rfl (.tmp 12) (.tmp 14) 22 rfl rfl rfl hr4 ?_))
  refine WD.mono ?_
  rintro e5 w5 ⟨rfl, o5, b5⟩
  have H35 : Hid (Below w3.heap.size w3 w5) := H34.out.trans (b5.mono H34.out.size)
  obtain ⟨g6, c6, w6, hr6, o6, b6⟩ := appL18 w5 HL2.out.1 (own_below HO4.out b5) o5 (by omega) (by have := HL1.out.2; have := HLE.out; omega) H35.out.size
  have H36 : Hid (Below w3.heap.size w3 w6) := H35.out.trans b6
  have HB6 : Hid (Below wA.heap.size wA w6) := HB3.out.trans (H36.out.mono HB3.out.size)
  have WD2 := pword18 h.sn w6 HSO.out.2.1 HSO.out.2.2
  have HO6 : Hid (w6.ownsRow w3.heap.size 5 1 (.slice (some ⟨g6, 0, none⟩) L2.length c6) L2.length (L2.map (Value.int .u8))) := o6
  clear x2 x3 WD o5 b5 o6 b6 hr4
  obtain ⟨x2, x3⟩ := HC.out w6 HB6.out
  go_wp2_with (first | (at_builtin; refine wpList_app18 rfl (.tmp 16) (.tmp 19) 22 rfl rfl rfl hr6 ?_))
  refine WD2.mono ?_
  rintro e7 w7 ⟨rfl, o7, b7⟩
  have H37 : Hid (Below w3.heap.size w3 w7) := H36.out.trans (b7.mono H36.out.size)
  obtain ⟨g8, c8, w8, hr8, o8, b8⟩ := appL18 w7 HL3'.out.1 (own_below HO6.out b7) o7 (by omega) (by have := HL1.out.2; have := HL2.out.2; have := HLE.out; omega) H37.out.size
  have H38 : Hid (Below w3.heap.size w3 w8) := H37.out.trans b8
  have HB8 : Hid (Below wA.heap.size wA w8) := HB3.out.trans (H38.out.mono HB3.out.size)
  have SU := psum18 (some ⟨g8, 0, none⟩) c8 w3.heap.size L3 w8 (HT.out w8 HB8.out) o8 HBD.out (by have := HL1.out.2; have := HL2.out.2; have := HL3'.out.2; have := HLE.out; omega) H38.out.size
  clear x2 x3 WD2 o7 b7 o8 b8 hr6
  go_wp2_with (first | (at_builtin; refine wpList_app18 rfl (.tmp 21) (.tmp 24) 22 rfl rfl rfl hr8 ?_))
  refine SU.mono ?_
  rintro e9 w9 ⟨p9, c9, rfl, o9, b9⟩
  have H39 : Below w3.heap.size w3 w9 := H38.out.trans b9
  have HB9 : Below wA.heap.size wA w9 := HB3.out.trans (H39.mono HB3.out.size)
  have HQQ : Hid (HdQ18 w (sum18 L3) 0 (.returned (.tuple #[.slice p9 (sum18 L3).length c9, .int .i64 0])) w9) := ⟨p9, c9, rfl, own_base o9 (Nat.le_trans HA.out.size HB3.out.size), HA.out.trans (HB9.mono HA.out.size)⟩
  clear SU o9 b9 H39 HB9
  go_wp2_with fail
  go_ret2
  rw [HL3.out]
  exact HQQ.out
set_option maxRecDepth 100000 in
theorem phead18_no (h : Hd18) (w : World) (hk : ¬ h.Ok) :
    Calls Tryz.prog 28 #[.agg #[.int .i64 h.o, .int .i64 h.n, .int .u32 h.so, .int .u32 h.sn, .int .i64 h.wi, .int .i64 h.lo]] w (HdQ18 w [] 180) := by
  have cA := cb16 w h.cs 34
  obtain ⟨wA, hwA⟩ : ∃ wA, wA = w.alloc (.cells h.cs 34) := ⟨_, rfl⟩
  rw [← hwA] at cA
  obtain ⟨b4, hb4⟩ : ∃ b4, b4 = w.heap.size := ⟨_, rfl⟩
  have HWA : Hid (w.alloc (.cells #[.int .i64 h.o, .int .i64 h.n, .int .u32 h.so, .int .u32 h.sn, .int .i64 h.wi, .int .i64 h.lo] 34) = wA) := hwA.symm
  have HB4 : Hid (w.heap.size = b4) := hb4.symm
  have q : wA.heap[b4]? = some (.cells h.cs 34 (0, 0)) := by rw [hb4]; exact cA.cl
  have HA : Hid (Below w.heap.size w wA) := cA.bl
  have CK := pchk18 h wA
  rw [if_neg hk] at CK
  have l0 : wA.cell? ⟨b4, 0, none⟩ = some (.int .i64 h.o) := cell18 q rfl
  have l1 : wA.cell? ⟨b4, 1, none⟩ = some (.int .i64 h.n) := cell18 q rfl
  have l2 : wA.cell? ⟨b4, 2, none⟩ = some (.int .u32 h.so) := cell18 q rfl
  have l3 : wA.cell? ⟨b4, 3, none⟩ = some (.int .u32 h.sn) := cell18 q rfl
  have l4 : wA.cell? ⟨b4, 4, none⟩ = some (.int .i64 h.wi) := cell18 q rfl
  have l5 : wA.cell? ⟨b4, 5, none⟩ = some (.int .i64 h.lo) := cell18 q rfl
  rw [hwA] at l0 l1 l2 l3 l4 l5
  rw [hb4] at l0 l1 l2 l3 l4 l5
  clear hwA hb4 cA q hk
  go_enter Tryz.func28, Tryz.ntmps28
  go_wp2_with fail
  rw [HWA.out, HB4.out]
  refine CK.mono ?_
  rintro e1 w1 ⟨rfl, b1⟩
  have HQQ : Hid (HdQ18 w [] 180 (.returned (.tuple #[.slice none 0 0, .int .i64 180])) w1) := ⟨none, 0, rfl, ⟨rfl, .inl ⟨rfl, rfl⟩⟩, HA.out.trans (b1.mono HA.out.size)⟩
  clear b1 CK
  go_wp2_with fail
  go_ret2
  exact HQQ.out
/-- HEAD. -/
theorem phead18 (h : Hd18) (w : World) (ht : Tab w) (hso : 0 ≤ h.so ∧ h.so ≤ 4294967295) (hsn : 0 ≤ h.sn ∧ h.sn ≤ 4294967295) :
    Calls Tryz.prog 28 #[.agg #[.int .i64 h.o, .int .i64 h.n, .int .u32 h.so, .int .u32 h.sn, .int .i64 h.wi, .int .i64 h.lo]] w (HdQ18 w (hh18 h) (he18 h)) := by
  unfold hh18 he18
  by_cases hk : h.Ok
  · rw [if_pos hk, if_pos hk]; exact phead18_ok h w ht hk hso hsn
  · rw [if_neg hk, if_neg hk]; exact phead18_no h w hk
end Go.Proofs.YtpodakndckflgaaGreatDoor
