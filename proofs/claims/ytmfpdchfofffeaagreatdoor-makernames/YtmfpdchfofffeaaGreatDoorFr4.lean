import Derived.Test.YtmfpdchfofffeaaGreatDoorFr3
import Derived.Test.YtmfpdchfofffeaaGreatDoorEd6
import Derived.Test.YtmfpdchfofffeaaGreatDoorEnc
import Derived.Test.YtmfpdchfofffeaaGreatDoorFix
import Derived.Test.YtmfpdchfofffeaaGreatDoorCrcAwake
import Derived.Deep.AppendLies
namespace Go.Proofs.YtmfpdchfofffeaaGreatDoor
open Go.RowKit Go.Shelf
set_option linter.unusedVariables false
theorem wpList_app18 {P : Program} {ops : Array Oper} {rest : List Oper} {o : Oper} {a : Act} {Q : Exit → Act → World → Prop} {w : World} (hg : o.guard = none) (s x : Operand) (t : TypeId)
    (hop : o.op = Op.call { callee := Callee.builtin Builtin.append, args := #[s, x], argTypes := #[t, t] }) {u v v' : Value} {w' : World} (hs : a.eval s = u) (hx : a.eval x = v) (hr : (Builtin.append_ #[t, t] o.type #[u, v]).run P w = .ok v' w')
    (h : wpList P ops Q rest (a.put o.dst v') w') : wpList P ops Q (o :: rest) a w := by
  refine wpList_plain hg fun K hK' => ?_
  exact operwp_app16 s x t hop hs hx hr (hK' _ _ h)
theorem info_u64f : (Tryz.prog.info? 203).map (fun i => (i.zero, i.size, i.bytes)) = some (some (.int .u64 0), 1, 8) := by kernel_rfl
theorem info_u8g : (Tryz.prog.info? 5).map (fun i => (i.zero, i.size, i.bytes)) = some (some (.int .u8 0), 1, 1) := by kernel_rfl
theorem own_sl18 {w : World} {base n sz : Nat} {e : TypeId} {v : Value} {xs : List Value} (h : w.ownsRow base e sz v n xs) : ∃ p c, v = .slice p n c := by
  rcases h.2 with ⟨h1, h2⟩ | ⟨g, cap, cur, h1, _⟩
  · exact ⟨none, 0, by rw [h1, h2]⟩
  · exact ⟨_, _, h1⟩
/-- One number more. -/
theorem appv18 (V : World) {base : Nat} {v : Value} {n : Nat} {xs : List Value} (x : Int) (hown : V.ownsRow base 203 1 v n xs) (hn : n + 1 ≤ 17592186044416) (hbase : base ≤ V.heap.size) :
    ∃ g rc w', (Builtin.append_ #[198, 198] 198 #[v, .slice (some ⟨V.heap.size, 0, none⟩) 1 1]).run Tryz.prog (V.alloc (.cells #[.int .u64 x] 203)) = .ok (.slice (some ⟨g, 0, none⟩) (n + 1) rc) w' ∧
      w'.ownsRow base 203 1 (.slice (some ⟨g, 0, none⟩) (n + 1) rc) (n + 1) (xs ++ [.int .u64 x]) ∧ Kp (fun k => v.ownBlock = some k) V w' := by
  obtain ⟨i0, hi, hz0, hz1, hz2⟩ := info_parts info_u64f
  obtain ⟨g, rc, w', hr, h1, h2, h3, h4⟩ := run_append_lies (P := Tryz.prog) (V.alloc (.cells #[.int .u64 x] 203)) 198 198 base 203 i0 _ 1 8 Tryz.underlying198 hi hz0 hz1 hz2 rfl (by omega) v n xs (hown.alloc _) ⟨V.heap.size, 0, none⟩ 1 1 [.int .u64 x] rfl
    (World.news_of_block (heap_alloc_new V (.cells #[.int .u64 x] 203 (0, 0)))) (by intro u hu; simp at hu; rcases hu with rfl; rfl) (by omega) (by unfold maxLen; omega) (by omega) (by simp; omega) (V.heap.size + 1) (by simp)
  exact ⟨g, rc, w', hr, h1, (Kp.alloc V _).trans (Kp.grown (S := fun k => v.ownBlock = some k) h2 (fun i e => e)) (fun _ _ e => e)⟩
/-- A row of bytes behind another one. -/
theorem appe18 (V : World) {base base2 : Nat} {v v2 : Value} {n m : Nat} {xs : List Value} {ys : List Int} (hown : V.ownsRow base 5 1 v n xs) (h2 : V.ownsRow base2 5 1 v2 m (ys.map (Value.int .u8))) (hm : 0 < m) (hn : n + m ≤ 140737488355328) (hbase : base ≤ V.heap.size) :
    ∃ g rc w', (Builtin.append_ #[36, 36] 36 #[v, v2]).run Tryz.prog V = .ok (.slice (some ⟨g, 0, none⟩) (n + m) rc) w' ∧
      w'.ownsRow base 5 1 (.slice (some ⟨g, 0, none⟩) (n + m) rc) (n + m) (xs ++ ys.map (Value.int .u8)) ∧ Kp (fun k => v.ownBlock = some k) V w' := by
  obtain ⟨i0, hi, hz0, hz1, hz2⟩ := info_parts info_u8g
  rcases h2.2 with ⟨_, h0⟩ | ⟨g2, cp, cur, hv, _⟩
  · omega
  subst hv
  have hl : ys.length = m := by simpa using h2.1
  obtain ⟨g, rc, w', hr, h1, h3, _, _⟩ := run_append_lies (P := Tryz.prog) V 36 36 base 5 i0 _ 1 1 Tryz.underlying36 hi hz0 hz1 hz2 rfl (by omega) v n xs hown ⟨g2, 0, none⟩ m cp (ys.map (Value.int .u8)) (by simp [hl])
    (fun j u hu => h2.cells (g := g2) rfl j u hu) (ints_oneCell _ _) hm (by unfold maxLen; omega) (by omega) hbase V.heap.size rfl
  exact ⟨g, rc, w', hr, h1, Kp.grown (S := fun k => v.ownBlock = some k) h3 (fun i e => e)⟩
def hv18 (h : Hd18) : List Int := [h.o, h.n, h.wi, h.lo]
def RwQ18 (w : World) (L : List Int) (e : Ending) (w' : World) : Prop := ∃ p c, e = .returned (.slice p L.length c) ∧ w'.ownsRow w.heap.size 5 1 (.slice p L.length c) L.length (L.map (Value.int .u8)) ∧ Below w.heap.size w w'
set_option maxRecDepth 100000 in
set_option maxHeartbeats 8000000 in
theorem pwri18 (B hb : Nat) (h : Hd18) (w : World) (hF : Fl18 B w) (hq : w.heap[hb]? = some (.cells h.cs 51 (0, 0))) (hk : h.Ok) :
    Calls Tryz.prog 94 #[.slice (some ⟨B + 8, 0, none⟩) 4 4, .pointer (some ⟨hb, 0, none⟩)] w (RwQ18 w (encA (hv18 h))) := by
  obtain ⟨i0, hi, hz0, hz1, hz2⟩ := info_parts info_u64f
  have HF : Hid (∀ V, Below w.heap.size w V → Fl18 B V) := fun V hV => hF.old hV
  have HQ : Hid (∀ V, Below w.heap.size w V → V.heap[hb]? = some (.cells h.cs 51 (0, 0))) := fun V hV => (hV.block _ (Array.getElem?_eq_some_iff.1 hq).1).trans hq
  have HK : Hid h.Ok := hk
  clear hF hq hk
  go_enter Tryz.func94, Tryz.ntmps94
  go_wp2_with (first
    | (at_make; refine wpList_make_own _ rfl _ _ 198 rfl w.heap.size 203 i0 (.int .u64 0) 1 Tryz.underlying198 hi hz0 hz1 .i64 .i64 _ 4 rfl rfl (by omega) (by rw [hz2]; omega) (by unfold maxLen; omega) (Nat.le_refl _) ?_; intro w1 hown1 hgrow1))
  go_loopw [5, 13] (fun t5 t13 V => ∃ i : Nat, i ≤ 4 ∧ t13 = .int .i64 (i : Int) ∧ V.ownsRow w.heap.size 203 1 t5 i (((hv18 h).take i).map (Value.int .u64)) ∧ Below w.heap.size w V) (fun _ t13 _ => 4 - (intOf t13).toNat)
  case atStart => exact ⟨0, by omega, rfl, hown1, (Below.refl _ _).grown hgrow1 (Nat.le_refl _) (by intro k e; cases e)⟩
  case round =>
    obtain ⟨i, hi4, rfl, own, hB⟩ := hrel
    clear hown1 hgrow1
    have HB : Hid (Below w.heap.size w wr) := hB
    have hFl := HF.out wr hB
    clear hB
    obtain ⟨pv, cv, hv⟩ := own_sl18 own
    subst hv
    rcases (by omega : i = 0 ∨ i = 1 ∨ i = 2 ∨ i = 3 ∨ i = 4) with rfl | rfl | rfl | rfl | rfl
    · have f0 : wr.cell? ⟨B + 8, 0, none⟩ = some (.func (.func 126) #[] #[]) := cell18 hFl.fl rfl
      have f1 : wr.cell? ⟨B + 8, 1, none⟩ = some (.func (.func 167) #[] #[.pointer (some ⟨B, 0, none⟩), .pointer (some ⟨B + 1, 0, none⟩)]) := cell18 hFl.fl rfl
      obtain ⟨wB, hwB⟩ : ∃ wB, wB = wr.alloc (.cells #[.func (.func 126) #[] #[], .func (.func 167) #[] #[.pointer (some ⟨B, 0, none⟩), .pointer (some ⟨B + 1, 0, none⟩)]] 202) := ⟨_, rfl⟩
      have cB := cb16 wr #[.func (.func 126) #[] #[], .func (.func 167) #[] #[.pointer (some ⟨B, 0, none⟩), .pointer (some ⟨B + 1, 0, none⟩)]] 202
      rw [← hwB] at cB
      have BB : Below w.heap.size w wB := HB.out.trans (cB.bl.mono HB.out.size)
      have q := HQ.out wB BB
      have CA := phf18_1 hb wB ⟨_, cell18 (k := 0) q rfl⟩
      have cv' : wB.cell? ⟨hb, 0, none⟩ = some (.int .i64 h.o) := cell18 q rfl
      have hbd : 0 ≤ h.o ∧ h.o ≤ 16777216 := by
        obtain ⟨x0, x1, x2, x3⟩ := HK.out
        omega
      obtain ⟨g, rc, wE, hr, ow, k1⟩ := appv18 wB h.o (own_kp own (Kp.of_below (S := fun _ => False) cB.bl) (fun _ _ x => x)) (by omega) BB.size
      have HO : Hid (wE.ownsRow w.heap.size 203 1 (.slice (some ⟨g, 0, none⟩) (0 + 1) rc) 1 (((hv18 h).take 1).map (Value.int .u64))) := ow
      have HE : Hid (Below w.heap.size w wE) := BB.trans (k1.below (fun k x => (own.lt k x).1) BB.size)
      have HWB : Hid (wr.alloc (.cells #[.func (.func 126) #[] #[], .func (.func 167) #[] #[.pointer (some ⟨B, 0, none⟩), .pointer (some ⟨B + 1, 0, none⟩)]] 202) = wB) := hwB.symm
      clear hwB cB hFl BB q own ow k1
      generalize h.o = v at *
      have hwv : IntKind.u64.wrap v = v := IntWalk.u64_in _ (by omega)
      go_wp2_with fail
      rw [HWB.out]
      refine CA.mono ?_
      rintro e2 w2 ⟨rfl, hw2⟩
      subst w2
      go_wp2_with (first | (at_builtin; refine wpList_app18 rfl (.tmp 17) (.tmp 25) 198 rfl rfl rfl hr ?_))
      go_roundw
      case rel => exact ⟨1, by omega, rfl, HO.out, HE.out⟩
      case measure => simp [intOf]
    · have f0 : wr.cell? ⟨B + 8, 2, none⟩ = some (.func (.func 128) #[] #[]) := cell18 hFl.fl rfl
      have f1 : wr.cell? ⟨B + 8, 3, none⟩ = some (.func (.func 167) #[] #[.pointer (some ⟨B + 2, 0, none⟩), .pointer (some ⟨B + 3, 0, none⟩)]) := cell18 hFl.fl rfl
      obtain ⟨wB, hwB⟩ : ∃ wB, wB = wr.alloc (.cells #[.func (.func 128) #[] #[], .func (.func 167) #[] #[.pointer (some ⟨B + 2, 0, none⟩), .pointer (some ⟨B + 3, 0, none⟩)]] 202) := ⟨_, rfl⟩
      have cB := cb16 wr #[.func (.func 128) #[] #[], .func (.func 167) #[] #[.pointer (some ⟨B + 2, 0, none⟩), .pointer (some ⟨B + 3, 0, none⟩)]] 202
      rw [← hwB] at cB
      have BB : Below w.heap.size w wB := HB.out.trans (cB.bl.mono HB.out.size)
      have q := HQ.out wB BB
      have CA := phf18_2 hb wB ⟨_, cell18 (k := 0) q rfl⟩
      have cv' : wB.cell? ⟨hb, 1, none⟩ = some (.int .i64 h.n) := cell18 q rfl
      have hbd : 0 ≤ h.n ∧ h.n ≤ 16777216 := by
        obtain ⟨x0, x1, x2, x3⟩ := HK.out
        omega
      obtain ⟨g, rc, wE, hr, ow, k1⟩ := appv18 wB h.n (own_kp own (Kp.of_below (S := fun _ => False) cB.bl) (fun _ _ x => x)) (by omega) BB.size
      have HO : Hid (wE.ownsRow w.heap.size 203 1 (.slice (some ⟨g, 0, none⟩) (1 + 1) rc) 2 (((hv18 h).take 2).map (Value.int .u64))) := ow
      have HE : Hid (Below w.heap.size w wE) := BB.trans (k1.below (fun k x => (own.lt k x).1) BB.size)
      have HWB : Hid (wr.alloc (.cells #[.func (.func 128) #[] #[], .func (.func 167) #[] #[.pointer (some ⟨B + 2, 0, none⟩), .pointer (some ⟨B + 3, 0, none⟩)]] 202) = wB) := hwB.symm
      clear hwB cB hFl BB q own ow k1
      generalize h.n = v at *
      have hwv : IntKind.u64.wrap v = v := IntWalk.u64_in _ (by omega)
      go_wp2_with fail
      rw [HWB.out]
      refine CA.mono ?_
      rintro e2 w2 ⟨rfl, hw2⟩
      subst w2
      go_wp2_with (first | (at_builtin; refine wpList_app18 rfl (.tmp 17) (.tmp 25) 198 rfl rfl rfl hr ?_))
      go_roundw
      case rel => exact ⟨2, by omega, rfl, HO.out, HE.out⟩
      case measure => simp [intOf]
    · have f0 : wr.cell? ⟨B + 8, 4, none⟩ = some (.func (.func 129) #[] #[]) := cell18 hFl.fl rfl
      have f1 : wr.cell? ⟨B + 8, 5, none⟩ = some (.func (.func 167) #[] #[.pointer (some ⟨B + 4, 0, none⟩), .pointer (some ⟨B + 5, 0, none⟩)]) := cell18 hFl.fl rfl
      obtain ⟨wB, hwB⟩ : ∃ wB, wB = wr.alloc (.cells #[.func (.func 129) #[] #[], .func (.func 167) #[] #[.pointer (some ⟨B + 4, 0, none⟩), .pointer (some ⟨B + 5, 0, none⟩)]] 202) := ⟨_, rfl⟩
      have cB := cb16 wr #[.func (.func 129) #[] #[], .func (.func 167) #[] #[.pointer (some ⟨B + 4, 0, none⟩), .pointer (some ⟨B + 5, 0, none⟩)]] 202
      rw [← hwB] at cB
      have BB : Below w.heap.size w wB := HB.out.trans (cB.bl.mono HB.out.size)
      have q := HQ.out wB BB
      have CA := phf18_3 hb wB ⟨_, cell18 (k := 0) q rfl⟩
      have cv' : wB.cell? ⟨hb, 4, none⟩ = some (.int .i64 h.wi) := cell18 q rfl
      have hbd : 0 ≤ h.wi ∧ h.wi ≤ 16777216 := by
        obtain ⟨x0, x1, x2, x3⟩ := HK.out
        omega
      obtain ⟨g, rc, wE, hr, ow, k1⟩ := appv18 wB h.wi (own_kp own (Kp.of_below (S := fun _ => False) cB.bl) (fun _ _ x => x)) (by omega) BB.size
      have HO : Hid (wE.ownsRow w.heap.size 203 1 (.slice (some ⟨g, 0, none⟩) (2 + 1) rc) 3 (((hv18 h).take 3).map (Value.int .u64))) := ow
      have HE : Hid (Below w.heap.size w wE) := BB.trans (k1.below (fun k x => (own.lt k x).1) BB.size)
      have HWB : Hid (wr.alloc (.cells #[.func (.func 129) #[] #[], .func (.func 167) #[] #[.pointer (some ⟨B + 4, 0, none⟩), .pointer (some ⟨B + 5, 0, none⟩)]] 202) = wB) := hwB.symm
      clear hwB cB hFl BB q own ow k1
      generalize h.wi = v at *
      have hwv : IntKind.u64.wrap v = v := IntWalk.u64_in _ (by omega)
      go_wp2_with fail
      rw [HWB.out]
      refine CA.mono ?_
      rintro e2 w2 ⟨rfl, hw2⟩
      subst w2
      go_wp2_with (first | (at_builtin; refine wpList_app18 rfl (.tmp 17) (.tmp 25) 198 rfl rfl rfl hr ?_))
      go_roundw
      case rel => exact ⟨3, by omega, rfl, HO.out, HE.out⟩
      case measure => simp [intOf]
    · have f0 : wr.cell? ⟨B + 8, 6, none⟩ = some (.func (.func 130) #[] #[]) := cell18 hFl.fl rfl
      have f1 : wr.cell? ⟨B + 8, 7, none⟩ = some (.func (.func 167) #[] #[.pointer (some ⟨B + 6, 0, none⟩), .pointer (some ⟨B + 7, 0, none⟩)]) := cell18 hFl.fl rfl
      obtain ⟨wB, hwB⟩ : ∃ wB, wB = wr.alloc (.cells #[.func (.func 130) #[] #[], .func (.func 167) #[] #[.pointer (some ⟨B + 6, 0, none⟩), .pointer (some ⟨B + 7, 0, none⟩)]] 202) := ⟨_, rfl⟩
      have cB := cb16 wr #[.func (.func 130) #[] #[], .func (.func 167) #[] #[.pointer (some ⟨B + 6, 0, none⟩), .pointer (some ⟨B + 7, 0, none⟩)]] 202
      rw [← hwB] at cB
      have BB : Below w.heap.size w wB := HB.out.trans (cB.bl.mono HB.out.size)
      have q := HQ.out wB BB
      have CA := phf18_4 hb wB ⟨_, cell18 (k := 0) q rfl⟩
      have cv' : wB.cell? ⟨hb, 5, none⟩ = some (.int .i64 h.lo) := cell18 q rfl
      have hbd : 0 ≤ h.lo ∧ h.lo ≤ 16777216 := by
        obtain ⟨x0, x1, x2, x3⟩ := HK.out
        omega
      obtain ⟨g, rc, wE, hr, ow, k1⟩ := appv18 wB h.lo (own_kp own (Kp.of_below (S := fun _ => False) cB.bl) (fun _ _ x => x)) (by omega) BB.size
      have HO : Hid (wE.ownsRow w.heap.size 203 1 (.slice (some ⟨g, 0, none⟩) (3 + 1) rc) 4 (((hv18 h).take 4).map (Value.int .u64))) := ow
      have HE : Hid (Below w.heap.size w wE) := BB.trans (k1.below (fun k x => (own.lt k x).1) BB.size)
      have HWB : Hid (wr.alloc (.cells #[.func (.func 130) #[] #[], .func (.func 167) #[] #[.pointer (some ⟨B + 6, 0, none⟩), .pointer (some ⟨B + 7, 0, none⟩)]] 202) = wB) := hwB.symm
      clear hwB cB hFl BB q own ow k1
      generalize h.lo = v at *
      have hwv : IntKind.u64.wrap v = v := IntWalk.u64_in _ (by omega)
      go_wp2_with fail
      rw [HWB.out]
      refine CA.mono ?_
      rintro e2 w2 ⟨rfl, hw2⟩
      subst w2
      go_wp2_with (first | (at_builtin; refine wpList_app18 rfl (.tmp 17) (.tmp 25) 198 rfl rfl rfl hr ?_))
      go_roundw
      case rel => exact ⟨4, by omega, rfl, HO.out, HE.out⟩
      case measure => simp [intOf]
    · have hvb : ∀ z ∈ hv18 h, 0 ≤ z ∧ z ≤ 18446744073709551615 := by
        obtain ⟨x0, x1, x2, x3⟩ := HK.out
        intro z hz
        simp [hv18] at hz
        omega
      obtain ⟨-, a, c2, hv, sg, -, -, -⟩ := own_seg (zs := hv18 h) own (M := 18446744073709551615) (by decide) hvb
      injection hv with h1 h2 h3
      subst h1
      have EN := encode_any pv (hv18 h) cv wr sg (by simp [hv18])
      have EN : Hid (Calls Tryz.prog 125 #[.slice pv 4 cv] wr fun e w' => ∃ v, e = .returned v ∧ w'.ownsRow wr.heap.size 5 1 v (encA (hv18 h)).length ((encA (hv18 h)).map (Value.int .u8)) ∧ Below wr.heap.size wr w') := EN
      clear own sg hvb h3 h2
      go_wp2_with fail
      refine EN.out.mono ?_
      rintro e1 w2 ⟨v, rfl, o2, b2⟩
      obtain ⟨p2, c2', hv2⟩ := own_sl18 o2
      subst hv2
      have HQ2 : Hid (RwQ18 w (encA (hv18 h)) (.returned (.slice p2 (encA (hv18 h)).length c2')) w2) := ⟨p2, c2', rfl, own_base o2 HB.out.size, HB.out.trans (b2.mono HB.out.size)⟩
      clear o2 b2
      go_wp2_with fail
      go_ret
      exact HQ2.out
set_option maxRecDepth 100000 in
theorem pword18 (v : Int) (w : World) (h0 : 0 ≤ v) (h1 : v ≤ 4294967295) : Calls Tryz.prog 96 #[.int .u32 v] w fun e w' => e = .returned (.slice (some ⟨w.heap.size, 0, none⟩) 4 4) ∧
      w'.ownsRow w.heap.size 5 1 (.slice (some ⟨w.heap.size, 0, none⟩) 4 4) 4 ((fixL 4 v).map (Value.int .u8)) ∧ Below w.heap.size w w' := by
  have hw : IntKind.u64.wrap v = v := IntWalk.u64_in _ (by omega)
  have C := fixed_ok v 4 w (by omega) (by omega) h0 (by omega) (by show v / 4294967296 = 0; omega)
  go_enter Tryz.func96, Tryz.ntmps96
  go_wp2_with fail
  refine C.mono ?_
  rintro e w' ⟨rfl, o, b⟩
  go_wp2_with fail
  go_ret
  exact ⟨rfl, o, b⟩
/-- Bytes, and their sum behind them. -/
def sum18 (L : List Int) : List Int := L ++ fixL 4 (wI (sumW L))
theorem wI_bd18 (a : W32) : 0 ≤ wI a ∧ wI a ≤ 4294967295 := by
  have := a.isLt
  unfold wI
  omega
set_option maxRecDepth 100000 in
theorem psum18 (p : Option Addr) (c base : Nat) (L : List Int) (w : World) (ht : Tab w) (ho : w.ownsRow base 5 1 (.slice p L.length c) L.length (L.map (Value.int .u8))) (hb : ∀ z ∈ L, 0 ≤ z ∧ z ≤ 255) (hl : L.length ≤ 70368744177664) (hbs : base ≤ w.heap.size) :
    Calls Tryz.prog 65 #[.slice p L.length c] w fun e w' => ∃ q d, e = .returned (.slice q (sum18 L).length d) ∧ w'.ownsRow base 5 1 (.slice q (sum18 L).length d) (sum18 L).length ((sum18 L).map (Value.int .u8)) ∧ Below base w w' := by
  obtain ⟨-, a, c2, hv, sg, -, -, -⟩ := own_seg ho (M := 255) (by decide) hb
  injection hv with h1 h2 h3
  subst h1
  obtain ⟨wA, hwA⟩ : ∃ wA, wA = w.alloc (.cells #[.slice p L.length c] 36) := ⟨_, rfl⟩
  have SM := sum_one w w.heap.size L.length p L c 1 36 ht sg rfl rfl (by omega)
  have cA := cb16 w #[.slice p L.length c] 36
  rw [← hwA] at SM cA
  have WD := pword18 (wI (sumW L)) wA (wI_bd18 _).1 (wI_bd18 _).2
  have HO : Hid (∀ V, Below wA.heap.size wA V → V.ownsRow base 5 1 (.slice p L.length c) L.length (L.map (Value.int .u8))) := fun V hV => own_below ho (cA.bl.trans (hV.mono cA.bl.size))
  have HS : Hid ((sum18 L).length = L.length + 4 ∧ (sum18 L).map (Value.int .u8) = L.map (Value.int .u8) ++ (fixL 4 (wI (sumW L))).map (Value.int .u8)) := ⟨by unfold sum18; rw [List.length_append, fixL_len], by unfold sum18; rw [List.map_append]⟩
  have HA : Hid (Below base w wA) := cA.bl.mono hbs
  have HZ : Hid (base ≤ wA.heap.size) := by
    show _ ≤ _
    rw [cA.sz]; omega
  have HLT : Hid (∀ k, (Value.slice p L.length c).ownBlock = some k → base ≤ k) := fun k x => (ho.lt k x).1
  have HWA : Hid (w.alloc (.cells #[.slice p L.length c] 36) = wA) := hwA.symm
  generalize wI (sumW L) = sv at *
  clear hwA cA ho sg h2 h3 hb ht
  have HLL : Hid (L.length ≤ 70368744177664) := hl
  clear hl
  go_enter Tryz.func65, Tryz.ntmps65
  go_wp2_with fail
  rw [HWA.out]
  refine SM.mono ?_
  rintro e1 w1 ⟨rfl, hw1⟩
  subst w1
  clear SM
  go_wp2_with fail
  refine WD.mono ?_
  rintro e2 w2 ⟨rfl, o2, b2⟩
  obtain ⟨g, rc, wE, hr, ow, k1⟩ := appe18 w2 (HO.out w2 b2) o2 (by omega) (by have := HLL.out; omega) (Nat.le_trans HZ.out b2.size)
  have HE : Hid (Below base w wE) := (HA.out.trans (b2.mono HZ.out)).trans (k1.below (fun k x => HLT.out k x) (Nat.le_trans HZ.out b2.size))
  have HOW : Hid (wE.ownsRow base 5 1 (.slice (some ⟨g, 0, none⟩) (sum18 L).length rc) (sum18 L).length ((sum18 L).map (Value.int .u8))) := by
    show World.ownsRow _ _ _ _ _ _ _
    rw [HS.out.2, HS.out.1]; exact ow
  rw [← HS.out.1] at hr
  clear WD o2 b2 ow k1 HLL
  obtain ⟨sl, hsl⟩ : ∃ sl, sl = (sum18 L).length := ⟨_, rfl⟩
  have HSL : Hid (sl = (sum18 L).length) := hsl
  rw [← hsl] at hr
  clear hsl
  go_wp2_with (first | (at_builtin; refine wpList_app18 rfl (.tmp 3) (.tmp 7) 36 rfl rfl rfl hr ?_))
  go_ret
  exact ⟨some ⟨g, 0, none⟩, rc, by rw [← HSL.out]; rfl, HOW.out, HE.out⟩
end Go.Proofs.YtmfpdchfofffeaaGreatDoor
