import Derived.Test.YtodioefbfchckaaPm
import Derived.Test.YtodioefbfchckaaPf
import Derived.Laws.StructEq
import Derived.Test.YtodioefbfchckaaPl
import Derived.Test.YtodioefbfchckaaProg
namespace Go.Proofs.Ytodioefbfchckaa
open Go.RowKit Go.Shelf
set_option linter.unusedVariables false

/-! Uncontrol, the landed one. -/
def UcQ17 (ty : TypeId) (w : World) (zs : List Int) (e : Ending) (w' : World) : Prop :=
  ∃ v, e = .returned (.tuple #[v, .int .i64 (un17 zs.length zs []).1]) ∧ w'.ownsRow w.heap.size ty 3 v (un17 zs.length zs []).2.length (flat16 (un17 zs.length zs []).2) ∧ Below w.heap.size w w' ∧ ∀ s ∈ (un17 zs.length zs []).2, cok17 s = true
theorem ucq17_no {ty : TypeId} {w w' : World} {zs : List Int} {x : Int} (h : un17 zs.length zs [] = (x, [])) (hb : Below w.heap.size w w') : UcQ17 ty w zs (.returned (.tuple #[.slice none 0 0, .int .i64 x])) w' := by
  refine ⟨.slice none 0 0, by rw [h], ?_, hb, by rw [h]; simp⟩
  rw [h]
  exact ⟨rfl, .inl ⟨rfl, rfl⟩⟩
theorem ucq17_ok {w V : World} {base : Nat} {ty : TypeId} {zs : List Int} {f : Nat} {acc : List St16} {ra : Option Addr} {rc : Nat} {v : Value} (h : Ui17 w base ty zs f [] acc ra rc v V) (hb : w.heap.size ≤ base) : UcQ17 ty w zs (.returned (.tuple #[v, .int .i64 0])) V := by
  have e := h.un
  rw [un17_nil] at e
  refine ⟨v, by rw [← e], ?_, h.bl, by rw [← e]; exact h.ok⟩
  rw [← e]
  exact own_base17 h.own hb
def am17 : Array Value := #[.int .u64 65536, .int .u64 65536, .int .u64 33554432]
theorem am17_cell {V : World} {b j : Nat} {t : TypeId} (q : V.heap[b]? = some (.cells am17 t (0, 0))) (hj : j < 3) : V.cell? ⟨b, j, none⟩ = some (.int .u64 (lim17 j)) := by
  match j, hj with
  | 0, _ => exact three_cell0 q
  | 1, _ => exact three_cell1 q
  | 2, _ => exact three_cell2 q
theorem ar17_cell {V : World} {b j : Nat} {t : TypeId} {l : List Int} (q : V.heap[b]? = some (.cells (ar17 l) t (0, 0))) (hj : j < 3) : V.cell? ⟨b, j, none⟩ = some (.int .u64 (l.getD j 0)) := by
  match j, hj with
  | 0, _ => exact three_cell0 q
  | 1, _ => exact three_cell1 q
  | 2, _ => exact three_cell2 q
theorem ar17_free {V : World} {b j : Nat} {t : TypeId} {cs : Array Value} (q : V.heap[b]? = some (.cells cs t (0, 0))) : V.frozen? ⟨b, j, none⟩ = false := by simp [World.frozen?, q]
set_option maxRecDepth 100000 in
set_option maxHeartbeats 8000000 in
theorem puc17 (a : Option Addr) (n cap : Nat) (zs : List Int) (w : World) (hs : Seg w a zs) (hn : Hid (zs.length = n)) (hc : n ≤ cap) (hnil : a = none → cap = 0) (hl : n ≤ 5864062014804) :
    Calls Try.prog 26 #[.slice a n cap] w (UcQ17 98 w zs) := by
  obtain ⟨w1, hw1⟩ : ∃ w1, w1 = w.alloc (.cells am17 108) := ⟨_, rfl⟩
  have c1 : Cb16 w am17 108 w1 := by rw [hw1]; exact cb16 _ _ _
  obtain ⟨b4, hb4⟩ : ∃ b4, b4 = w.heap.size := ⟨_, rfl⟩
  have q4 : w1.heap[b4]? = some (.cells am17 108 (0, 0)) := by rw [hb4]; exact c1.cl
  have HZ : Hid (Calls Try.prog 49 #[.int .i64 16777216] w fun e w' => e = .returned (.int .u64 33554432) ∧ w' = w) := zig_any 16777216 w (by decide) (by decide)
  have HW1 : Hid (w.alloc (.cells #[.int .u64 65536, .int .u64 65536, .int .u64 33554432] 108) = w1) := hw1.symm
  have HB4 : Hid (w.heap.size = b4) := hb4.symm
  have H0 : Hid (Ui17 w (w.heap.size + 1) 98 zs n zs [] a cap (.slice none 0 0) w1) := ⟨hs.old c1.bl, by rw [hn.out]; exact hc, hnil, ⟨rfl, .inl ⟨rfl, rfl⟩⟩, by rw [hn.out], by rw [hn.out]; exact Nat.le_refl _, by simp, by simp, c1.bl, by rw [c1.sz]; exact Nat.le_refl _⟩
  have HX0 : Hid (∀ x off, a = some ⟨x, off, none⟩ → 0 < zs.length → x < w.heap.size) := hs.lt
  have HN : Hid (zs.length = n) := hn
  clear hw1 c1 hb4 hs hn hc hnil
  go_enter Try.func26, Try.ntmps26
  go_wp2_with fail
  refine HZ.out.mono ?_
  rintro e w' ⟨rfl, hw'⟩
  subst w'
  clear HZ
  go_wp2_with fail
  rw [HW1.out, HB4.out]
  go_loopw [0, 5] (fun t0 t5 V => ∃ (f : Nat) (b : List Int) (acc : List St16) (ra : Option Addr) (rc : Nat) (v : Value), t0 = .slice ra b.length rc ∧ t5 = v ∧ Ui17 w (w.heap.size + 1) 98 zs f b acc ra rc v V ∧ V.heap[b4]? = some (.cells am17 108 (0, 0)) ∧ (∀ x off, ra = some ⟨x, off, none⟩ → 0 < b.length → x < w.heap.size)) (fun t0 _ _ => ln17 t0)
  case atStart =>
    refine ⟨n, zs, [], a, cap, _, by rw [HN.out], rfl, H0.out, q4, HX0.out⟩
  case round =>
    obtain ⟨f, b, acc, ra, rc, v, rfl, rfl, hU, hq4, hx⟩ := hrel
    clear H0 HX0 q4 HW1
    obtain ⟨pv, cv, hv⟩ := own_sl17 hU.own
    subst hv
    by_cases hb : b = []
    · subst hb
      have HQ : Hid (UcQ17 98 w zs (.returned (.tuple #[.slice pv acc.length cv, .int .i64 0])) wr) := ucq17_ok hU (by omega)
      clear hU hq4 hx
      generalize acc.length = k at *
      go_wp2_with fail
      go_ret2
      exact HQ.out
    · have hbl : 0 < b.length := List.length_pos_iff.2 hb
      obtain ⟨m, hm⟩ : ∃ m, m = b.length := ⟨_, rfl⟩
      have hm0 : (0 : Int) < (m : Int) := by omega
      have HM : Hid (m = b.length) := hm
      have HU : Hid (Ui17 w (w.heap.size + 1) 98 zs f b acc ra rc (.slice pv acc.length cv) wr) := hU
      have HI0 := Un17.start (rc := rc) 108 hU.seg hU.cap hU.nil
      have HI : Hid (Un17 wr b wr.heap.size 108 0 [] b ra rc (wr.alloc (.cells #[.int .u64 0, .int .u64 0, .int .u64 0] 108))) := HI0
      have hqA : (wr.alloc (.cells #[.int .u64 0, .int .u64 0, .int .u64 0] 108)).heap[b4]? = some (.cells am17 108 (0, 0)) := (((Below.refl _ _).alloc (Nat.le_refl _) _).block b4 (Array.getElem?_eq_some_iff.1 hq4).1).trans hq4
      obtain ⟨b6, hb6⟩ : ∃ b6, b6 = wr.heap.size := ⟨_, rfl⟩
      have HB6 : Hid (wr.heap.size = b6) := hb6.symm
      have HB64 : Hid (b4 < b6) := by rw [hb6]; exact (Array.getElem?_eq_some_iff.1 hq4).1
      rw [← hm]
      rw [← hb6] at HI
      clear HI0 hU hb6 hm hbl
      go_wp2_with fail
      rw [HB6.out, show decide (0 < m) = true from decide_eq_true (by omega)]
      go_loopw [0, 16] (fun t0 t16 V => ∃ (j : Nat) (l bi : List Int) (ra : Option Addr) (rc : Nat), t0 = .slice ra bi.length rc ∧ t16 = .int .i64 (j : Int) ∧ Un17 wr b b6 108 j l bi ra rc V ∧ V.heap[b4]? = some (.cells am17 108 (0, 0)) ∧ (∀ x off, ra = some ⟨x, off, none⟩ → 0 < bi.length → x < w.heap.size)) (fun _ t16 _ => 3 - (intOf t16).toNat)
      case atStart => exact ⟨0, [], b, ra, rc, by rw [HM.out], rfl, HI.out, hqA, fun x off e h => hx x off e h⟩
      case round =>
        obtain ⟨j, l, bi, ra2, rc2, rfl, rfl, hI, hq, hx2⟩ := hrel
        clear HI hqA hx hq4
        have HL : Hid (bi.length ≤ 5864062014804) := by
          show _ ≤ _
          have := hI.ln; have := HU.out.ln; have := HN.out; omega
        have HBL : Hid (Below w.heap.size w wr) := HU.out.bl.trans (hI.bl.mono HU.out.bl.size)
        by_cases hj : j < 3
        · have hj3 : (j : Int) < 3 := by omega
          have hj0 : (0 : Int) ≤ (j : Int) := by omega
          have HD := decode_any ra2 bi rc2 wr hI.seg (by have := HL.out; omega)
          obtain ⟨k, hk⟩ : ∃ k, k = bi.length := ⟨_, rfl⟩
          have H4 : Hid (∀ w', Below wr.heap.size wr w' → w'.heap[b4]? = some (.cells am17 108 (0, 0))) := fun w' h => (h.block b4 (Array.getElem?_eq_some_iff.1 hq).1).trans hq
          have HQN : Hid (∀ x w', un17 zs.length zs [] = (x, []) → Below wr.heap.size wr w' → UcQ17 98 w zs (.returned (.tuple #[.slice none 0 0, .int .i64 x])) w') := fun x w' h1 h2 => ucq17_no h1 (HBL.out.trans (h2.mono HBL.out.size))
          have HKE : Hid (∀ w', Below wr.heap.size wr w' → Un17 _ b b6 108 j l bi ra2 rc2 w') := fun w' h => hI.keep h
          rw [← hk] at HD ⊢
          have HK : Hid (k = bi.length) := hk
          clear hk
          by_cases he : (decL 0 0 bi).2.2 = 0
          · by_cases hlim : lim17 j < (decL 0 0 bi).1
            · have HNX : Hid (nx17 j bi = (171, 0, 0)) := nx17_lim he hlim
              have HNO := Un17.no HU.out hb hI hj (by rw [HNX.out]; decide)
              rw [HNX.out] at HNO
              have HQ : Hid (∀ w', Below wr.heap.size wr w' → UcQ17 98 w zs (.returned (.tuple #[.slice none 0 0, .int .i64 171])) w') := fun w' h => HQN.out 171 w' HNO h
              rw [he] at HD
              clear HNO HNX HQN HKE he hI hq hx2 HK HL HU
              generalize (decL 0 0 bi).1 = v0 at *
              generalize (decL 0 0 bi).2.1 = n0 at *
              obtain ⟨L, hL⟩ : ∃ L, L = lim17 j := ⟨_, rfl⟩
              have HLL : Hid (L = lim17 j) := hL
              rw [← hL] at hlim
              clear hL
              go_wp2_with fail
              refine HD.mono ?_
              rintro e w' ⟨rfl, b'⟩
              have c4 := am17_cell (H4.out w' b') hj
              rw [← HLL.out] at c4
              go_wp2_with fail
              go_ret2
              exact HQ.out w' b'
            · have hnx := nx17_ok he hlim
              obtain ⟨_, _, f3, f4, f5, f6, f7, f8⟩ := nx17_fact (j := j) (fun z hz => (hI.seg.mem z hz).1) (by rw [hnx])
              have he1 : (nx17 j bi).1 = 0 := by rw [hnx]
              have HST : Hid (∀ w', Below wr.heap.size wr w' → Un17 _ b b6 108 (j + 1) (l ++ [(nx17 j bi).2.1]) (bi.drop (nx17 j bi).2.2) (rs16 ra2 rc2 (nx17 j bi).2.2) (rc2 - (nx17 j bi).2.2) (w'.setCell ⟨b6, j, none⟩ (.int .u64 (nx17 j bi).2.1))) := fun w' h => (hI.keep h).step hj he1 (fun x off e hp => Nat.lt_of_lt_of_le (hx2 x off e hp) HU.out.bl.size)
              have HX3 : Hid (∀ x off, rs16 ra2 rc2 (nx17 j bi).2.2 = some ⟨x, off, none⟩ → 0 < (bi.drop (nx17 j bi).2.2).length → x < w.heap.size) := fun x off e hp => by
                obtain ⟨sg, sa⟩ := seg_rs16 (c := rc2) (d := (nx17 j bi).2.2) hI.seg f6 hI.cap
                obtain ⟨o, ho⟩ := sa x off e hp
                exact hx2 x o ho (by rw [List.length_drop] at hp; omega)
              have HCP : Hid (bi.length ≤ rc2) := hI.cap
              rw [he, ← f3, f4] at HD
              rw [← f3] at hlim
              generalize (nx17 j bi).2.1 = v0 at *
              generalize (nx17 j bi).2.2 = d at *
              have hdk : (d : Int) ≤ (k : Int) := by have := HK.out; omega
              have hdc : (d : Int) ≤ (rc2 : Int) := by have := HK.out; have := HCP.out; omega
              have hd0 : (0 : Int) ≤ (d : Int) := by omega
              obtain ⟨ax, hax⟩ : ∃ ax, ax = rs16 ra2 rc2 d := ⟨_, rfl⟩
              have hif : (if rc2 = d then ra2 else ra2.map (fun y => y.add d)) = ax := hax.symm
              rw [← hax] at HST HX3
              have HC6 : Hid (∀ w', Below wr.heap.size wr w' → w'.frozen? ⟨b6, j, none⟩ = false ∧ w'.cell? ⟨b6, j, none⟩ = some (.int .u64 (l.getD j 0))) := fun w' h => ⟨ar17_free (HKE.out w' h).q6, ar17_cell (HKE.out w' h).q6 hj⟩
              have HQ4 : Hid (∀ w' v, Below wr.heap.size wr w' → (w'.setCell ⟨b6, j, none⟩ v).heap[b4]? = some (.cells am17 108 (0, 0))) := fun w' v h => by
                have hk : Kp (fun k => k = b6) w' (w'.setCell ⟨b6, j, none⟩ v) := Kp.set (S := fun k => k = b6) rfl _
                exact hk.heap (H4.out w' h) (fun e => by have := HB64.out; omega)
              obtain ⟨L, hL⟩ : ∃ L, L = lim17 j := ⟨_, rfl⟩
              have HLL : Hid (L = lim17 j) := hL
              have HDL : Hid ((bi.drop d).length = k - d) := by show _ = _; rw [List.length_drop, HK.out]
              rw [← hL] at hlim f8
              clear hL hax f4 f3 hnx he he1 HQN HKE hI hq hx2 HK HCP f6 f5 HL HU HBL hb f7 f8
              go_wp2_with fail
              refine HD.mono ?_
              rintro e w' ⟨rfl, b'⟩
              have c4 := am17_cell (H4.out w' b') hj
              rw [← HLL.out] at c4
              obtain ⟨g1, g2⟩ := HC6.out w' b'
              have HS := HST.out w' b'
              have HS : Hid _ := HS
              have HQ := HQ4.out w' (.int .u64 v0) b'
              clear HST HQ4 HC6 H4 HD
              go_wp2_with fail
              go_region
              go_wp2_with fail
              go_roundw
              case rel => exact ⟨j + 1, l ++ [v0], bi.drop d, ax, rc2 - d, by rw [HDL.out], by simp, HS.out.keep ((Below.refl _ _).drew), HQ, HX3.out⟩
              case measure => simp [intOf]; omega
          · have HNX : Hid (nx17 j bi = ((decL 0 0 bi).2.2, 0, 0)) := nx17_err he
            have HNO := Un17.no HU.out hb hI hj (by rw [HNX.out]; exact he)
            rw [HNX.out] at HNO
            have HQ : Hid (∀ w', Below wr.heap.size wr w' → UcQ17 98 w zs (.returned (.tuple #[.slice none 0 0, .int .i64 (decL 0 0 bi).2.2])) w') := fun w' h => HQN.out _ w' HNO h
            have he2 : ((decL 0 0 bi).2.2 != 0) = true := by simp [he]
            clear HNO HNX HQN HKE he hI hq hx2 HK HL HU
            generalize (decL 0 0 bi).1 = v0 at *
            generalize (decL 0 0 bi).2.1 = n0 at *
            generalize (decL 0 0 bi).2.2 = e0 at *
            go_wp2_with fail
            refine HD.mono ?_
            rintro e w' ⟨rfl, b'⟩
            go_wp2_with fail
            go_ret2
            exact HQ.out w' b'
        · have h3 : j = 3 := by have := hI.hj; omega
          subst h3
          obtain ⟨A, hA⟩ : ∃ A, A = l.getD 0 0 := ⟨_, rfl⟩
          obtain ⟨C, hC⟩ : ∃ C, C = l.getD 1 0 := ⟨_, rfl⟩
          obtain ⟨U, hU⟩ : ∃ U, U = l.getD 2 0 := ⟨_, rfl⟩
          have bA := hI.bd 0 (by omega)
          have bC := hI.bd 1 (by omega)
          have bU := hI.bd 2 (by omega)
          have kA : 0 ≤ A ∧ A ≤ 65536 := by rw [hA]; exact bA
          have kC : 0 ≤ C ∧ C ≤ 65536 := by rw [hC]; exact bC
          have kU : 0 ≤ U ∧ U ≤ 33554432 := by rw [hU]; exact bU
          have HCL : Hid (∀ V : World, V.heap[b6]? = some (.cells (ar17 l) 108 (0, 0)) → V.cell? ⟨b6, 0, none⟩ = some (.int .u64 A) ∧ V.cell? ⟨b6, 1, none⟩ = some (.int .u64 C) ∧ V.cell? ⟨b6, 2, none⟩ = some (.int .u64 U)) := fun V h => by
            rw [hA, hC, hU]
            exact ⟨ar17_cell h (by omega), ar17_cell h (by omega), ar17_cell h (by omega)⟩
          have oW := own_kp16 HU.out.own (Kp.of_below (S := fun _ => False) hI.bl) (fun _ _ x => x)
          obtain ⟨g, rg, wE, hr, ow, k1, -⟩ := apps17 wr.drew (A, C, zagI U) oW.drew (by have := HU.out.ln; have := HN.out; omega) (Nat.le_trans HU.out.bs hI.bl.size)
          have hlt := HU.out.own.lt
          have qE := k1.heap hI.q6 (fun e => by have := (hlt b6 e).2; have := hI.old; omega)
          have q4E := k1.heap hq (fun e => by have := (hlt b4 e).1; have := HB4.out; omega)
          have sE : Seg wE ra2 bi := hI.seg.drew.kp k1 (fun x off e hp hx => by have := (hlt x hx).1; have := hx2 x off e hp; omega)
          have BE : Below w.heap.size w wE := HBL.out.drew.trans (k1.below (fun k x => by have := (hlt k x).1; omega) HBL.out.size)
          have zE : w.heap.size + 1 ≤ wE.heap.size := by
            have h1 := (Array.getElem?_eq_some_iff.1 q4E).1
            have := HB4.out
            omega
          have hFin := Un17.fin HU.out hb hI sE BE zE (by rw [← hA, ← hC, ← hU]; exact ow)
          have HF : Hid (∃ f', Ui17 w (w.heap.size + 1) 98 zs f' bi (acc ++ [sp17 l]) ra2 rc2 (.slice (some ⟨g, 0, none⟩) (acc.length + 1) rg) wE) := hFin
          have HME : Hid (bi.length < m) := by
            show _ < _
            have := hI.ln; have := HM.out; omega
          have HS0 := HCL.out wr.drew hI.q6
          have HS1 : Hid (∀ o, (wr.alloc o).drew.cell? ⟨b6, 0, none⟩ = some (.int .u64 A) ∧ (wr.alloc o).drew.cell? ⟨b6, 1, none⟩ = some (.int .u64 C) ∧ (wr.alloc o).drew.cell? ⟨b6, 2, none⟩ = some (.int .u64 U)) := fun o => HCL.out _ ((((Below.refl _ _).alloc (Nat.le_refl _) o).block b6 (Array.getElem?_eq_some_iff.1 hI.q6).1).trans hI.q6)
          have HS2 := HCL.out wE qE
          have HZ : Hid (∀ V, Calls Try.prog 53 #[.int .u64 U] V fun e w' => e = .returned (.int .i64 (zagI U)) ∧ w' = V) := fun V => zag_any U V kU.1 (by omega)
          have hwA : IntKind.i64.wrap A = A := IntWalk.i64_in _ (by omega)
          have hwC : IntKind.i64.wrap C = C := IntWalk.i64_in _ (by omega)
          have HR : Hid ((Builtin.append_ #[26, 26] 26 #[.slice pv acc.length cv, .slice (some ⟨wr.heap.size, 0, none⟩) 1 1]).run Try.prog (wr.alloc (.cells #[.int .i64 A, .int .i64 C, .int .i64 (zagI U)] 98)).drew = .ok (.slice (some ⟨g, 0, none⟩) (acc.length + 1) rg) wE) := hr
          have HX3 : Hid (∀ x off, ra2 = some ⟨x, off, none⟩ → 0 < bi.length → x < w.heap.size) := hx2
          clear hA hC hU bA bC bU HCL oW hr ow k1 hlt qE sE BE zE hFin hI hq hx2 HU HBL HL hj
          generalize zagI U = Z at *
          generalize hal : acc.length = al at *
          have HAL : Hid (acc.length = al) := hal
          clear hal
          go_wp2_with fail
          refine plain_region16 (fun V => V.cell? ⟨b6, 0, none⟩ = some (.int .u64 A) ∧ V.cell? ⟨b6, 1, none⟩ = some (.int .u64 C) ∧ V.cell? ⟨b6, 2, none⟩ = some (.int .u64 U)) 13 (by kernel_rfl) HS0 (fun hHeld => ?_)
          refine wpAnyK_take (i := 0) (v := .slice pv al cv) rfl (by kernel_rfl) (by kernel_rfl) (by kernel_rfl) (by kernel_rfl) (fun _ _ _ h => h) (Or.inl ⟨by rfl, fun w hSw => by go_simp⟩) hHeld ?_
          simp only [List.getElem_toArray, List.getElem_cons_zero, Act.put, List.setIfInBounds_toArray, List.set_cons_zero, List.set_cons_succ]
          refine wpAnyK_take (i := 1) (v := .pointer (some ⟨b6, 0, none⟩)) rfl (by kernel_rfl) (by kernel_rfl) (by kernel_rfl) (by kernel_rfl) (fun _ _ _ h => h) (Or.inl ⟨by rfl, fun w hSw => by go_simp⟩) hHeld ?_
          simp only [List.getElem_toArray, List.getElem_cons_zero, List.getElem_cons_succ, Act.put, List.setIfInBounds_toArray, List.set_cons_zero, List.set_cons_succ]
          refine wpAnyK_take (i := 2) (v := .int .u64 A) rfl (by kernel_rfl) (by kernel_rfl) (by kernel_rfl) (by kernel_rfl) (fun _ _ _ h => h) (Or.inl ⟨by rfl, fun w hSw => by go_simp⟩) hHeld ?_
          simp only [List.getElem_toArray, List.getElem_cons_zero, List.getElem_cons_succ, Act.put, List.setIfInBounds_toArray, List.set_cons_zero, List.set_cons_succ]
          refine wpAnyK_take (i := 3) (v := .int .i64 A) rfl (by kernel_rfl) (by kernel_rfl) (by kernel_rfl) (by kernel_rfl) (fun _ _ _ h => h) (Or.inl ⟨by rfl, fun w hSw => by go_simp⟩) hHeld ?_
          simp only [List.getElem_toArray, List.getElem_cons_zero, List.getElem_cons_succ, Act.put, List.setIfInBounds_toArray, List.set_cons_zero, List.set_cons_succ]
          refine wpAnyK_take (i := 4) (v := .pointer (some ⟨b6, 1, none⟩)) rfl (by kernel_rfl) (by kernel_rfl) (by kernel_rfl) (by kernel_rfl) (fun _ _ _ h => h) (Or.inl ⟨by rfl, fun w hSw => by go_simp⟩) hHeld ?_
          simp only [List.getElem_toArray, List.getElem_cons_zero, List.getElem_cons_succ, Act.put, List.setIfInBounds_toArray, List.set_cons_zero, List.set_cons_succ]
          refine wpAnyK_take (i := 5) (v := .int .u64 C) rfl (by kernel_rfl) (by kernel_rfl) (by kernel_rfl) (by kernel_rfl) (fun _ _ _ h => h) (Or.inl ⟨by rfl, fun w hSw => by go_simp⟩) hHeld ?_
          simp only [List.getElem_toArray, List.getElem_cons_zero, List.getElem_cons_succ, Act.put, List.setIfInBounds_toArray, List.set_cons_zero, List.set_cons_succ]
          refine wpAnyK_take (i := 6) (v := .int .i64 C) rfl (by kernel_rfl) (by kernel_rfl) (by kernel_rfl) (by kernel_rfl) (fun _ _ _ h => h) (Or.inl ⟨by rfl, fun w hSw => by go_simp⟩) hHeld ?_
          simp only [List.getElem_toArray, List.getElem_cons_zero, List.getElem_cons_succ, Act.put, List.setIfInBounds_toArray, List.set_cons_zero, List.set_cons_succ]
          refine wpAnyK_take (i := 7) (v := .pointer (some ⟨b6, 2, none⟩)) rfl (by kernel_rfl) (by kernel_rfl) (by kernel_rfl) (by kernel_rfl) (fun _ _ _ h => h) (Or.inl ⟨by rfl, fun w hSw => by go_simp⟩) hHeld ?_
          simp only [List.getElem_toArray, List.getElem_cons_zero, List.getElem_cons_succ, Act.put, List.setIfInBounds_toArray, List.set_cons_zero, List.set_cons_succ]
          refine wpAnyK_take (i := 8) (v := .int .u64 U) rfl (by kernel_rfl) (by kernel_rfl) (by kernel_rfl) (by kernel_rfl) (fun _ _ _ h => h) (Or.inl ⟨by rfl, fun w hSw => by go_simp⟩) hHeld ?_
          simp only [List.getElem_toArray, List.getElem_cons_zero, List.getElem_cons_succ, Act.put, List.setIfInBounds_toArray, List.set_cons_zero, List.set_cons_succ]
          refine wpAnyK_one (i := 9) (by kernel_rfl) rfl (fun K hK => ?_)
          (try simp only [List.getElem_toArray, List.getElem_cons_zero, List.getElem_cons_succ, Act.put, List.setIfInBounds_toArray, List.set_cons_zero, List.set_cons_succ])
          go_simp
          refine (HZ.out _).mono ?_
          rintro e9 w9 ⟨rfl, rfl⟩
          refine hK.out _ _ (fun _ => HS0) (fun hHeld0 => ?_)
          have hHeld := hHeld0 (by decide)
          clear hHeld0 hK K
          (try simp only [List.getElem_toArray, List.getElem_cons_zero, List.getElem_cons_succ, Act.put, List.setIfInBounds_toArray, List.set_cons_zero, List.set_cons_succ])
          refine wpAnyK_one (i := 10) (by kernel_rfl) rfl (fun K hK => ?_)
          (try simp only [List.getElem_toArray, List.getElem_cons_zero, List.getElem_cons_succ, Act.put, List.setIfInBounds_toArray, List.set_cons_zero, List.set_cons_succ])
          go_simp
          refine hK.out _ _ (fun _ => HS0) (fun hHeld0 => ?_)
          have hHeld := hHeld0 (by decide)
          clear hHeld0 hK K
          (try simp only [List.getElem_toArray, List.getElem_cons_zero, List.getElem_cons_succ, Act.put, List.setIfInBounds_toArray, List.set_cons_zero, List.set_cons_succ])
          refine wpAnyK_one (i := 11) (by kernel_rfl) rfl (fun K hK => ?_)
          (try simp only [List.getElem_toArray, List.getElem_cons_zero, List.getElem_cons_succ, Act.put, List.setIfInBounds_toArray, List.set_cons_zero, List.set_cons_succ])
          go_simp
          refine hK.out _ _ (fun _ => HS1.out _) (fun hHeld0 => ?_)
          have hHeld := hHeld0 (by decide)
          clear hHeld0 hK K
          (try simp only [List.getElem_toArray, List.getElem_cons_zero, List.getElem_cons_succ, Act.put, List.setIfInBounds_toArray, List.set_cons_zero, List.set_cons_succ])
          refine wpAnyK_one (i := 12) (by kernel_rfl) rfl (fun K0 hK => ?_)
          simp only [List.getElem_toArray, List.getElem_cons_zero, List.getElem_cons_succ]
          rw [if_pos (by rfl)]
          refine operwp_app16 _ _ _ rfl rfl rfl HR.out ?_
          refine hK.out _ _ (fun _ => HS2) (fun hHeld0 => ?_)
          have hHeld := hHeld0 (by decide)
          clear hHeld0 hK K0
          simp only [Act.put, List.setIfInBounds_toArray, List.set_cons_zero, List.set_cons_succ]
          refine wpAnyK_one (i := 13) (by kernel_rfl) rfl (fun K0 hK => ?_)
          (try simp only [List.getElem_toArray, List.getElem_cons_zero, List.getElem_cons_succ, Act.put, List.setIfInBounds_toArray, List.set_cons_zero, List.set_cons_succ])
          go_simp
          refine hK.out _ _ (fun _ => HS2) (fun hHeld0 => ?_)
          clear hHeld0 hK K0
          (try simp only [List.getElem_toArray, List.getElem_cons_zero, List.getElem_cons_succ, Act.put, List.setIfInBounds_toArray, List.set_cons_zero, List.set_cons_succ])
          refine wpAnyK_done (by kernel_rfl) ?_ _
          obtain ⟨f', hF⟩ := HF.out
          go_wp2_with fail
          go_roundw
          case rel => exact ⟨f', bi, acc ++ [sp17 l], ra2, rc2, _, rfl, rfl, hF, q4E, HX3.out⟩
          case measure => exact HME.out
end Go.Proofs.Ytodioefbfchckaa

namespace Go.Proofs.Ytodioefbfchckaa
open Go.RowKit Go.Shelf
set_option linter.unusedVariables false

/-! The law's plain; the document's SameSteps, Same. -/
theorem info_sr17 : (Try.prog.info? 77).map (fun i => (i.zero, i.size, i.bytes)) = some (some (.agg #[.int .i64 0, .int .i64 0, .int .i64 0]), 3, 24) := by kernel_rfl
theorem appr17 (V : World) {base : Nat} {v : Value} {n : Nat} {xs : List Value} (y : St16) (hown : V.ownsRow base 77 3 v n xs) (hn : n + 1 ≤ 5864062014805) (hbase : base ≤ V.heap.size) :
    ∃ g rc w', (Builtin.append_ #[22, 22] 22 #[v, .slice (some ⟨V.heap.size, 0, none⟩) 1 1]).run Try.prog (V.alloc (.cells #[.int .i64 y.1, .int .i64 y.2.1, .int .i64 y.2.2] 77)) = .ok (.slice (some ⟨g, 0, none⟩) (n + 1) rc) w' ∧
      w'.ownsRow base 77 3 (.slice (some ⟨g, 0, none⟩) (n + 1) rc) (n + 1) (xs ++ [.int .i64 y.1, .int .i64 y.2.1, .int .i64 y.2.2]) ∧ Kp (fun k => v.ownBlock = some k) V w' ∧ (v.ownBlock = some g ∨ V.heap.size ≤ g) := by
  obtain ⟨i0, hi, hz0, hz1, hz2⟩ := info_parts info_sr17
  obtain ⟨g, rc, w', hr, h1, h2, h3, h4⟩ := run_append_lies (P := Try.prog) (V.alloc (.cells #[.int .i64 y.1, .int .i64 y.2.1, .int .i64 y.2.2] 77)) 22 22 base 77 i0 _ 3 24 Try.underlying22 hi hz0 hz1 hz2 rfl (by omega) v n xs (hown.alloc _) ⟨V.heap.size, 0, none⟩ 1 1 [.int .i64 y.1, .int .i64 y.2.1, .int .i64 y.2.2] rfl
    (World.news_of_block (heap_alloc_new V (.cells #[.int .i64 y.1, .int .i64 y.2.1, .int .i64 y.2.2] 77 (0, 0)))) (by intro u hu; simp at hu; rcases hu with rfl | rfl | rfl <;> rfl) (by omega) (by unfold maxLen; omega) (by omega) (by simp; omega) (V.heap.size + 1) (by simp)
  refine ⟨g, rc, w', hr, h1, (Kp.alloc V _).trans (Kp.grown (S := fun k => v.ownBlock = some k) h2 (fun i e => e)) (fun _ _ e => e), ?_⟩
  rcases h3 with h | h
  · exact .inl h
  · exact .inr (by omega)
def PlQ17 (w : World) (S : List St16) (v2 v3 : Value) (e : Ending) (w' : World) : Prop := ∃ v1, e = .returned (.agg #[v1, v2, v3]) ∧ w'.ownsRow w.heap.size 77 3 v1 S.length (flat16 S) ∧ Below w.heap.size w w'
/-- Between two rounds of plain. -/
structure Pl17 (w : World) (b3 bR : Nat) (v2 v3 v : Value) (S : List St16) (i : Nat) (W : World) : Prop where
  q3 : W.heap[b3]? = some (.cells #[v, v2, v3] 25 (0, 0))
  qR : W.heap[bR]? = some (.cells #[.slice none 0 0, .slice none 0 0, .slice none 0 0] 25 (0, 0))
  own : W.ownsRow w.heap.size 77 3 v i (flat16 (S.take i))
  nv : ∀ g, v.ownBlock = some g → g ≠ b3 ∧ g ≠ bR
  bl : Below w.heap.size w W
set_option maxRecDepth 100000 in
set_option maxHeartbeats 8000000 in
theorem pplain17 {sa : Option Addr} {n sc : Nat} {da : Option Addr} {m dc : Nat} {xa : Option Addr} {k xc : Nat} {S : List St16} (w : World) (hs : SegS w sa S) (hn : Hid (S.length = n)) (hln : n ≤ 5864062014804) :
    Calls Try.prog 13 #[ev16 sa n sc da m dc xa k xc] w (PlQ17 w S (.slice da m dc) (.slice xa k xc)) := by
  have hb := two_boxes16 w #[.slice sa n sc, .slice da m dc, .slice xa k xc] 28 #[.slice none 0 0, .slice none 0 0, .slice none 0 0] 25
  obtain ⟨w2, hw2⟩ : ∃ w2, w2 = (w.alloc (.cells #[.slice sa n sc, .slice da m dc, .slice xa k xc] 28)).alloc (.cells #[.slice none 0 0, .slice none 0 0, .slice none 0 0] 25) := ⟨_, rfl⟩
  simp only [← hw2] at hb
  obtain ⟨bl, z2, qE, qR⟩ := hb
  obtain ⟨w3, hw3⟩ : ∃ w3, w3 = w2.alloc (.cells #[.slice none 0 0, .slice da m dc, .slice xa k xc] 25) := ⟨_, rfl⟩
  have c3 : Cb16 w2 #[.slice none 0 0, .slice da m dc, .slice xa k xc] 25 w3 := by rw [hw3]; exact cb16 _ _ _
  obtain ⟨bE, hbE⟩ : ∃ bE, bE = w.heap.size := ⟨_, rfl⟩
  obtain ⟨bR, hbR⟩ : ∃ bR, bR = w.heap.size + 1 := ⟨_, rfl⟩
  obtain ⟨b3, hb3⟩ : ∃ b3, b3 = w2.heap.size := ⟨_, rfl⟩
  rw [← hbE] at qE
  rw [← hbR] at qR
  have e0 := three_cell0 qE
  have e1 := three_cell1 qE
  have e2 := three_cell2 qE
  have HW2 : Hid ((w.alloc (.cells #[.slice sa n sc, .slice da m dc, .slice xa k xc] 28)).alloc (.cells #[.slice none 0 0, .slice none 0 0, .slice none 0 0] 25) = w2) := hw2.symm
  have HW3 : Hid (w2.alloc (.cells #[.slice none 0 0, .slice da m dc, .slice xa k xc] 25) = w3) := hw3.symm
  have HBE : Hid (w.heap.size = bE) := hbE.symm
  have HBR : Hid (w.heap.size + 1 = bR) := hbR.symm
  have HB3 : Hid (w.heap.size + 2 = b3) := by show _ = _; omega
  have b03 : Below w.heap.size w w3 := bl.trans (c3.bl.mono bl.size)
  have hI0 : Pl17 w b3 bR (.slice da m dc) (.slice xa k xc) (.slice none 0 0) S 0 w3 := ⟨by rw [hb3]; exact c3.cl, (c3.bl.block bR (by omega)).trans qR, ⟨by simp [flat16], .inl ⟨rfl, rfl⟩⟩, fun g e => by simp [Value.ownBlock] at e, b03⟩
  have HLT : Hid (w.heap.size ≤ b3 ∧ w.heap.size ≤ bR ∧ b3 ≠ bR ∧ bE ≠ b3) := ⟨by omega, by omega, by omega, by omega⟩
  have g0 : w3.cell? ⟨bE, 0, none⟩ = some (.slice sa n sc) := three_cell0 ((c3.bl.block bE (by omega)).trans qE)
  have HS0 : Hid (SegS w sa S) := hs
  clear hw2 hw3 hbE hbR hb3 bl z2 qE qR c3 b03 hs
  unfold ev16
  go_enter Try.func13, Try.ntmps13
  go_wp2_with fail
  rw [HW2.out, HW3.out]
  rw [HB3.out, HBR.out, HBE.out]
  clear e0 e1 e2
  go_loopw [14] (fun t14 wr => ∃ (i : Nat) (v : Value), i ≤ n ∧ t14 = .int .i64 (i : Int) ∧ Pl17 w b3 bR (.slice da m dc) (.slice xa k xc) v S i wr) (fun t14 _ => n - (intOf t14).toNat)
  case atStart => exact ⟨0, _, Nat.zero_le _, rfl, hI0⟩
  case round =>
    obtain ⟨i, v, hi, rfl, hP⟩ := hrel
    have hlt := HLT.out
    by_cases hin : i < n
    · have hii : (i : Int) < (n : Int) := by omega
      have hi0 : (0 : Int) ≤ (i : Int) := by omega
      have hil : i < S.length := by rw [hn.out]; exact hin
      obtain ⟨b, off, rfl, hT⟩ := (HS0.out.old hP.bl).at_ i hil
      have c0 := hT.c0
      have c1 := hT.c1
      have c2 := hT.c2
      have hget : S.getD i z16 = S[i] := by simp [List.getD, hil]
      have HTK : Hid (flat16 (S.take (i + 1)) = flat16 (S.take i) ++ [.int .i64 (S.getD i z16).1, .int .i64 (S.getD i z16).2.1, .int .i64 (S.getD i z16).2.2]) := by
        show _ = _
        rw [List.take_succ_eq_append_getElem hil, flat16_app, hget]; rfl
      clear hget
      generalize S.getD i z16 = s at *
      obtain ⟨A, C, K⟩ := s
      simp only at c0 c1 c2 HTK
      obtain ⟨wB, hwB⟩ : ∃ wB, wB = wr.alloc (.cells #[.int .i64 A, .int .i64 C, .int .i64 K] 98) := ⟨_, rfl⟩
      have cB : Cb16 wr #[.int .i64 A, .int .i64 C, .int .i64 K] 98 wB := by rw [hwB]; exact cb16 _ _ _
      have BB : Below w.heap.size w wB := hP.bl.trans (cB.bl.mono hP.bl.size)
      obtain ⟨p, cc, hv⟩ := own_sl17 hP.own
      have kB : Kp (fun _ => False) wr wB := Kp.of_below cB.bl
      obtain ⟨g, rc, w', hr, ow, k1, at1⟩ := appr17 wB (A, C, K) (own_kp16 hP.own kB (fun _ _ x => x)) (by omega) BB.size
      simp only at hr ow
      have q3B := kB.heap hP.q3 (fun x => x)
      have q3' := k1.heap q3B (fun e => (hP.nv _ e).1 rfl)
      have qR' := k1.heap (kB.heap hP.qR (fun x => x)) (fun e => (hP.nv _ e).2 rfl)
      have l3 : b3 < wB.heap.size := (Array.getElem?_eq_some_iff.1 q3B).1
      have lR : bR < wB.heap.size := (Array.getElem?_eq_some_iff.1 (kB.heap hP.qR (fun x => x))).1
      have hgn : g ≠ b3 ∧ g ≠ bR := by
        rcases at1 with y | y
        · exact hP.nv g y
        · exact ⟨by omega, by omega⟩
      have ks : Kp (fun j => j = b3) w' (w'.setCell ⟨b3, 0, none⟩ (.slice (some ⟨g, 0, none⟩) (i + 1) rc)) := Kp.set (S := fun j => j = b3) rfl _
      have B1 : Below w.heap.size w w' := BB.trans (k1.below (fun k x => (hP.own.lt k x).1) BB.size)
      have HN : Hid (Pl17 w b3 bR (.slice da m dc) (.slice xa k xc) (.slice (some ⟨g, 0, none⟩) (i + 1) rc) S (i + 1) (w'.setCell ⟨b3, 0, none⟩ (.slice (some ⟨g, 0, none⟩) (i + 1) rc))) := by
        refine ⟨three_set0 q3' _, ks.heap qR' (fun e => hlt.2.2.1 e.symm), ?_, ?_, B1.trans (ks.below (fun j x => by have x : j = b3 := x; omega) B1.size)⟩
        · rw [HTK.out]
          exact own_kp16 ow ks (fun x e y => by
            have e : some g = some x := e
            injection e with e
            exact hgn.1 (e.trans y))
        · intro x e
          have e : some g = some x := e
          injection e with e
          subst e
          exact hgn
      have d0 := three_cell0 q3B
      have d1 := three_cell0 q3'
      have f1 := three_free q3' 0
      rw [cB.sz, hwB] at hr
      rw [hwB] at d0
      subst hv
      clear ow k1 at1 hT hwB cB BB HTK hP kB q3B q3' qR' ks B1 hgn
      go_wp2_with (first | (at_builtin; refine wpList_app17 rfl (.tmp 19) (.tmp 27) 22 rfl rfl rfl hr ?_))
      go_roundw
      case rel => exact ⟨i + 1, _, by omega, by simp, HN.out⟩
      case measure => simp [intOf]; omega
    · have hk2 : i = n := by omega
      subst hk2
      have hneg : ¬ (i : Int) < (i : Int) := by omega
      obtain ⟨p, cc, hv⟩ := own_sl17 hP.own
      subst hv
      have d0 := three_cell0 hP.q3
      have d1 := three_cell1 hP.q3
      have d2 := three_cell2 hP.q3
      have r0 := three_cell0 hP.qR
      have r1 := three_cell1 hP.qR
      have r2 := three_cell2 hP.qR
      have f0 := three_free hP.qR 0
      have f1 := three_free hP.qR 1
      have f2 := three_free hP.qR 2
      have HP : Hid (Pl17 w b3 bR (.slice da m dc) (.slice xa k xc) (.slice p i cc) S i wr) := hP
      clear hP
      go_wp2_with fail
      obtain ⟨F, hF⟩ : ∃ F, F = ((wr.setCell ⟨bR, 0, none⟩ (.slice p i cc)).setCell ⟨bR, 1, none⟩ (.slice da m dc)).setCell ⟨bR, 2, none⟩ (.slice xa k xc) := ⟨_, rfl⟩
      have hP := HP.out
      have kF : Kp (fun j => j = bR) wr F := by
        rw [hF]
        exact ((Kp.set (S := fun j => j = bR) rfl _).trans (Kp.set (S := fun j => j = bR) rfl _) (fun _ _ x => x)).trans (Kp.set (S := fun j => j = bR) rfl _) (fun _ _ x => x)
      have qF : F.heap[bR]? = some (.cells #[.slice p i cc, .slice da m dc, .slice xa k xc] 25 (0, 0)) := by rw [hF]; exact three_set2 (three_set1 (three_set0 hP.qR _) _) _
      rw [← hF]
      refine bodyPost_ret (v := .agg #[.slice p i cc, .slice da m dc, .slice xa k xc]) (results_cell_row (fn := Try.f13) (p := 2) (ty := 25) rfl _ _ bR _ _ _ _ rfl qF Try.underlying25 rfl (by kernel_rfl)) rfl ?_
      have h2 : S.take i = S := by rw [← hn.out, List.take_length]
      have h3 := hP.own
      rw [h2] at h3
      refine ⟨_, rfl, ?_, hP.bl.trans (kF.below (fun j x => by have x : j = bR := x; omega) hP.bl.size)⟩
      rw [hn.out]
      exact own_kp16 h3 kF (fun x e y => (hP.nv x e).2 y)
end Go.Proofs.Ytodioefbfchckaa

namespace Go.Proofs.Ytodioefbfchckaa
open Go.RowKit
set_option linter.unusedVariables false

/-- The number that bytes are. -/
def valL : List Int → Int
  | [] => 0
  | z :: r => z % 128 + 128 * valL r
theorem valL_pos : ∀ zs : List Int, 0 ≤ valL zs
  | [] => by simp [valL]
  | z :: r => by have := valL_pos r; simp only [valL]; omega
theorem valL_snoc : ∀ (l : List Int) (x : Int), valL (l ++ [x]) = valL l + x % 128 * 128 ^ l.length
  | [], x => by simp [valL]
  | z :: r, x => by
    simp only [List.cons_append, valL, valL_snoc r x, List.length_cons, Int.pow_succ]
    have e : x % 128 * (128 ^ r.length * 128) = 128 * (x % 128 * 128 ^ r.length) := by rw [← Int.mul_assoc, Int.mul_comm]
    rw [e]
    omega
theorem valL_lt : ∀ l : List Int, valL l < 128 ^ l.length
  | [] => by simp [valL]
  | z :: r => by
    have := valL_lt r
    simp only [valL, List.length_cons, Int.pow_succ]
    omega
theorem valL_take (zs : List Int) (k : Nat) (h : k < zs.length) : valL (zs.take (k + 1)) = tkVal (valL (zs.take k)) k (zs.getD k 0) := by
  rw [List.take_succ_eq_append_getElem h, valL_snoc]
  unfold tkVal
  simp [List.getD, h, Nat.min_eq_left (Nat.le_of_lt h)]
theorem valL_drop_le : ∀ (zs : List Int) (k : Nat), valL (zs.drop k) ≤ valL zs
  | zs, 0 => by simp
  | [], k + 1 => by simp
  | z :: r, k + 1 => by
    have h1 := valL_drop_le r k
    have h2 := valL_pos r
    simp only [List.drop_succ_cons, valL]
    omega
end Go.Proofs.Ytodioefbfchckaa

namespace Go.Proofs.Ytodioefbfchckaa
open Go.RowKit
set_option linter.unusedVariables false

set_option maxRecDepth 100000 in
theorem wrong_any (b off n cap : Nat) (x : Int) (w : World) (hc : w.cell? ⟨b, off + n, none⟩ = some (.int .u8 x)) (hx : 0 ≤ x) (hn : n ≤ 140737488355328) :
    Calls Try.prog 66 #[.slice (some ⟨b, off, none⟩) (n + 1) cap] w fun e w' => e = .returned (.int .i64 (tkErr n x)) ∧ w' = w := by
  have hlt : (n : Int) < (n : Int) + 1 := by omega
  by_cases a1 : n = 9
  · subst a1
    by_cases a2 : 1 < x
    · go_enter Try.func66, Try.ntmps66
      go_wp2
      go_ret
      exact ⟨by simp [tkErr, a2], rfl⟩
    · by_cases a3 : x = 0
      · subst a3
        go_enter Try.func66, Try.ntmps66
        go_wp2
        go_ret
        exact ⟨by simp [tkErr], rfl⟩
      · have a4 : (x == 0) = false := by simp [a3]
        go_enter Try.func66, Try.ntmps66
        go_wp2
        go_ret
        exact ⟨by have : ¬ 1 < x := by omega
                  simp [tkErr, this, a3], rfl⟩
  · have a0 : ((n : Int) == 9) = false := by simp; omega
    by_cases a2 : 0 < n
    · have a5 : (0 : Int) < (n : Int) := by omega
      by_cases a3 : x = 0
      · subst a3
        go_enter Try.func66, Try.ntmps66
        go_wp2
        go_ret
        exact ⟨by simp [tkErr, a1, a2], rfl⟩
      · have a4 : (x == 0) = false := by simp [a3]
        go_enter Try.func66, Try.ntmps66
        go_wp2
        go_ret
        exact ⟨by simp [tkErr, a1, a3], rfl⟩
    · have a6 : n = 0 := by omega
      subst a6
      go_enter Try.func66, Try.ntmps66
      go_wp2
      go_ret
      exact ⟨by simp [tkErr], rfl⟩

set_option maxRecDepth 100000 in
set_option maxHeartbeats 400000 in
theorem value_any (a : Option Addr) (zs : List Int) (cap : Nat) (w : World) (hs : Seg w a zs) (hl : zs.length ≤ 140737488355328) (hv : valL zs ≤ 18446744073709551615) :
    Calls Try.prog 67 #[.slice a zs.length cap] w fun e w' => e = .returned (.int .u64 (valL zs)) ∧ w' = w := by
  go_enter Try.func67, Try.ntmps67
  go_wp2
  go_loop [3, 4] (fun t i => ∃ k : Nat, k ≤ zs.length ∧ i = .int .i64 ((k : Int) - 1) ∧ t = .int .u64 (valL (zs.drop k))) (fun _ i => (intOf i + 1).toNat)
  case atStart => exact ⟨zs.length, Nat.le_refl _, rfl, by simp [valL]⟩
  case round =>
    obtain ⟨k, hk, rfl, rfl⟩ := hrel
    by_cases hlt : 0 < k
    · obtain ⟨k, rfl⟩ : ∃ j, k = j + 1 := ⟨k - 1, by omega⟩
      obtain ⟨b, off, rfl, hcell⟩ := hs.at_ k (by omega)
      have hx := hs.bd k
      have h1 := valL_pos (zs.drop (k + 1))
      have h2 := valL_drop_le zs k
      have HD : Hid (valL (zs.drop k) = zs.getD k 0 % 128 + 128 * valL (zs.drop (k + 1))) := by show valL _ = _; rw [drop_cons (by omega)]; rfl
      rw [HD.out] at h2
      have hi : ((k + 1 : Nat) : Int) - 1 = (k : Int) := by omega
      rw [hi]
      generalize zs.getD k 0 = x at *
      generalize valL (zs.drop (k + 1)) = V at *
      have hkl : (k : Int) < (zs.length : Int) := by omega
      go_wp2
      go_round
      case rel => exact ⟨k, by omega, by go_num, by rw [HD.out]; go_num⟩
      case measure => simp [intOf]
    · obtain rfl : k = 0 := by omega
      go_wp2
      go_ret
      exact ⟨rfl, rfl⟩
theorem value_at (a : Option Addr) (zs : List Int) (n cap : Nat) (w : World) (hs : Seg w a zs) (hn : zs.length = n) (hl : n ≤ 140737488355328) (hv : valL zs ≤ 18446744073709551615) :
    Calls Try.prog 67 #[.slice a n cap] w fun e w' => e = .returned (.int .u64 (valL zs)) ∧ w' = w := by
  subst hn
  exact value_any a zs cap w hs hl hv

end Go.Proofs.Ytodioefbfchckaa
