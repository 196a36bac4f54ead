import Derived.Test.YtcifalelnfeggaaGreatDoorPp
import Derived.Test.YtcifalelnfeggaaGreatDoorPa
import Derived.Test.YtcifalelnfeggaaGreatDoorPl
import Derived.Test.YtcifalelnfeggaaGreatDoorPm
namespace Go.Proofs.YtcifalelnfeggaaGreatDoor
open Go.RowKit
set_option linter.unusedVariables false

/-! What an Own block costs. -/
theorem cb8_le9 {Z : List Int} (hZ : ∀ i, 0 ≤ Z.getD i 0 ∧ Z.getD i 0 ≤ 7) : ∀ R : List Rn8, cb8 Z R ≤ 14 * R.length
  | [] => by simp [cb8]
  | r :: R => by
    have h1 := cb8_le9 hZ R
    have h2 := hZ r.sy.toNat
    have h3 : mor8 r.sy ≤ 7 := by unfold mor8; split; omega; split; omega; split <;> omega
    rw [cb8, List.length_cons]
    omega
theorem cst8_bd9 {lit dist : List Int} (h : tld8 errC lit dist) : cst8 lit dist ≤ 5000 := by
  have hZ := sz8_ok h
  have hR := runs8_ok (tld8_ok h).2.2.1
  have hR3 : (rs8 lit dist).length ≤ 320 := by have := (tld8_ok h).2.2.1.1; unfold rs8; omega
  have hto := tol8_bd (sz8 lit dist) 19 (by omega)
  have hb := cb8_le9 (getD_bd9 (zs := sz8 lit dist) (P := fun z => 0 ≤ z ∧ z ≤ 7) (by omega) (fun i hi => hZ.2.2.1 i (by rw [hZ.2.1] at hi; exact hi))) (rs8 lit dist)
  unfold cst8
  omega
theorem hco9_bd (X : List Int) : hco9 X ≤ 5000 := by
  unfold hco9
  split
  · rename_i h; exact cst8_bd9 h
  · omega
theorem lensR_bd9 {zs : List Int} (h : zs.length ≤ 288) (hb : ∀ i, 0 ≤ zs.getD i 0 ∧ zs.getD i 0 ≤ 1099511627776) : ∀ z ∈ lensR 15 zs, 0 ≤ z ∧ z ≤ 15 := by
  have he := errOf_ok9 h hb
  have hu : nUse zs ≤ 2 ^ 15 := by
    have e := errL_ok9 h hb
    unfold errL at e
    rw [if_neg (by omega), if_pos he] at e
    split at e
    · omega
    · rename_i hq
      have : (2 : Nat) ^ (15 : Int).toNat = 2 ^ 15 := rfl
      omega
  have hL : lensR 15 zs = lensL 15 zs := by
    unfold lensR
    rw [if_pos (errL_ok9 h hb)]
    rfl
  rw [hL]
  intro z hz
  obtain ⟨i, hi, rfl⟩ := List.mem_iff_getElem.1 hz
  rw [lens_len] at hi
  have hg : (lensL 15 zs).getD i 0 = (lensL 15 zs)[i] := by simp [List.getD, lens_len, hi]
  rw [← hg]
  by_cases h0 : zs.getD i 0 = 0
  · rw [lens_none he h0]; omega
  · have := lens_bd he (lim := 15) (by omega) hu (usI_mem.2 ⟨hi, h0⟩)
    omega
theorem oL9_bd {X : List Int} (h : Ct9 X) : (∀ z ∈ oL9 X, 0 ≤ z ∧ z ≤ 15) ∧ ∀ z ∈ oD9 X, 0 ≤ z ∧ z ≤ 15 := ⟨lensR_bd9 (by rw [cl9_len]; omega) (cl9_bd h), lensR_bd9 (by rw [cd9_len]; omega) (cd9_bd h)⟩
set_option maxRecDepth 100000 in
set_option maxHeartbeats 4000000 in
theorem powc9 (b : Nat) (X : List Int) (v : Value) (w : World) (h : Ta9 w b X) (hc : Ct9 X) (T : TabS w) (O : TabO w) :
    Calls Tryz.prog 80 #[v, .pointer (some ⟨b, 0, none⟩)] w fun e w' => e = .returned (.int .i64 (owc9 X)) ∧ Below w.heap.size w w' := by
  have HT : Hid (Ta9 w b X) := h
  have HTS : Hid (TabS w ∧ TabO w) := ⟨T, O⟩
  have hlt := h.lt
  have BB := bts9_bd (X := X) (ZL := oL9 X) (ZD := oD9 X) hc
  have BH := hco9_bd X
  have HBL := oL9_bd hc
  have HLN := oL9_len hc
  have CO := pol9 b X w h
  have HOW : Hid (owc9 X = 3 + (hco9 X : Int) + bts9 X (oL9 X) (oD9 X)) := rfl
  have HCO : Hid (hco9 X = if tld8 errC (oL9 X) (oD9 X) then cst8 (oL9 X) (oD9 X) else 0) := rfl
  obtain ⟨V, hV⟩ : ∃ V, V = bts9 X (oL9 X) (oD9 X) := ⟨_, rfl⟩
  have HV : Hid (bts9 X (oL9 X) (oD9 X) = V) := hV.symm
  obtain ⟨ZL, hZL⟩ : ∃ Z, Z = oL9 X := ⟨_, rfl⟩
  obtain ⟨ZD, hZD⟩ : ∃ Z, Z = oD9 X := ⟨_, rfl⟩
  rw [← hV] at BB HOW
  rw [← hZL, ← hZD] at HBL HLN CO HCO HV
  have HN1 : Hid (ZL.length = 286) := HLN.1
  have HN2 : Hid (ZD.length = 30) := HLN.2
  obtain ⟨N, hN⟩ : ∃ N, N = hco9 X := ⟨_, rfl⟩
  rw [← hN] at HCO HOW BH
  rw [HOW.out]
  clear h hV hZL hZD hN T O HLN HOW
  go_enter Tryz.func80, Tryz.ntmps80
  go_wp2_with fail
  refine CO.mono ?_
  rintro e w1 ⟨la, lc, da, dc, rfl, OL, OD, _, b1⟩
  rw [HN1.out] at OL ⊢
  rw [HN2.out] at OD ⊢
  obtain ⟨gl, rfl, hcl, _, _⟩ := own_shape1 OL (by omega)
  obtain ⟨gd, rfl, hcd, _, _⟩ := own_shape1 OD (by omega)
  have sL := own_segZ OL (fun z hz => by have := HBL.1 z hz; omega)
  have sD := own_segZ OD (fun z hz => by have := HBL.2 z hz; omega)
  have CH := pcost8 ZL ZD (some ⟨gl, 0, none⟩) (some ⟨gd, 0, none⟩) 286 30 lc dc HN1 HN2 w1 sL sD hcl hcd (HTS.out.1.old b1) (HTS.out.2.old b1)
  have HSL : Hid (SegZ w1 (some ⟨gl, 0, none⟩) ZL ∧ SegZ w1 (some ⟨gd, 0, none⟩) ZD) := ⟨sL, sD⟩
  have HCL : Hid (286 ≤ lc ∧ 30 ≤ dc) := ⟨hcl, hcd⟩
  clear CO OL OD sL sD
  by_cases ht : tld8 errC ZL ZD
  · rw [if_pos ht] at HCO
    go_wp2_with fail
    refine CH.mono ?_
    rintro e w2 ⟨he, b2⟩
    rw [if_pos ht, ← HCO.out] at he
    subst he
    have B2 : Below w.heap.size w w2 := b1.trans (b2.mono b1.size)
    have CB := pbits9 b X ZL ZD gl gd 286 lc 30 dc HN1 HN2 w2 (HT.out.keep (B2.block b hlt)) (HSL.out.1.old b2) (HSL.out.2.old b2) (by omega) HCL.out.1 (by omega) HCL.out.2
    rw [HV.out] at CB
    clear CH b1 b2 ht
    go_wp2_with fail
    refine CB.mono ?_
    rintro e w3 ⟨rfl, b3⟩
    have B3 : Below w.heap.size w w3 := B2.trans (b3.mono B2.size)
    clear CB b3 B2
    go_wp2_with fail
    go_ret
    exact ⟨rfl, B3⟩
  · rw [if_neg ht] at HCO
    go_wp2_with fail
    refine CH.mono ?_
    rintro e w2 ⟨he, b2⟩
    rw [if_neg ht] at he
    subst he
    have B2 : Below w.heap.size w w2 := b1.trans (b2.mono b1.size)
    have CB := pbits9 b X ZL ZD gl gd 286 lc 30 dc HN1 HN2 w2 (HT.out.keep (B2.block b hlt)) (HSL.out.1.old b2) (HSL.out.2.old b2) (by omega) HCL.out.1 (by omega) HCL.out.2
    rw [HV.out] at CB
    clear CH b1 b2 ht
    go_wp2_with fail
    refine CB.mono ?_
    rintro e w3 ⟨rfl, b3⟩
    have B3 : Below w.heap.size w w3 := B2.trans (b3.mono B2.size)
    have hN0 : N = 0 := HCO.out
    subst hN0
    clear CB b3 B2
    go_wp2_with fail
    go_ret
    exact ⟨by simp, B3⟩
end Go.Proofs.YtcifalelnfeggaaGreatDoor

namespace Go.Proofs.YtcifalelnfeggaaGreatDoor
open Go.RowKit
set_option linter.unusedVariables false

/-! planned, in all its answers. -/
def z0f9 : Array Value := #[.int .i64 0, .nilFunc, .nilFunc, .nilFunc]
theorem z0f9_facts : (Tryz.prog.info? 111).map (·.size) = some z0f9.size ∧ (#[.int .i64 0, .nilFunc, .nilFunc, .nilFunc] : Array Value).size = z0f9.size ∧ z0f9.all (·.oneCell') = true ∧ (Tryz.prog.built 111 []).getD #[] = z0f9 := ⟨by kernel_rfl, by kernel_rfl, by kernel_rfl, by kernel_rfl⟩
set_option maxRecDepth 100000 in
theorem pinb9_no (x : Int) (h : x < 0 ∨ 8 ≤ x) (w : World) : Calls Tryz.prog 52 #[.int .i64 x] w fun e w' => e = .returned (.bool false) ∧ w' = w := by
  by_cases h1 : x < 0
  · go_enter Tryz.func52, Tryz.ntmps52
    go_wp2_with fail
    go_ret
    exact ⟨rfl, rfl⟩
  · have h2 : ¬ x < 8 := by omega
    go_enter Tryz.func52, Tryz.ntmps52
    go_wp2_with fail
    go_ret
    exact ⟨rfl, rfl⟩
/-- The error that planned answers. -/
def ple9 (k x : Int) (l : List Tok7) : Int := if k < 0 ∨ 2 < k ∨ x < 0 ∨ 7 < x then 1 else if mer9 l ≠ 0 then mer9 l else if mst9 k.toNat < (tal9 l).getD 0 0 then 90 else 0
def PnQ9 (w : World) (er : Int) (e : Ending) (w' : World) : Prop := e = .returned (.tuple #[.agg z0f9, .pointer none, .int .i64 er]) ∧ Below w.heap.size w w'
theorem plq9 {w w1 : World} {er : Int} {tmps : Array Value} (q : w1.heap[w.heap.size]? = some (.cells z0f9 111 (0, 0))) (h6 : tmps.getD 6 undef = .pointer (some ⟨w.heap.size, 0, none⟩)) (h7 : tmps.getD 7 undef = .pointer none) (h8 : tmps.getD 8 undef = .int .i64 er) (hb : Below w.heap.size w w1) : (results Tryz.f51 tmps).run Tryz.prog w1 = .ok (.tuple #[.agg z0f9, .pointer none, .int .i64 er]) w1 := by
  have := results_ctt9 (P := Tryz.prog) (fn := Tryz.f51) (p := 6) (u := 7) (v := 8) (ty := 111) rfl tmps w1 w.heap.size _ _ _ _ h6 q Tryz.underlying111 rfl z0f9_facts.1
  rw [h7, h8] at this
  exact this
set_option maxRecDepth 100000 in
set_option maxHeartbeats 4000000 in
theorem pplan9_arg (k x : Int) (h : k < 0 ∨ 2 < k ∨ x < 0 ∨ 7 < x) (v : Value) (w : World) :
    Calls Tryz.prog 51 #[.int .i64 k, .int .i64 x, v] w (PnQ9 w 1) := by
  have q0 := heap_alloc_new w (.cells #[.int .i64 0, .nilFunc, .nilFunc, .nilFunc] 111)
  have B0 := below_box8 w (.cells #[.int .i64 0, .nilFunc, .nilFunc, .nilFunc] 111)
  by_cases h1 : k < 0
  · go_enter Tryz.func51, Tryz.ntmps51
    go_wp2_with fail
    exact bodyPost_ret (plq9 q0 rfl rfl rfl B0) rfl ⟨rfl, B0⟩
  by_cases h2 : 3 ≤ k
  · go_enter Tryz.func51, Tryz.ntmps51
    go_wp2_with fail
    exact bodyPost_ret (plq9 q0 rfl rfl rfl B0) rfl ⟨rfl, B0⟩
  · have CI := pinb9_no x (by omega) (w.alloc (.cells #[.int .i64 0, .nilFunc, .nilFunc, .nilFunc] 111))
    go_enter Tryz.func51, Tryz.ntmps51
    go_wp2_with fail
    refine CI.mono ?_
    rintro e w1 ⟨rfl, hw1⟩
    rw [hw1]
    clear hw1 CI
    go_wp2_with fail
    exact bodyPost_ret (plq9 q0 rfl rfl rfl B0) rfl ⟨rfl, B0⟩
set_option maxRecDepth 100000 in
set_option maxHeartbeats 4000000 in
theorem pplan9_tok (l : List Tok7) (a : Option Addr) (n cap : Nat) (hn : Hid (l.length = n)) (k x : Int) (hk : 0 ≤ k ∧ k ≤ 2) (hx : 0 ≤ x ∧ x < 8) (w : World) (hs : SegT w a l) (hm : mer9 l ≠ 0) :
    Calls Tryz.prog 51 #[.int .i64 k, .int .i64 x, .slice a n cap] w (PnQ9 w (mer9 l)) := by
  have hst : ∀ (W : World) (a : Addr), (store a .nilFunc).run Tryz.prog W = stored Tryz.prog W a .nilFunc .plain := fun W a => run_store Tryz.prog W a _ _ rfl
  have HS : Hid (SegT w a l) := hs
  have HM : Hid (mer9 l ≠ 0) := hm
  have hk1 : ¬ k < 0 := by omega
  have hk2 : ¬ 3 ≤ k := by omega
  clear hs hk hm
  go_enter Tryz.func51, Tryz.ntmps51
  go_wp2_with fail
  have q0 := heap_alloc_new w (.cells #[.int .i64 0, .nilFunc, .nilFunc, .nilFunc] 111)
  have B0 := below_box8 w (.cells #[.int .i64 0, .nilFunc, .nilFunc, .nilFunc] 111)
  generalize w.alloc (.cells #[.int .i64 0, .nilFunc, .nilFunc, .nilFunc] 111) = w0 at *
  refine (pinb9 x hx w0).mono ?_
  rintro e w0' ⟨rfl, hw0⟩
  rw [hw0]
  clear hw0 w0'
  go_wp2_with fail
  refine (ptal9_any l a n cap hn w0 (HS.out.old B0)).mono ?_
  rintro e w1 (⟨h0, _⟩ | ⟨hmm, rfl, b1⟩)
  · exact absurd h0 HM.out
  · have hwl : w.heap.size < w0.heap.size := (Array.getElem?_eq_some_iff.1 q0).1
    have q1 := (b1.block w.heap.size hwl).trans q0
    have B1 : Below w.heap.size w w1 := B0.trans (b1.mono B0.size)
    clear q0 B0 b1
    obtain ⟨E, hE⟩ : ∃ E, E = mer9 l := ⟨_, rfl⟩
    rw [← hE] at hmm ⊢
    have hE0 : ¬ E = 0 := by omega
    have hEb : (E == 0) = false := by rw [beq_eq_false_iff_ne]; exact hE0
    have HEE : Hid (mer9 l = E) := hE.symm
    have HQ : Hid (∀ W, W = w1.setRow w.heap.size z0f9 → W.heap[w.heap.size]? = some (.cells z0f9 111 (0, 0)) ∧ Below w.heap.size w W) := by
      rintro W rfl
      exact ⟨setRow_heap _ _ _ _ _ _ q1, B1.grown (grown_setRow _ _ _) B1.size (fun j e => by cases e; exact Nat.le_refl _)⟩
    clear hE
    go_wp2_with (refine wpList_store_row rfl 111 (.tmp 6) (.tmp 31) rfl w.heap.size z0f9 rfl rfl _ _ q1 z0f9_facts.1 z0f9_facts.2.1 z0f9_facts.2.2.1 ?_)
    rw [HEE.out]
    exact bodyPost_ret (plq9 (HQ.out _ rfl).1 rfl rfl rfl (HQ.out _ rfl).2) rfl ⟨rfl, (HQ.out _ rfl).2⟩
set_option maxRecDepth 100000 in
set_option maxHeartbeats 4000000 in
theorem pplan9_big (l : List Tok7) (a : Option Addr) (n cap : Nat) (hn : Hid (l.length = n)) (k : Nat) (hk : k < 3) (x : Int) (hx : 0 ≤ x ∧ x < 8) (w : World) (hs : SegT w a l) (hm : mer9 l = 0) (hsz : mst9 k < (tal9 l).getD 0 0) :
    Calls Tryz.prog 51 #[.int .i64 (k : Int), .int .i64 x, .slice a n cap] w (PnQ9 w 90) := by
  have hix : ∀ W, (Instr.index 115 (.agg frm9) (.int .i64 (k : Int))).run Tryz.prog W = .ok (.agg (fk9 k)) W := fun W => run_index9 W 115 111 3 4 _ _ k .i64 hk Tryz.underlying115 Tryz.underlying111 (by kernel_rfl)
  have HM : Hid (mer9 l = 0) := hm
  have HS : Hid (SegT w a l) := hs
  have HSZ : Hid (mst9 k < (tal9 l).getD 0 0) := hsz
  clear hm hs hsz
  have k0 : ¬ (k : Int) < 0 := by omega
  have k3 : ¬ (3 : Int) ≤ (k : Int) := by omega
  go_enter Tryz.func51, Tryz.ntmps51
  go_wp2_with fail
  have q0 := heap_alloc_new w (.cells #[.int .i64 0, .nilFunc, .nilFunc, .nilFunc] 111)
  have B0 := below_box8 w (.cells #[.int .i64 0, .nilFunc, .nilFunc, .nilFunc] 111)
  generalize w.alloc (.cells #[.int .i64 0, .nilFunc, .nilFunc, .nilFunc] 111) = w0 at *
  refine (pinb9 x hx w0).mono ?_
  rintro e w0' ⟨rfl, hw0⟩
  rw [hw0]
  clear hw0 w0'
  go_wp2_with fail
  refine (ptal9_any l a n cap hn w0 (HS.out.old B0)).mono ?_
  rintro e w1 (⟨_, b, hb, rfl, TA, b1⟩ | ⟨hno, _, _⟩)
  · go_wp2_with fail
    refine (pforms9 w1).mono ?_
    rintro e w2 ⟨rfl, b2⟩
    have TB := TA.keep (b2.block b TA.lt)
    have q2 := (b2.block w.heap.size (by have := (Array.getElem?_eq_some_iff.1 q0).1; have := b1.size; omega)).trans ((b1.block w.heap.size (Array.getElem?_eq_some_iff.1 q0).1).trans q0)
    have B2 : Below w.heap.size w w2 := (B0.trans (b1.mono B0.size)).trans (b2.mono (by have := B0.size; have := b1.size; omega))
    have hww : w.heap.size < w2.heap.size := (Array.getElem?_eq_some_iff.1 q2).1
    obtain ⟨fi, fs, fo, f0⟩ := fk9_facts k hk
    clear TA b1 b2 q0 hb B0
    go_wp2_with (refine wpList_store_row rfl 111 (.tmp 11) (.tmp 35) rfl w2.heap.size (fk9 k) rfl rfl _ _ (heap_alloc_new w2 _) fi fs fo ?_)
    have q3 := setRow_heap _ w2.heap.size _ (fk9 k) _ _ (heap_alloc_new w2 (.cells #[.int .i64 0, .nilFunc, .nilFunc, .nilFunc] 111))
    have b3 : Below w2.heap.size w2 ((w2.alloc (.cells #[.int .i64 0, .nilFunc, .nilFunc, .nilFunc] 111)).setRow w2.heap.size (fk9 k)) := ((Below.refl w2.heap.size w2).alloc (Nat.le_refl _) _).grown (grown_setRow _ _ _) (by simp) (fun j e => by cases e; exact Nat.le_refl _)
    generalize (w2.alloc (.cells #[.int .i64 0, .nilFunc, .nilFunc, .nilFunc] 111)).setRow w2.heap.size (fk9 k) = w3 at *
    have T3 := TB.keep (b3.block b TB.lt)
    have q33 := (b3.block w.heap.size hww).trans q2
    have B3 : Below w.heap.size w w3 := B2.trans (b3.mono B2.size)
    have c0 := T3.cell (i := 0) (by omega)
    have c1 : w3.cell? ⟨w2.heap.size, 0, none⟩ = some (.int .i64 (mst9 k)) := (cell_of_row w3 _ 0 _ _ _ q3).trans f0
    have hsz := HSZ.out
    obtain ⟨z, hz⟩ : ∃ z, z = (tal9 l).getD 0 0 := ⟨_, rfl⟩
    rw [← hz] at c0 hsz
    generalize mst9 k = M at *
    clear hz TB q2 b3 B2 HSZ f0 T3
    go_region_held3 (fun w' => w'.cell? ⟨b, 0, none⟩ = some (.int .i64 z) ∧ w'.cell? ⟨w2.heap.size, 0, none⟩ = some (.int .i64 M)) (exact ⟨c0, c1⟩) (fail)
    have q5 : w3.drew.heap[w.heap.size]? = some (.cells #[.int .i64 0, .nilFunc, .nilFunc, .nilFunc] 111 (0, 0)) := q33
    have B4 : Below w.heap.size w w3.drew := B3.drew
    generalize w3.drew = w4 at *
    have HQ : Hid (∀ W, W = w4.setRow w.heap.size z0f9 → W.heap[w.heap.size]? = some (.cells z0f9 111 (0, 0)) ∧ Below w.heap.size w W) := by
      rintro W rfl
      exact ⟨setRow_heap _ _ _ _ _ _ q5, B4.grown (grown_setRow _ _ _) B4.size (fun j e => by cases e; exact Nat.le_refl _)⟩
    clear q3 q33 B3 c0 c1 fi fs fo
    go_wp2_with (refine wpList_store_row rfl 111 (.tmp 6) (.tmp 43) rfl w.heap.size z0f9 rfl rfl _ _ q5 z0f9_facts.1 z0f9_facts.2.1 z0f9_facts.2.2.1 ?_)
    exact bodyPost_ret (plq9 (HQ.out _ rfl).1 rfl rfl rfl (HQ.out _ rfl).2) rfl ⟨rfl, (HQ.out _ rfl).2⟩
  · have := HM.out; omega
/-- planned, where the block may not be written. -/
theorem pplan9_no (l : List Tok7) (a : Option Addr) (n cap : Nat) (hn : Hid (l.length = n)) (k x : Int) (w : World) (hs : SegT w a l) (he : ple9 k x l ≠ 0) :
    Calls Tryz.prog 51 #[.int .i64 k, .int .i64 x, .slice a n cap] w (PnQ9 w (ple9 k x l)) := by
  unfold ple9 at *
  by_cases h1 : k < 0 ∨ 2 < k ∨ x < 0 ∨ 7 < x
  · rw [if_pos h1]
    exact pplan9_arg k x h1 _ w
  · rw [if_neg h1] at he ⊢
    by_cases h2 : mer9 l ≠ 0
    · rw [if_pos h2]
      exact pplan9_tok l a n cap hn k x (by omega) (by omega) w hs h2
    · rw [if_neg h2] at he ⊢
      by_cases h3 : mst9 k.toNat < (tal9 l).getD 0 0
      · rw [if_pos h3]
        have := pplan9_big l a n cap hn k.toNat (by omega) x (by omega) w hs (Classical.not_not.1 h2) h3
        rwa [show ((k.toNat : Nat) : Int) = k by omega] at this
      · rw [if_neg h3] at he
        exact absurd rfl he
end Go.Proofs.YtcifalelnfeggaaGreatDoor

namespace Go.Proofs.YtcifalelnfeggaaGreatDoor
open Go.RowKit
set_option linter.unusedVariables false

/-! The landed Cost. -/
def cos9 (k x : Nat) (X : List Int) : Int := if k = 0 then sto9 x X else if k = 1 then 3 + bts9 X plnL9 plnD9 else owc9 X
def cfn9 (k : Nat) : Nat := if k = 0 then 74 else if k = 1 then 77 else 80
theorem fk9_cost (k : Nat) (hk : k < 3) : (fk9 k)[1]? = some (.func (.func (cfn9 k)) #[] #[]) := by
  obtain rfl | rfl | rfl : k = 0 ∨ k = 1 ∨ k = 2 := by omega
  · kernel_rfl
  · kernel_rfl
  · kernel_rfl
theorem pcfn9 (k x b : Nat) (hk : k < 3) (hx : x < 8) (X : List Int) (w : World) (h : Ta9 w b X) (hc : Ct9 X) (T : TabS w) (O : TabO w) :
    Calls Tryz.prog (cfn9 k) #[.int .i64 (x : Int), .pointer (some ⟨b, 0, none⟩)] w fun e w' => e = .returned (.int .i64 (cos9 k x X)) ∧ Below w.heap.size w w' := by
  obtain rfl | rfl | rfl : k = 0 ∨ k = 1 ∨ k = 2 := by omega
  · exact (pstc9 b X x hx w h hc).mono (by rintro e w' ⟨h1, h2⟩; subst h2; exact ⟨h1, Below.refl _ _⟩)
  · exact pplc9 b X _ w h hc
  · exact powc9 b X _ w h hc T O
theorem cos9_bd {k x : Nat} {X : List Int} (hc : Ct9 X) : 0 ≤ cos9 k x X ∧ cos9 k x X ≤ 20000000000000000 := by
  have b1 := bts9_bd (X := X) (ZL := plnL9) (ZD := plnD9) hc
  have b2 := bts9_bd (X := X) (ZL := oL9 X) (ZD := oD9 X) hc
  have b3 := hco9_bd X
  have b4 := hc 0
  unfold cos9
  split
  · unfold sto9; omega
  · split
    · omega
    · unfold owc9; omega
set_option maxRecDepth 100000 in
set_option maxHeartbeats 4000000 in
theorem pcst9_no (l : List Tok7) (a : Option Addr) (n cap : Nat) (hn : Hid (l.length = n)) (k x : Int) (w : World) (hs : SegT w a l) (he : ple9 k x l ≠ 0) :
    Calls Tryz.prog 25 #[.int .i64 k, .int .i64 x, .slice a n cap] w fun e w' => e = .returned (.tuple #[.int .i64 0, .int .i64 (ple9 k x l)]) ∧ Below w.heap.size w w' := by
  have CP := pplan9_no l a n cap hn k x w hs he
  have HE : Hid (ple9 k x l ≠ 0) := he
  obtain ⟨E, hE⟩ : ∃ E, E = ple9 k x l := ⟨_, rfl⟩
  rw [← hE] at CP HE ⊢
  have hEb : (E == 0) = false := by rw [beq_eq_false_iff_ne]; exact HE.out
  have hE0 : ¬ E = 0 := HE.out
  clear he hE hs
  go_enter Tryz.func25, Tryz.ntmps25
  go_wp2_with fail
  refine CP.mono ?_
  rintro e w1 ⟨rfl, b1⟩
  clear CP
  have B2 : Below w.heap.size w ((w1.alloc (.cells #[.int .i64 0, .nilFunc, .nilFunc, .nilFunc] 111)).setRow w1.heap.size z0f9) := b1.trans ((((Below.refl w1.heap.size w1).alloc (Nat.le_refl _) _).grown (grown_setRow _ _ _) (by simp) (fun j e => by cases e; exact Nat.le_refl _)).mono b1.size)
  go_wp2_with (refine wpList_store_row rfl 111 (.tmp 8) (.tmp 16) rfl w1.heap.size z0f9 rfl rfl _ _ (heap_alloc_new w1 _) z0f9_facts.1 z0f9_facts.2.1 z0f9_facts.2.2.1 ?_)
  go_ret2
  exact ⟨rfl, B2⟩
set_option maxRecDepth 100000 in
set_option maxHeartbeats 4000000 in
theorem pcst9_ok0 (l : List Tok7) (a : Option Addr) (n cap : Nat) (hn : Hid (l.length = n)) (x : Nat) (hx : x < 8) (w : World) (hs : SegT w a l) (hm : mer9 l = 0) (hsz : (tal9 l).getD 0 0 ≤ mst9 0) (T : TabS w) (O : TabO w) :
    Calls Tryz.prog 25 #[.int .i64 0, .int .i64 (x : Int), .slice a n cap] w fun e w' => e = .returned (.tuple #[.int .i64 (cos9 0 x (tal9 l)), .int .i64 0]) ∧ Below w.heap.size w w' := by
  have CP := pplan9_ok l a n cap hn 0 (by omega) (x : Int) (by omega) w hs (by have := (mer9_zero hm).1; rw [hn.out] at this; exact this) (mer9_zero hm).2 hsz
  have HCT : Hid (Ct9 (tal9 l)) := tal9_ct hm hs.fit
  have HTS : Hid (TabS w ∧ TabO w) := ⟨T, O⟩
  clear hs hm hsz T O
  go_enter Tryz.func25, Tryz.ntmps25
  go_wp2_with fail
  refine CP.mono ?_
  rintro e w2 ⟨tb, htb, rfl, TA, b2⟩
  obtain ⟨fi, fs, fo, f0⟩ := fk9_facts 0 (by omega)
  have f1 := fk9_cost 0 (by omega)
  have q3 := setRow_heap _ w2.heap.size _ (fk9 0) _ _ (heap_alloc_new w2 (.cells #[.int .i64 0, .nilFunc, .nilFunc, .nilFunc] 111))
  have b3 : Below w2.heap.size w2 ((w2.alloc (.cells #[.int .i64 0, .nilFunc, .nilFunc, .nilFunc] 111)).setRow w2.heap.size (fk9 0)) := ((Below.refl w2.heap.size w2).alloc (Nat.le_refl _) _).grown (grown_setRow _ _ _) (by simp) (fun j e => by cases e; exact Nat.le_refl _)
  have HB3 : Hid (Below w.heap.size w ((w2.alloc (.cells #[.int .i64 0, .nilFunc, .nilFunc, .nilFunc] 111)).setRow w2.heap.size (fk9 0))) := b2.trans (b3.mono b2.size)
  have HT3 : Hid (Ta9 ((w2.alloc (.cells #[.int .i64 0, .nilFunc, .nilFunc, .nilFunc] 111)).setRow w2.heap.size (fk9 0)) tb (tal9 l)) := TA.keep (b3.block tb TA.lt)
  have HQ3 : Hid (((w2.alloc (.cells #[.int .i64 0, .nilFunc, .nilFunc, .nilFunc] 111)).setRow w2.heap.size (fk9 0)).heap[w2.heap.size]? = some (.cells (fk9 0) 111 (0, 0))) := q3
  have d1 : (((w2.alloc (.cells #[.int .i64 0, .nilFunc, .nilFunc, .nilFunc] 111)).setRow w2.heap.size (fk9 0)).cell? ⟨w2.heap.size, 1, none⟩ = some (.func (.func 74) #[] #[])) := (cell_of_row _ _ 1 _ _ _ q3).trans f1
  clear CP b2 b3 q3 TA f0 f1
  go_wp2_with (refine wpList_store_row rfl 111 (.tmp 8) (.tmp 16) rfl w2.heap.size (fk9 0) rfl rfl _ _ (heap_alloc_new w2 _) fi fs fo ?_)
  generalize (w2.alloc (.cells #[.int .i64 0, .nilFunc, .nilFunc, .nilFunc] 111)).setRow w2.heap.size (fk9 0) = w3 at *
  have CC : Calls Tryz.prog 74 _ _ _ := pcfn9 0 x tb (by omega) hx (tal9 l) w3 HT3.out HCT.out (HTS.out.1.old HB3.out) (HTS.out.2.old HB3.out)
  clear fi fs fo HQ3 d1
  refine CC.mono ?_
  rintro e w4 ⟨rfl, b4⟩
  have B4 : Below w.heap.size w w4 := HB3.out.trans (b4.mono HB3.out.size)
  clear CC b4
  go_wp2_with fail
  go_ret2
  exact ⟨rfl, B4⟩
set_option maxRecDepth 100000 in
set_option maxHeartbeats 4000000 in
theorem pcst9_ok1 (l : List Tok7) (a : Option Addr) (n cap : Nat) (hn : Hid (l.length = n)) (x : Nat) (hx : x < 8) (w : World) (hs : SegT w a l) (hm : mer9 l = 0) (hsz : (tal9 l).getD 0 0 ≤ mst9 1) (T : TabS w) (O : TabO w) :
    Calls Tryz.prog 25 #[.int .i64 1, .int .i64 (x : Int), .slice a n cap] w fun e w' => e = .returned (.tuple #[.int .i64 (cos9 1 x (tal9 l)), .int .i64 0]) ∧ Below w.heap.size w w' := by
  have CP := pplan9_ok l a n cap hn 1 (by omega) (x : Int) (by omega) w hs (by have := (mer9_zero hm).1; rw [hn.out] at this; exact this) (mer9_zero hm).2 hsz
  have HCT : Hid (Ct9 (tal9 l)) := tal9_ct hm hs.fit
  have HTS : Hid (TabS w ∧ TabO w) := ⟨T, O⟩
  clear hs hm hsz T O
  go_enter Tryz.func25, Tryz.ntmps25
  go_wp2_with fail
  refine CP.mono ?_
  rintro e w2 ⟨tb, htb, rfl, TA, b2⟩
  obtain ⟨fi, fs, fo, f0⟩ := fk9_facts 1 (by omega)
  have f1 := fk9_cost 1 (by omega)
  have q3 := setRow_heap _ w2.heap.size _ (fk9 1) _ _ (heap_alloc_new w2 (.cells #[.int .i64 0, .nilFunc, .nilFunc, .nilFunc] 111))
  have b3 : Below w2.heap.size w2 ((w2.alloc (.cells #[.int .i64 0, .nilFunc, .nilFunc, .nilFunc] 111)).setRow w2.heap.size (fk9 1)) := ((Below.refl w2.heap.size w2).alloc (Nat.le_refl _) _).grown (grown_setRow _ _ _) (by simp) (fun j e => by cases e; exact Nat.le_refl _)
  have HB3 : Hid (Below w.heap.size w ((w2.alloc (.cells #[.int .i64 0, .nilFunc, .nilFunc, .nilFunc] 111)).setRow w2.heap.size (fk9 1))) := b2.trans (b3.mono b2.size)
  have HT3 : Hid (Ta9 ((w2.alloc (.cells #[.int .i64 0, .nilFunc, .nilFunc, .nilFunc] 111)).setRow w2.heap.size (fk9 1)) tb (tal9 l)) := TA.keep (b3.block tb TA.lt)
  have HQ3 : Hid (((w2.alloc (.cells #[.int .i64 0, .nilFunc, .nilFunc, .nilFunc] 111)).setRow w2.heap.size (fk9 1)).heap[w2.heap.size]? = some (.cells (fk9 1) 111 (0, 0))) := q3
  have d1 : (((w2.alloc (.cells #[.int .i64 0, .nilFunc, .nilFunc, .nilFunc] 111)).setRow w2.heap.size (fk9 1)).cell? ⟨w2.heap.size, 1, none⟩ = some (.func (.func 77) #[] #[])) := (cell_of_row _ _ 1 _ _ _ q3).trans f1
  clear CP b2 b3 q3 TA f0 f1
  go_wp2_with (refine wpList_store_row rfl 111 (.tmp 8) (.tmp 16) rfl w2.heap.size (fk9 1) rfl rfl _ _ (heap_alloc_new w2 _) fi fs fo ?_)
  generalize (w2.alloc (.cells #[.int .i64 0, .nilFunc, .nilFunc, .nilFunc] 111)).setRow w2.heap.size (fk9 1) = w3 at *
  have CC : Calls Tryz.prog 77 _ _ _ := pcfn9 1 x tb (by omega) hx (tal9 l) w3 HT3.out HCT.out (HTS.out.1.old HB3.out) (HTS.out.2.old HB3.out)
  clear fi fs fo HQ3 d1
  refine CC.mono ?_
  rintro e w4 ⟨rfl, b4⟩
  have B4 : Below w.heap.size w w4 := HB3.out.trans (b4.mono HB3.out.size)
  clear CC b4
  go_wp2_with fail
  go_ret2
  exact ⟨rfl, B4⟩
set_option maxRecDepth 100000 in
set_option maxHeartbeats 4000000 in
theorem pcst9_ok2 (l : List Tok7) (a : Option Addr) (n cap : Nat) (hn : Hid (l.length = n)) (x : Nat) (hx : x < 8) (w : World) (hs : SegT w a l) (hm : mer9 l = 0) (hsz : (tal9 l).getD 0 0 ≤ mst9 2) (T : TabS w) (O : TabO w) :
    Calls Tryz.prog 25 #[.int .i64 2, .int .i64 (x : Int), .slice a n cap] w fun e w' => e = .returned (.tuple #[.int .i64 (cos9 2 x (tal9 l)), .int .i64 0]) ∧ Below w.heap.size w w' := by
  have CP := pplan9_ok l a n cap hn 2 (by omega) (x : Int) (by omega) w hs (by have := (mer9_zero hm).1; rw [hn.out] at this; exact this) (mer9_zero hm).2 hsz
  have HCT : Hid (Ct9 (tal9 l)) := tal9_ct hm hs.fit
  have HTS : Hid (TabS w ∧ TabO w) := ⟨T, O⟩
  clear hs hm hsz T O
  go_enter Tryz.func25, Tryz.ntmps25
  go_wp2_with fail
  refine CP.mono ?_
  rintro e w2 ⟨tb, htb, rfl, TA, b2⟩
  obtain ⟨fi, fs, fo, f0⟩ := fk9_facts 2 (by omega)
  have f1 := fk9_cost 2 (by omega)
  have q3 := setRow_heap _ w2.heap.size _ (fk9 2) _ _ (heap_alloc_new w2 (.cells #[.int .i64 0, .nilFunc, .nilFunc, .nilFunc] 111))
  have b3 : Below w2.heap.size w2 ((w2.alloc (.cells #[.int .i64 0, .nilFunc, .nilFunc, .nilFunc] 111)).setRow w2.heap.size (fk9 2)) := ((Below.refl w2.heap.size w2).alloc (Nat.le_refl _) _).grown (grown_setRow _ _ _) (by simp) (fun j e => by cases e; exact Nat.le_refl _)
  have HB3 : Hid (Below w.heap.size w ((w2.alloc (.cells #[.int .i64 0, .nilFunc, .nilFunc, .nilFunc] 111)).setRow w2.heap.size (fk9 2))) := b2.trans (b3.mono b2.size)
  have HT3 : Hid (Ta9 ((w2.alloc (.cells #[.int .i64 0, .nilFunc, .nilFunc, .nilFunc] 111)).setRow w2.heap.size (fk9 2)) tb (tal9 l)) := TA.keep (b3.block tb TA.lt)
  have HQ3 : Hid (((w2.alloc (.cells #[.int .i64 0, .nilFunc, .nilFunc, .nilFunc] 111)).setRow w2.heap.size (fk9 2)).heap[w2.heap.size]? = some (.cells (fk9 2) 111 (0, 0))) := q3
  have d1 : (((w2.alloc (.cells #[.int .i64 0, .nilFunc, .nilFunc, .nilFunc] 111)).setRow w2.heap.size (fk9 2)).cell? ⟨w2.heap.size, 1, none⟩ = some (.func (.func 80) #[] #[])) := (cell_of_row _ _ 1 _ _ _ q3).trans f1
  clear CP b2 b3 q3 TA f0 f1
  go_wp2_with (refine wpList_store_row rfl 111 (.tmp 8) (.tmp 16) rfl w2.heap.size (fk9 2) rfl rfl _ _ (heap_alloc_new w2 _) fi fs fo ?_)
  generalize (w2.alloc (.cells #[.int .i64 0, .nilFunc, .nilFunc, .nilFunc] 111)).setRow w2.heap.size (fk9 2) = w3 at *
  have CC : Calls Tryz.prog 80 _ _ _ := pcfn9 2 x tb (by omega) hx (tal9 l) w3 HT3.out HCT.out (HTS.out.1.old HB3.out) (HTS.out.2.old HB3.out)
  clear fi fs fo HQ3 d1
  refine CC.mono ?_
  rintro e w4 ⟨rfl, b4⟩
  have B4 : Below w.heap.size w w4 := HB3.out.trans (b4.mono HB3.out.size)
  clear CC b4
  go_wp2_with fail
  go_ret2
  exact ⟨rfl, B4⟩
theorem pcst9_ok (l : List Tok7) (a : Option Addr) (n cap : Nat) (hn : Hid (l.length = n)) (k x : Nat) (hk : k < 3) (hx : x < 8) (w : World) (hs : SegT w a l) (hm : mer9 l = 0) (hsz : (tal9 l).getD 0 0 ≤ mst9 k) (T : TabS w) (O : TabO w) :
    Calls Tryz.prog 25 #[.int .i64 (k : Int), .int .i64 (x : Int), .slice a n cap] w fun e w' => e = .returned (.tuple #[.int .i64 (cos9 k x (tal9 l)), .int .i64 0]) ∧ Below w.heap.size w w' := by
  obtain rfl | rfl | rfl : k = 0 ∨ k = 1 ∨ k = 2 := by omega
  · exact pcst9_ok0 l a n cap hn x hx w hs hm hsz T O
  · exact pcst9_ok1 l a n cap hn x hx w hs hm hsz T O
  · exact pcst9_ok2 l a n cap hn x hx w hs hm hsz T O
end Go.Proofs.YtcifalelnfeggaaGreatDoor

namespace Go.Proofs.YtcifalelnfeggaaGreatDoor
open Go.RowKit
set_option linter.unusedVariables false

/-! The landed Pick. -/
def pk9 (x : Nat) (X : List Int) : Nat → Int × Int
  | 0 => (0, 9223372036854775807)
  | i + 1 => if mst9 i < X.getD 0 0 then pk9 x X i else if cos9 i x X < (pk9 x X i).2 then ((i : Int), cos9 i x X) else pk9 x X i
theorem pk9_bd {x : Nat} {X : List Int} (hc : Ct9 X) : ∀ i, (0 ≤ (pk9 x X i).1 ∧ (pk9 x X i).1 ≤ (i : Int)) ∧ 0 ≤ (pk9 x X i).2 ∧ (pk9 x X i).2 ≤ 9223372036854775807
  | 0 => by unfold pk9; omega
  | i + 1 => by
    have h := pk9_bd (x := x) hc i
    have b := cos9_bd (k := i) (x := x) hc
    rw [pk9]
    split
    · omega
    · split
      · simp only; omega
      · omega
set_option maxRecDepth 100000 in
set_option maxHeartbeats 4000000 in
theorem ppck9_no (l : List Tok7) (a : Option Addr) (n cap : Nat) (hn : Hid (l.length = n)) (x : Int) (w : World) (hs : SegT w a l) (hx : (x < 0 ∨ 8 ≤ x) ∨ mer9 l ≠ 0) :
    Calls Tryz.prog 27 #[.int .i64 x, .slice a n cap] w fun e w' => e = .returned (.tuple #[.int .i64 0, .int .i64 (if x < 0 ∨ 8 ≤ x then 1 else mer9 l)]) ∧ Below w.heap.size w w' := by
  by_cases h1 : x < 0 ∨ 8 ≤ x
  · rw [if_pos h1]
    have CI := pinb9_no x h1 w
    go_enter Tryz.func27, Tryz.ntmps27
    go_wp2_with fail
    refine CI.mono ?_
    rintro e w1 ⟨rfl, hw1⟩
    rw [hw1]
    clear hw1 CI w1
    go_wp2_with fail
    go_ret2
    exact ⟨rfl, Below.refl _ _⟩
  · rw [if_neg h1]
    have h2 := hx.resolve_left h1
    have CI := pinb9 x (by omega) w
    have CT := ptal9_any l a n cap hn w hs
    obtain ⟨E, hE⟩ : ∃ E, E = mer9 l := ⟨_, rfl⟩
    rw [← hE] at CT h2 ⊢
    have hEb : (E == 0) = false := by rw [beq_eq_false_iff_ne]; exact h2
    clear hE hx h1 hs
    go_enter Tryz.func27, Tryz.ntmps27
    go_wp2_with fail
    refine CI.mono ?_
    rintro e w1 ⟨rfl, hw1⟩
    rw [hw1]
    clear hw1 CI w1
    go_wp2_with fail
    refine CT.mono ?_
    rintro e w1 (⟨h0, _⟩ | ⟨_, rfl, b1⟩)
    · exact absurd h0 h2
    · clear CT
      go_wp2_with fail
      go_ret2
      exact ⟨rfl, b1⟩
set_option maxRecDepth 100000 in
set_option maxHeartbeats 8000000 in
theorem ppck9_ok (l : List Tok7) (a : Option Addr) (n cap : Nat) (hn : Hid (l.length = n)) (x : Nat) (hx : x < 8) (w : World) (hs : SegT w a l) (hm : mer9 l = 0) (T : TabS w) (O : TabO w) :
    Calls Tryz.prog 27 #[.int .i64 (x : Int), .slice a n cap] w fun e w' => e = .returned (.tuple #[.int .i64 (pk9 x (tal9 l) 3).1, .int .i64 0]) ∧ Below w.heap.size w w' := by
  have CI := pinb9 (x : Int) (by omega) w
  have CT := ptal9_any l a n cap hn w hs
  have HCT : Hid (Ct9 (tal9 l)) := tal9_ct hm hs.fit
  have HTS : Hid (TabS w ∧ TabO w) := ⟨T, O⟩
  have HMM : Hid (mer9 l = 0) := hm
  obtain ⟨X, hX⟩ : ∃ X, X = tal9 l := ⟨_, rfl⟩
  rw [← hX] at CT HCT ⊢
  clear hs hm T O hX
  go_enter Tryz.func27, Tryz.ntmps27
  go_wp2_with fail
  refine CI.mono ?_
  rintro e w1 ⟨rfl, hw1⟩
  rw [hw1]
  clear hw1 CI w1
  go_wp2_with fail
  refine CT.mono ?_
  rintro e w1 (⟨_, tb, htb, rfl, TA, b1⟩ | ⟨hno, _, _⟩)
  · clear CT
    have HTA : Hid (Ta9 w1 tb X) := TA
    have HB1 : Hid (Below w.heap.size w w1) := b1
    have hX0 := HCT.out 0
    obtain ⟨z, hz⟩ : ∃ z, z = X.getD 0 0 := ⟨_, rfl⟩
    have HZ : Hid (X.getD 0 0 = z) := hz.symm
    rw [← hz] at hX0
    clear TA b1 hz HMM
    go_wp2_with fail
    refine (pforms9 w1).mono ?_
    rintro e w2 ⟨rfl, b2⟩
    have HT2 : Hid (Ta9 w2 tb X ∧ Below w.heap.size w w2) := ⟨HTA.out.keep (b2.block tb HTA.out.lt), HB1.out.trans (b2.mono HB1.out.size)⟩
    clear b2 HTA HB1
    go_wp2_with fail
    go_loopw [8, 9, 25] (fun tb1 tl ti wr => ∃ (i : Nat), i ≤ 3 ∧ ti = .int .i64 (i : Int) ∧ tb1 = .int .i64 (pk9 x X i).1 ∧ tl = .int .i64 (pk9 x X i).2 ∧ Ta9 wr tb X ∧ Below w.heap.size w wr) (fun _ _ ti _ => 3 - (intOf ti).toNat)
    case atStart => exact ⟨0, by omega, rfl, rfl, rfl, HT2.out.1, HT2.out.2⟩
    case round =>
      obtain ⟨i, hi3, rfl, rfl, rfl, TR, BR⟩ := hrel
      clear HT2
      have HTR : Hid (Ta9 wr tb X) := TR
      have HBR : Hid (Below w.heap.size w wr) := BR
      have hpb := pk9_bd (x := x) HCT.out i
      clear TR BR
      obtain rfl | rfl | rfl | rfl : i = 0 ∨ i = 1 ∨ i = 2 ∨ i = 3 := by omega
      · have hix : ∀ W, (Instr.index 115 (.agg frm9) (.int .i64 0)).run Tryz.prog W = .ok (.agg (fk9 0)) W := fun W => run_index9 W 115 111 3 4 _ _ 0 .i64 (by omega) Tryz.underlying115 Tryz.underlying111 (by kernel_rfl)
        obtain ⟨fi, fs, fo, f0⟩ := fk9_facts 0 (by omega)
        have f1 : (fk9 0)[1]? = some (.func (.func 74) #[] #[]) := fk9_cost 0 (by omega)
        have q3 := setRow_heap _ wr.heap.size _ (fk9 0) _ _ (heap_alloc_new wr (.cells #[.int .i64 0, .nilFunc, .nilFunc, .nilFunc] 111))
        have b3 : Below wr.heap.size wr ((wr.alloc (.cells #[.int .i64 0, .nilFunc, .nilFunc, .nilFunc] 111)).setRow wr.heap.size (fk9 0)) := ((Below.refl wr.heap.size wr).alloc (Nat.le_refl _) _).grown (grown_setRow _ _ _) (by simp) (fun j e => by cases e; exact Nat.le_refl _)
        have T3 := HTR.out.keep (b3.block tb HTR.out.lt)
        have B3 : Below w.heap.size w ((wr.alloc (.cells #[.int .i64 0, .nilFunc, .nilFunc, .nilFunc] 111)).setRow wr.heap.size (fk9 0)) := HBR.out.trans (b3.mono HBR.out.size)
        have HST : Hid (pk9 x X (0 + 1) = if mst9 0 < X.getD 0 0 then pk9 x X 0 else if cos9 0 x X < (pk9 x X 0).2 then ((0 : Int), cos9 0 x X) else pk9 x X 0) := rfl
        rw [HZ.out, show mst9 0 = 65535 from rfl] at HST
        have hcb := cos9_bd (k := 0) (x := x) HCT.out
        generalize pk9 x X 0 = P at *
        obtain ⟨P1, P2⟩ := P
        simp only at hpb HST
        go_wp2_with (refine wpList_store_row rfl 111 (.tmp 11) (.tmp 28) rfl wr.heap.size (fk9 0) rfl rfl _ _ (heap_alloc_new wr _) fi fs fo ?_)
        have c1 := (cell_of_row _ _ 0 _ _ _ q3).trans f0
        have d1 := (cell_of_row _ _ 1 _ _ _ q3).trans f1
        generalize (wr.alloc (.cells #[.int .i64 0, .nilFunc, .nilFunc, .nilFunc] 111)).setRow wr.heap.size (fk9 0) = w3 at *
        have c0 := T3.cell (i := 0) (by omega)
        rw [HZ.out] at c0
        have c1 : w3.cell? ⟨wr.heap.size, 0, none⟩ = some (.int .i64 65535) := c1
        have HT3 : Hid (Ta9 w3 tb X) := T3
        have HB3 : Hid (Below w.heap.size w w3) := B3
        clear q3 b3 T3 B3 fi fs fo f0 f1 hix HTR HBR
        by_cases hbig : 65535 < z
        · rw [if_pos hbig] at HST
          go_region_held3 (fun w' => w'.cell? ⟨tb, 0, none⟩ = some (.int .i64 z) ∧ w'.cell? ⟨wr.heap.size, 0, none⟩ = some (.int .i64 65535)) (exact ⟨c0, c1⟩) (fail)
          clear c0 c1 d1
          go_wp2_with fail
          go_roundw
          case rel => exact ⟨0 + 1, by omega, by go_num, by rw [HST.out], by rw [HST.out], HT3.out.keep rfl, HB3.out.drew⟩
          case measure => simp [intOf]
        · rw [if_neg hbig] at HST
          go_region_held3 (fun w' => w'.cell? ⟨tb, 0, none⟩ = some (.int .i64 z) ∧ w'.cell? ⟨wr.heap.size, 0, none⟩ = some (.int .i64 65535)) (exact ⟨c0, c1⟩) (fail)
          have d2 : w3.drew.cell? ⟨wr.heap.size, 1, none⟩ = some (.func (.func 74) #[] #[]) := d1
          have B4 : Below w.heap.size w w3.drew := HB3.out.drew
          have T4 : Ta9 w3.drew tb X := HT3.out.keep rfl
          generalize w3.drew = w4 at *
          have CC : Calls Tryz.prog 74 #[.int .i64 (x : Int), .pointer (some ⟨tb, 0, none⟩)] w4 fun e w' => e = .returned (.int .i64 (cos9 0 x X)) ∧ Below w4.heap.size w4 w' := pcfn9 0 x tb (by omega) hx X w4 T4 HCT.out (HTS.out.1.old B4) (HTS.out.2.old B4)
          obtain ⟨V, hV⟩ : ∃ V, V = cos9 0 x X := ⟨_, rfl⟩
          rw [← hV] at CC HST hcb
          clear c0 c1 d1 HT3 HB3 hV
          go_wp2_with fail
          refine CC.mono ?_
          rintro e w5 ⟨rfl, b5⟩
          have B5 : Below w.heap.size w w5 := B4.trans (b5.mono B4.size)
          have T5 := T4.keep (b5.block tb T4.lt)
          clear CC b5 B4 T4 d2
          by_cases hlt : V < P2
          · rw [if_pos hlt] at HST
            go_wp2_with fail
            go_roundw
            case rel => exact ⟨0 + 1, by omega, by go_num, by rw [HST.out], by rw [HST.out], T5, B5⟩
            case measure => simp [intOf]
          · rw [if_neg hlt] at HST
            go_wp2_with fail
            go_roundw
            case rel => exact ⟨0 + 1, by omega, by go_num, by rw [HST.out], by rw [HST.out], T5, B5⟩
            case measure => simp [intOf]
      · have hix : ∀ W, (Instr.index 115 (.agg frm9) (.int .i64 1)).run Tryz.prog W = .ok (.agg (fk9 1)) W := fun W => run_index9 W 115 111 3 4 _ _ 1 .i64 (by omega) Tryz.underlying115 Tryz.underlying111 (by kernel_rfl)
        obtain ⟨fi, fs, fo, f0⟩ := fk9_facts 1 (by omega)
        have f1 : (fk9 1)[1]? = some (.func (.func 77) #[] #[]) := fk9_cost 1 (by omega)
        have q3 := setRow_heap _ wr.heap.size _ (fk9 1) _ _ (heap_alloc_new wr (.cells #[.int .i64 0, .nilFunc, .nilFunc, .nilFunc] 111))
        have b3 : Below wr.heap.size wr ((wr.alloc (.cells #[.int .i64 0, .nilFunc, .nilFunc, .nilFunc] 111)).setRow wr.heap.size (fk9 1)) := ((Below.refl wr.heap.size wr).alloc (Nat.le_refl _) _).grown (grown_setRow _ _ _) (by simp) (fun j e => by cases e; exact Nat.le_refl _)
        have T3 := HTR.out.keep (b3.block tb HTR.out.lt)
        have B3 : Below w.heap.size w ((wr.alloc (.cells #[.int .i64 0, .nilFunc, .nilFunc, .nilFunc] 111)).setRow wr.heap.size (fk9 1)) := HBR.out.trans (b3.mono HBR.out.size)
        have HST : Hid (pk9 x X (1 + 1) = if mst9 1 < X.getD 0 0 then pk9 x X 1 else if cos9 1 x X < (pk9 x X 1).2 then ((1 : Int), cos9 1 x X) else pk9 x X 1) := rfl
        rw [HZ.out, show mst9 1 = 16908288 from rfl] at HST
        have hcb := cos9_bd (k := 1) (x := x) HCT.out
        generalize pk9 x X 1 = P at *
        obtain ⟨P1, P2⟩ := P
        simp only at hpb HST
        go_wp2_with (refine wpList_store_row rfl 111 (.tmp 11) (.tmp 28) rfl wr.heap.size (fk9 1) rfl rfl _ _ (heap_alloc_new wr _) fi fs fo ?_)
        have c1 := (cell_of_row _ _ 0 _ _ _ q3).trans f0
        have d1 := (cell_of_row _ _ 1 _ _ _ q3).trans f1
        generalize (wr.alloc (.cells #[.int .i64 0, .nilFunc, .nilFunc, .nilFunc] 111)).setRow wr.heap.size (fk9 1) = w3 at *
        have c0 := T3.cell (i := 0) (by omega)
        rw [HZ.out] at c0
        have c1 : w3.cell? ⟨wr.heap.size, 0, none⟩ = some (.int .i64 16908288) := c1
        have HT3 : Hid (Ta9 w3 tb X) := T3
        have HB3 : Hid (Below w.heap.size w w3) := B3
        clear q3 b3 T3 B3 fi fs fo f0 f1 hix HTR HBR
        by_cases hbig : 16908288 < z
        · rw [if_pos hbig] at HST
          go_region_held3 (fun w' => w'.cell? ⟨tb, 0, none⟩ = some (.int .i64 z) ∧ w'.cell? ⟨wr.heap.size, 0, none⟩ = some (.int .i64 16908288)) (exact ⟨c0, c1⟩) (fail)
          clear c0 c1 d1
          go_wp2_with fail
          go_roundw
          case rel => exact ⟨1 + 1, by omega, by go_num, by rw [HST.out], by rw [HST.out], HT3.out.keep rfl, HB3.out.drew⟩
          case measure => simp [intOf]
        · rw [if_neg hbig] at HST
          go_region_held3 (fun w' => w'.cell? ⟨tb, 0, none⟩ = some (.int .i64 z) ∧ w'.cell? ⟨wr.heap.size, 0, none⟩ = some (.int .i64 16908288)) (exact ⟨c0, c1⟩) (fail)
          have d2 : w3.drew.cell? ⟨wr.heap.size, 1, none⟩ = some (.func (.func 77) #[] #[]) := d1
          have B4 : Below w.heap.size w w3.drew := HB3.out.drew
          have T4 : Ta9 w3.drew tb X := HT3.out.keep rfl
          generalize w3.drew = w4 at *
          have CC : Calls Tryz.prog 77 #[.int .i64 (x : Int), .pointer (some ⟨tb, 0, none⟩)] w4 fun e w' => e = .returned (.int .i64 (cos9 1 x X)) ∧ Below w4.heap.size w4 w' := pcfn9 1 x tb (by omega) hx X w4 T4 HCT.out (HTS.out.1.old B4) (HTS.out.2.old B4)
          obtain ⟨V, hV⟩ : ∃ V, V = cos9 1 x X := ⟨_, rfl⟩
          rw [← hV] at CC HST hcb
          clear c0 c1 d1 HT3 HB3 hV
          go_wp2_with fail
          refine CC.mono ?_
          rintro e w5 ⟨rfl, b5⟩
          have B5 : Below w.heap.size w w5 := B4.trans (b5.mono B4.size)
          have T5 := T4.keep (b5.block tb T4.lt)
          clear CC b5 B4 T4 d2
          by_cases hlt : V < P2
          · rw [if_pos hlt] at HST
            go_wp2_with fail
            go_roundw
            case rel => exact ⟨1 + 1, by omega, by go_num, by rw [HST.out], by rw [HST.out], T5, B5⟩
            case measure => simp [intOf]
          · rw [if_neg hlt] at HST
            go_wp2_with fail
            go_roundw
            case rel => exact ⟨1 + 1, by omega, by go_num, by rw [HST.out], by rw [HST.out], T5, B5⟩
            case measure => simp [intOf]
      · have hix : ∀ W, (Instr.index 115 (.agg frm9) (.int .i64 2)).run Tryz.prog W = .ok (.agg (fk9 2)) W := fun W => run_index9 W 115 111 3 4 _ _ 2 .i64 (by omega) Tryz.underlying115 Tryz.underlying111 (by kernel_rfl)
        obtain ⟨fi, fs, fo, f0⟩ := fk9_facts 2 (by omega)
        have f1 : (fk9 2)[1]? = some (.func (.func 80) #[] #[]) := fk9_cost 2 (by omega)
        have q3 := setRow_heap _ wr.heap.size _ (fk9 2) _ _ (heap_alloc_new wr (.cells #[.int .i64 0, .nilFunc, .nilFunc, .nilFunc] 111))
        have b3 : Below wr.heap.size wr ((wr.alloc (.cells #[.int .i64 0, .nilFunc, .nilFunc, .nilFunc] 111)).setRow wr.heap.size (fk9 2)) := ((Below.refl wr.heap.size wr).alloc (Nat.le_refl _) _).grown (grown_setRow _ _ _) (by simp) (fun j e => by cases e; exact Nat.le_refl _)
        have T3 := HTR.out.keep (b3.block tb HTR.out.lt)
        have B3 : Below w.heap.size w ((wr.alloc (.cells #[.int .i64 0, .nilFunc, .nilFunc, .nilFunc] 111)).setRow wr.heap.size (fk9 2)) := HBR.out.trans (b3.mono HBR.out.size)
        have HST : Hid (pk9 x X (2 + 1) = if mst9 2 < X.getD 0 0 then pk9 x X 2 else if cos9 2 x X < (pk9 x X 2).2 then ((2 : Int), cos9 2 x X) else pk9 x X 2) := rfl
        rw [HZ.out, show mst9 2 = 16908288 from rfl] at HST
        have hcb := cos9_bd (k := 2) (x := x) HCT.out
        generalize pk9 x X 2 = P at *
        obtain ⟨P1, P2⟩ := P
        simp only at hpb HST
        go_wp2_with (refine wpList_store_row rfl 111 (.tmp 11) (.tmp 28) rfl wr.heap.size (fk9 2) rfl rfl _ _ (heap_alloc_new wr _) fi fs fo ?_)
        have c1 := (cell_of_row _ _ 0 _ _ _ q3).trans f0
        have d1 := (cell_of_row _ _ 1 _ _ _ q3).trans f1
        generalize (wr.alloc (.cells #[.int .i64 0, .nilFunc, .nilFunc, .nilFunc] 111)).setRow wr.heap.size (fk9 2) = w3 at *
        have c0 := T3.cell (i := 0) (by omega)
        rw [HZ.out] at c0
        have c1 : w3.cell? ⟨wr.heap.size, 0, none⟩ = some (.int .i64 16908288) := c1
        have HT3 : Hid (Ta9 w3 tb X) := T3
        have HB3 : Hid (Below w.heap.size w w3) := B3
        clear q3 b3 T3 B3 fi fs fo f0 f1 hix HTR HBR
        by_cases hbig : 16908288 < z
        · rw [if_pos hbig] at HST
          go_region_held3 (fun w' => w'.cell? ⟨tb, 0, none⟩ = some (.int .i64 z) ∧ w'.cell? ⟨wr.heap.size, 0, none⟩ = some (.int .i64 16908288)) (exact ⟨c0, c1⟩) (fail)
          clear c0 c1 d1
          go_wp2_with fail
          go_roundw
          case rel => exact ⟨2 + 1, by omega, by go_num, by rw [HST.out], by rw [HST.out], HT3.out.keep rfl, HB3.out.drew⟩
          case measure => simp [intOf]
        · rw [if_neg hbig] at HST
          go_region_held3 (fun w' => w'.cell? ⟨tb, 0, none⟩ = some (.int .i64 z) ∧ w'.cell? ⟨wr.heap.size, 0, none⟩ = some (.int .i64 16908288)) (exact ⟨c0, c1⟩) (fail)
          have d2 : w3.drew.cell? ⟨wr.heap.size, 1, none⟩ = some (.func (.func 80) #[] #[]) := d1
          have B4 : Below w.heap.size w w3.drew := HB3.out.drew
          have T4 : Ta9 w3.drew tb X := HT3.out.keep rfl
          generalize w3.drew = w4 at *
          have CC : Calls Tryz.prog 80 #[.int .i64 (x : Int), .pointer (some ⟨tb, 0, none⟩)] w4 fun e w' => e = .returned (.int .i64 (cos9 2 x X)) ∧ Below w4.heap.size w4 w' := pcfn9 2 x tb (by omega) hx X w4 T4 HCT.out (HTS.out.1.old B4) (HTS.out.2.old B4)
          obtain ⟨V, hV⟩ : ∃ V, V = cos9 2 x X := ⟨_, rfl⟩
          rw [← hV] at CC HST hcb
          clear c0 c1 d1 HT3 HB3 hV
          go_wp2_with fail
          refine CC.mono ?_
          rintro e w5 ⟨rfl, b5⟩
          have B5 : Below w.heap.size w w5 := B4.trans (b5.mono B4.size)
          have T5 := T4.keep (b5.block tb T4.lt)
          clear CC b5 B4 T4 d2
          by_cases hlt : V < P2
          · rw [if_pos hlt] at HST
            go_wp2_with fail
            go_roundw
            case rel => exact ⟨2 + 1, by omega, by go_num, by rw [HST.out], by rw [HST.out], T5, B5⟩
            case measure => simp [intOf]
          · rw [if_neg hlt] at HST
            go_wp2_with fail
            go_roundw
            case rel => exact ⟨2 + 1, by omega, by go_num, by rw [HST.out], by rw [HST.out], T5, B5⟩
            case measure => simp [intOf]
      · go_wp2_with fail
        go_ret2
        exact ⟨rfl, HBR.out⟩
  · have := HMM.out; omega
end Go.Proofs.YtcifalelnfeggaaGreatDoor

namespace Go.Proofs.YtcifalelnfeggaaGreatDoor
open Go.RowKit
set_option linter.unusedVariables false

theorem seg_lit {w : World} : SegZ (w.alloc (.cells #[.int .i64 2, .int .i64 1, .int .i64 3, .int .i64 3] 3)) (some ⟨w.heap.size, 0, none⟩) [2, 1, 3, 3] := by
  refine ⟨fun i hi => ⟨w.heap.size, 0, rfl, ?_⟩, getD_bdz (by intro z hz; simp at hz; omega)⟩
  simp only [List.length_cons, List.length_nil] at hi
  match i, hi with
  | 0, _ => simp
  | 1, _ => simp
  | 2, _ => simp
  | 3, _ => simp
theorem ex_ok : errC [2, 1, 3, 3] = 0 := by decide
theorem ex_put2 : errP [2, 1, 3, 3] 2 = 0 ∧ putB [2, 1, 3, 3] 2 = [true, true, false] := by decide
theorem ex_put1 : errP [2, 1, 3, 3] 1 = 0 ∧ putB [2, 1, 3, 3] 1 = [false] := by decide
theorem ex_beg2 : Beg [2, 1, 3, 3] (bN 3 8) 2 := by unfold Beg; decide
theorem ex_beg1 : Beg [2, 1, 3, 3] ((bN 3 8).drop 3) 1 := by unfold Beg; decide
theorem toB_three : toB [true, true, false, false] = [3] := by
  rw [toB_eq (by decide)]
  rw [show ([true, true, false, false] : List Bool).drop 8 = [] from by decide, toB_nil]
  decide
theorem ex_lok : LOk [2, 1, 3, 3] := by unfold LOk; decide

end Go.Proofs.YtcifalelnfeggaaGreatDoor

namespace Go.Proofs.YtcifalelnfeggaaGreatDoor
open Go.RowKit
set_option linter.unusedVariables false

/-- The bits of symbols, one behind the other. -/
def PB (zs ps : List Int) : List Bool := ps.flatMap (putB zs)
theorem PB_nil (zs : List Int) : PB zs [] = [] := rfl
theorem PB_append (zs ps qs : List Int) : PB zs (ps ++ qs) = PB zs ps ++ PB zs qs := by simp [PB]
theorem PB_snoc (zs ps : List Int) (s : Int) : PB zs (ps ++ [s]) = PB zs ps ++ putB zs s := by rw [PB_append]; simp [PB]
theorem PB_len {zs : List Int} (h : errC zs = 0) : ∀ ps : List Int, (PB zs ps).length ≤ 15 * ps.length
  | [] => by simp [PB]
  | s :: ps => by
    have h1 := PB_len h ps
    have h2 := putB_le h s
    have : PB zs (s :: ps) = putB zs s ++ PB zs ps := by simp [PB]
    rw [this, List.length_append, List.length_cons]
    omega
theorem putB_lenIn {zs : List Int} (h : errC zs = 0) {k : Nat} (hk : k < zs.length) : (putB zs k).length = ln zs k := by rw [putB_in h hk, rev_len]
theorem putB_vB {zs : List Int} (h : errC zs = 0) {k : Nat} (hk : k < zs.length) : vB (putB zs k) (ln zs k) = cd zs k := by
  rw [putB_in h hk]
  unfold vB
  rw [List.take_of_length_le (by rw [rev_len]; exact Nat.le_refl _), List.reverse_reverse, num_bN_lt (cd_small h hk).1]
theorem vB_same {H c : List Bool} {l : Nat} (h : H.take l = c.take l) : vB H l = vB c l := by unfold vB; rw [h]
/-- What is held, and what comes behind it, are the symbol's bits and those behind. -/
theorem held_split {zs P : List Int} {i fed : Nat} {H : List Bool} (hi : i < P.length) (hH : PB zs (P.take i) ++ H = bB ((toB (PB zs P)).take fed)) :
    ∃ Y, H ++ bB ((toB (PB zs P)).drop fed) = putB zs (P.getD i 0) ++ Y := by
  obtain ⟨k, _, hB⟩ := bB_toB (L := PB zs P)
  have h1 : bB (toB (PB zs P)) = PB zs (P.take i) ++ H ++ bB ((toB (PB zs P)).drop fed) := by
    rw [hH, ← bB_append, List.take_append_drop]
  have h2 : PB zs P = PB zs (P.take i) ++ (putB zs (P.getD i 0) ++ PB zs (P.drop (i + 1))) := by
    rw [← List.append_assoc, ← PB_snoc, ← take_snocZ hi, ← PB_append, List.take_append_drop]
  refine ⟨PB zs (P.drop (i + 1)) ++ List.replicate k false, ?_⟩
  rw [hB] at h1
  have h3 : PB zs (P.take i) ++ (H ++ bB ((toB (PB zs P)).drop fed)) = PB zs (P.take i) ++ (putB zs (P.getD i 0) ++ (PB zs (P.drop (i + 1)) ++ List.replicate k false)) := by
    rw [← List.append_assoc, ← h1]
    generalize bB ((toB (PB zs P)).drop fed) = Z at *
    rw [h2]
    simp only [List.append_assoc]
  exact List.append_cancel_left h3
theorem held_beg {zs P : List Int} {i fed k : Nat} {H : List Bool} (hok : errC zs = 0) (hi : i < P.length) (hs : P.getD i 0 = (k : Int)) (hk : k < zs.length) (hk0 : zs.getD k 0 ≠ 0) (hH : PB zs (P.take i) ++ H = bB ((toB (PB zs P)).take fed)) (hl : ln zs k ≤ H.length) :
    Beg zs H k ∧ PB zs (P.take (i + 1)) ++ H.drop (ln zs k) = bB ((toB (PB zs P)).take fed) ∧ (PB zs (P.take (i + 1))).length = (PB zs (P.take i)).length + ln zs k := by
  obtain ⟨Y, hY⟩ := held_split hi hH
  rw [hs] at hY
  have hpl := putB_lenIn hok hk
  have h1 := congrArg (List.take (ln zs k)) hY
  rw [List.take_append_of_le_length hl, List.take_left' hpl] at h1
  have h2 : PB zs (P.take (i + 1)) = PB zs (P.take i) ++ putB zs k := by rw [take_snocZ hi, PB_snoc, hs]
  refine ⟨⟨hk, hk0, hl, ?_⟩, ?_, ?_⟩
  · rw [vB_same (c := putB zs k) (by rw [h1, List.take_of_length_le (by rw [hpl]; exact Nat.le_refl _)]), putB_vB hok hk]
  · rw [h2, ← h1, List.append_assoc, List.take_append_drop, hH]
  · rw [h2, List.length_append, hpl]
theorem held_may {zs P : List Int} {i fed k : Nat} {H : List Bool} (hok : errC zs = 0) (hi : i < P.length) (hs : P.getD i 0 = (k : Int)) (hk : k < zs.length) (hk0 : zs.getD k 0 ≠ 0) (hH : PB zs (P.take i) ++ H = bB ((toB (PB zs P)).take fed)) (hl : H.length < ln zs k) :
    (∀ s, ¬ Beg zs H s) ∧ May zs H ∧ fed < (toB (PB zs P)).length := by
  obtain ⟨Y, hY⟩ := held_split hi hH
  rw [hs] at hY
  have hpl := putB_lenIn hok hk
  have hlok := (errS_zero (errC_zero hok).1).2
  have h1 := congrArg (List.take H.length) hY
  rw [List.take_left' rfl, List.take_append_of_le_length (by omega)] at h1
  have hv : ∀ l, l ≤ H.length → vB H l = cd zs k / 2 ^ (ln zs k - l) := by
    intro l hle
    have e1 : H.take l = (putB zs k).take l := by
      have := congrArg (List.take l) h1
      rw [List.take_take, Nat.min_eq_left hle] at this
      exact this
    rw [vB_same e1, ← vB_div (putB zs k) (a := l) (b := ln zs k) (by omega) (by omega), putB_vB hok hk]
  refine ⟨fun s hb => ?_, ⟨k, hk, hk0, hl, (hv _ (Nat.le_refl _)).symm⟩, ?_⟩
  · obtain ⟨b1, b2, b3, b4⟩ := hb
    rw [hv _ b3] at b4
    have := cd_apart hlok b1 hk b2 (by omega) b4
    subst this
    omega
  · rcases Nat.lt_or_ge fed (toB (PB zs P)).length with h | h
    · exact h
    · exfalso
      rw [List.drop_eq_nil_of_le h] at hY
      have := congrArg List.length hY
      simp only [bB, List.append_nil, List.length_append, hpl] at this
      omega
end Go.Proofs.YtcifalelnfeggaaGreatDoor

namespace Go.Proofs.YtcifalelnfeggaaGreatDoor
open Go.RowKit
set_option linter.unusedVariables false

/-! The document's OwnLens. -/
def RoQ (w : World) (A D : List Int) (er : Int) (e : Ending) (w' : World) : Prop := ∃ la lc da dc, e = .returned (.tuple #[.slice la A.length lc, .slice da D.length dc, .int .i64 er]) ∧ SegZ w' la A ∧ SegZ w' da D ∧ (∀ x, la = some x → w.heap.size ≤ x.block ∧ A.length ≤ lc) ∧ (∀ x, da = some x → w.heap.size ≤ x.block ∧ D.length ≤ dc) ∧ Below w.heap.size w w'
/-- Two rows of the call's own beside each other. -/
structure Tw9 (w wr : World) (ga gb : Nat) (A D : List Int) : Prop where
  oa : wr.ownsRow w.heap.size 3 1 (.slice (some ⟨ga, 0, none⟩) 286 286) 286 (A.map (Value.int .i64))
  od : wr.ownsRow w.heap.size 3 1 (.slice (some ⟨gb, 0, none⟩) 30 30) 30 (D.map (Value.int .i64))
  ne : ga ≠ gb
  la : A.length = 286
  ld : D.length = 30
  bl : Below w.heap.size w wr
theorem Tw9.below {w wr w' : World} {ga gb : Nat} {A D : List Int} (h : Tw9 w wr ga gb A D) (b : Below wr.heap.size wr w') : Tw9 w w' ga gb A D := ⟨own_below h.oa b, own_below h.od b, h.ne, h.la, h.ld, h.bl.trans (b.mono h.bl.size)⟩
theorem Tw9.drew {w wr : World} {ga gb : Nat} {A D : List Int} (h : Tw9 w wr ga gb A D) : Tw9 w wr.drew ga gb A D := h.below ⟨rfl, rfl, rfl, Nat.le_refl _, fun _ _ => rfl⟩
theorem own_oth9 {w : World} {base n g x i : Nat} {A : List Int} {v : Value} (O : w.ownsRow base 3 1 (.slice (some ⟨g, 0, none⟩) n n) n (A.map (Value.int .i64))) (hne : g ≠ x) : (w.setCell ⟨x, i, none⟩ v).ownsRow base 3 1 (.slice (some ⟨g, 0, none⟩) n n) n (A.map (Value.int .i64)) :=
  own_kp O (Kp.set (S := fun k => k = x) rfl v) (fun k hk e => by simp [Value.ownBlock] at hk; omega)
theorem Tw9.setA {w wr : World} {ga gb : Nat} {A D : List Int} (h : Tw9 w wr ga gb A D) (i : Nat) (v : Int) : Tw9 w (wr.setCell ⟨ga, i, none⟩ (.int .i64 v)) ga gb (A.set i v) D := by
  obtain ⟨OS, GS⟩ := h.oa.stored i (.int .i64 v)
  rw [← List.map_set] at OS
  refine ⟨by simpa using OS, own_oth9 h.od (fun e => h.ne e.symm), h.ne, by rw [List.length_set]; exact h.la, h.ld, ?_⟩
  have := (h.oa.lt ga (by simp [Value.ownBlock])).1
  exact h.bl.trans ((Kp.set (S := fun k => k = ga) rfl _).below (fun k e => by omega) h.bl.size)
theorem Tw9.setD {w wr : World} {ga gb : Nat} {A D : List Int} (h : Tw9 w wr ga gb A D) (i : Nat) (v : Int) : Tw9 w (wr.setCell ⟨gb, i, none⟩ (.int .i64 v)) ga gb A (D.set i v) := by
  obtain ⟨OS, GS⟩ := h.od.stored i (.int .i64 v)
  rw [← List.map_set] at OS
  refine ⟨own_oth9 h.oa h.ne, by simpa using OS, h.ne, h.la, by rw [List.length_set]; exact h.ld, ?_⟩
  have := (h.od.lt gb (by simp [Value.ownBlock])).1
  exact h.bl.trans ((Kp.set (S := fun k => k = gb) rfl _).below (fun k e => by omega) h.bl.size)
theorem Tw9.cellA {w wr : World} {ga gb : Nat} {A D : List Int} (h : Tw9 w wr ga gb A D) {i : Nat} (hi : i < 286) : wr.cell? ⟨ga, i, none⟩ = some (.int .i64 (A.getD i 0)) ∧ ∀ k, wr.frozen? ⟨ga, k, none⟩ = false := own_cell1 h.oa (by rw [h.la]; exact hi)
theorem Tw9.cellD {w wr : World} {ga gb : Nat} {A D : List Int} (h : Tw9 w wr ga gb A D) {i : Nat} (hi : i < 30) : wr.cell? ⟨gb, i, none⟩ = some (.int .i64 (D.getD i 0)) ∧ ∀ k, wr.frozen? ⟨gb, k, none⟩ = false := own_cell1 h.od (by rw [h.ld]; exact hi)
theorem z0_9 : List.replicate 286 (0 : Int) = cl9 (tals9 []) ∧ List.replicate 30 (0 : Int) = cd9 (tals9 []) := by
  constructor
  · refine ext9 (by rw [cl9_len]; exact List.length_replicate ..) fun i hi => ?_
    rw [List.length_replicate] at hi
    rw [cl9_get _ hi]
    exact (repl_get 286 i).trans (repl_get 318 (2 + i)).symm
  · refine ext9 (by rw [cd9_len]; exact List.length_replicate ..) fun i hi => ?_
    rw [List.length_replicate] at hi
    rw [cd9_get _ hi]
    exact (repl_get 30 i).trans (repl_get 318 (288 + i)).symm
set_option maxRecDepth 100000 in
set_option maxHeartbeats 8000000 in
theorem rown9 (l : List Tok7) (a : Option Addr) (n cap : Nat) (hn : Hid (l.length = n)) (w : World) (hs : SegT w a l) (hl : n ≤ 5864062014634) :
    Calls Tryz.prog 20 #[.slice a n cap] w (RoQ w (owa9 l) (owd9 l) (mer9 l)) := by
  have CM := rmay9 l a n cap hn w hs hl
  have HS : Hid (SegT w a l) := hs
  clear hs
  by_cases hm : mer9 l = 0
  · have HQ : Hid (owa9 l = oL9 (tal9 l) ∧ owd9 l = oD9 (tal9 l) ∧ mer9 l = 0) := ⟨if_pos hm, if_pos hm, hm⟩
    have HMY : Hid (∀ t ∈ l, may7 t) := (mer9_zero hm).2
    have hn6 : n ≤ 65536 := by have := (mer9_zero hm).1; rw [hn.out] at this; exact this
    rw [hm] at CM
    clear hm
    have M1 : ∀ W, (Instr.makeSlice 39 (.int .i64 286) (.int .i64 286)).run Tryz.prog W = .ok (.slice (some ⟨W.heap.size, 0, none⟩) 286 286) (W.alloc (.cells (Array.replicate 286 (.int .i64 0)) 3)) := fun W => run_make_ints 286 (by omega) W
    have M2 : ∀ W, (Instr.makeSlice 39 (.int .i64 30) (.int .i64 30)).run Tryz.prog W = .ok (.slice (some ⟨W.heap.size, 0, none⟩) 30 30) (W.alloc (.cells (Array.replicate 30 (.int .i64 0)) 3)) := fun W => run_make_ints 30 (by omega) W
    go_enter Tryz.func20, Tryz.ntmps20
    go_wp2_with fail
    refine CM.mono ?_
    rintro e w1 ⟨rfl, b1⟩
    clear CM
    go_wp2_with fail
    have BA : ∀ (W : World) (o : Obj), Below W.heap.size W (W.alloc o) := fun W o => below_box8 W o
    go_region
    · have T0 : Tw9 w ((w1.alloc (.cells (Array.replicate 286 (.int .i64 0)) 3)).alloc (.cells (Array.replicate 30 (.int .i64 0)) 3)).drew w1.heap.size (w1.heap.size + 1) (List.replicate 286 0) (List.replicate 30 0) := by
        refine Tw9.drew ⟨own_below (own_baseN (own_zeros w1 286 (by omega)) b1.size) (BA _ _), ?_, by omega, List.length_replicate .., List.length_replicate .., (b1.trans ((BA _ _).mono b1.size)).trans ((BA _ _).mono (by have := b1.size; simp; omega))⟩
        have := own_baseN (base' := w.heap.size) (own_zeros (w1.alloc (.cells (Array.replicate 286 (.int .i64 0)) 3)) 30 (by omega)) (by have := b1.size; simp; omega)
        rw [show (w1.alloc (.cells (Array.replicate 286 (.int .i64 0)) 3)).heap.size = w1.heap.size + 1 by simp] at this
        exact this
      generalize ((w1.alloc (.cells (Array.replicate 286 (.int .i64 0)) 3)).alloc (.cells (Array.replicate 30 (.int .i64 0)) 3)).drew = w2 at *
      generalize w1.heap.size + 1 = gb at *
      generalize w1.heap.size = ga at *
      rw [z0_9.1, z0_9.2] at T0
      have HT0 : Hid (Tw9 w (w2.setCell ⟨ga, 256, none⟩ (.int .i64 1)) ga gb ((cl9 (tals9 [])).set 256 1) (cd9 (tals9 []))) := T0.setA 256 1
      obtain ⟨c0, fz⟩ := T0.cellA (i := 256) (by omega)
      have f0 := fz 256
      generalize (cl9 (tals9 [])).getD 256 0 = y0 at *
      clear fz T0 b1 M1 M2 BA
      go_wp2_with fail
      go_loopw [33] (fun ti wr => ∃ i : Nat, i ≤ n ∧ ti = .int .i64 (i : Int) ∧ Tw9 w wr ga gb ((cl9 (tals9 (l.take i))).set 256 1) (cd9 (tals9 (l.take i))) ∧ Hid (∀ j, (0 ≤ ((cl9 (tals9 (l.take i))).set 256 1).getD j 0 ∧ ((cl9 (tals9 (l.take i))).set 256 1).getD j 0 ≤ (i : Int) + 1) ∧ 0 ≤ (cd9 (tals9 (l.take i))).getD j 0 ∧ (cd9 (tals9 (l.take i))).getD j 0 ≤ (i : Int) + 1)) (fun ti _ => n - (intOf ti).toNat)
      case atStart =>
        refine ⟨0, by omega, rfl, by rw [List.take_zero]; exact HT0.out, ?_⟩
        rw [List.take_zero]
        intro j
        rw [gset9 _ _ _ _ (by rw [cl9_len]; omega), ← z0_9.1, ← z0_9.2, repl_get, repl_get]
        split <;> omega
      case round =>
        obtain ⟨i, hin, rfl, TT, HBD⟩ := hrel
        clear HT0 c0 f0
        by_cases hlt : i < n
        · have hlti : (i : Int) < (n : Int) := by omega
          have hil : i < l.length := by rw [hn.out]; exact hlt
          obtain ⟨g, o, rfl, tk⟩ := (HS.out.old TT.bl).at_ i hil
          have hfit := HS.out.fit (l.getD i tk0) (by simp only [List.getD, List.getElem?_eq_getElem hil, Option.getD_some]; exact List.getElem_mem hil)
          have hmay := HMY.out (l.getD i tk0) (by simp only [List.getD, List.getElem?_eq_getElem hil, Option.getD_some]; exact List.getElem_mem hil)
          have HTK : Hid (tals9 (l.take (i + 1)) = tst9 (tals9 (l.take i)) (l.getD i tk0)) := by show _ = _; rw [takeT7 hil, tals9_snoc]
          generalize l.getD i tk0 = t at *
          have s1 := cl9_step (tals9_len (l.take i)) hfit hmay
          have s2 := cd9_lit (tals9_len (l.take i)) hfit hmay
          have s3 := cd9_step (tals9_len (l.take i)) hfit hmay
          rw [← HTK.out] at s1 s2 s3
          have hsy := (sym9_lt hfit hmay).1
          have hfm := (fit_may9 hfit hmay)
          have hsyd : sym9 t = if t.len = 0 then t.lit.toNat else 257 + lix9 t.len := rfl
          have HS1 : Hid (∀ A D, (cl9 (tals9 (l.take (i + 1)))).set 256 1 = A → cd9 (tals9 (l.take (i + 1))) = D → ∀ W, Tw9 w W ga gb A D → (∀ j, (0 ≤ A.getD j 0 ∧ A.getD j 0 ≤ (i : Int) + 1 + 1) ∧ 0 ≤ D.getD j 0 ∧ D.getD j 0 ≤ (i : Int) + 1 + 1) → Tw9 w W ga gb ((cl9 (tals9 (l.take (i + 1)))).set 256 1) (cd9 (tals9 (l.take (i + 1)))) ∧ Hid (∀ j, (0 ≤ ((cl9 (tals9 (l.take (i + 1)))).set 256 1).getD j 0 ∧ ((cl9 (tals9 (l.take (i + 1)))).set 256 1).getD j 0 ≤ ((i + 1 : Nat) : Int) + 1) ∧ 0 ≤ (cd9 (tals9 (l.take (i + 1)))).getD j 0 ∧ (cd9 (tals9 (l.take (i + 1)))).getD j 0 ≤ ((i + 1 : Nat) : Int) + 1)) := by
            intro A D e1 e2 W hT hb
            subst e1 e2
            exact ⟨hT, fun j => by have := hb j; omega⟩
          obtain ⟨A, hA⟩ : ∃ A, A = (cl9 (tals9 (l.take i))).set 256 1 := ⟨_, rfl⟩
          obtain ⟨D, hD⟩ : ∃ D, D = cd9 (tals9 (l.take i)) := ⟨_, rfl⟩
          rw [← hA] at s1 TT HBD
          rw [← hD] at s2 s3 TT HBD
          clear hA hD HTK
          obtain ⟨lit, len, dist⟩ := t
          obtain ⟨x0, x1, x2⟩ := tk
          simp only at x0 x1 x2 hfm hsyd
          have b1 := below_box8 wr (.cells #[.int .u8 lit, .int .i64 len, .int .i64 dist] 98)
          have T1 := TT.below b1
          have hga := (TT.oa.lt ga (by simp [Value.ownBlock])).2
          have hgb := (TT.od.lt gb (by simp [Value.ownBlock])).2
          by_cases hz : len = 0
          · rw [if_pos hz] at hsyd
            obtain ⟨L, rfl⟩ : ∃ L : Nat, lit = (L : Int) := ⟨lit.toNat, by omega⟩
            rw [Int.toNat_natCast] at hsyd
            rw [hsyd] at s1 hsy
            obtain ⟨c0, fz⟩ := T1.cellA (i := L) hsy
            have f0 := fz L
            have bb := (HBD.out L).1
            have HT2 : Hid (Tw9 w ((wr.setCell ⟨ga, L, none⟩ (.int .i64 (A.getD L 0 + 1))).alloc (.cells #[.int .u8 (L : Int), .int .i64 0, .int .i64 dist] 98)) ga gb (inc9 A L 1) D) := (TT.setA L (A.getD L 0 + 1)).below (below_box8 _ _)
            have HB2 : Hid (∀ j, (0 ≤ (inc9 A L 1).getD j 0 ∧ (inc9 A L 1).getD j 0 ≤ (i : Int) + 1 + 1) ∧ 0 ≤ D.getD j 0 ∧ D.getD j 0 ≤ (i : Int) + 1 + 1) := fun j => by
              rw [inc9_get _ _ _ _ (by rw [TT.la]; exact hsy)]
              have := HBD.out j
              split <;> omega
            have HS2 := HS1.out _ _ s1 (s2 hz)
            have HS3 : Hid (∀ W, Tw9 w W ga gb (inc9 A L 1) D → Tw9 w W ga gb ((cl9 (tals9 (l.take (i + 1)))).set 256 1) (cd9 (tals9 (l.take (i + 1)))) ∧ Hid (∀ j, (0 ≤ ((cl9 (tals9 (l.take (i + 1)))).set 256 1).getD j 0 ∧ ((cl9 (tals9 (l.take (i + 1)))).set 256 1).getD j 0 ≤ ((i + 1 : Nat) : Int) + 1) ∧ 0 ≤ (cd9 (tals9 (l.take (i + 1)))).getD j 0 ∧ (cd9 (tals9 (l.take (i + 1)))).getD j 0 ≤ ((i + 1 : Nat) : Int) + 1)) := fun W hT => HS2 W hT HB2.out
            subst hz
            generalize A.getD L 0 = y at *
            have i1 : IntKind.i64.wrap (y + 1) = y + 1 := IntWalk.i64_in _ (by omega)
            have hLi : (L : Int) < 286 := by omega
            clear s1 s2 s3 HS1 HS2 HBD HB2 T1 b1 TT hsyd hfm hfit hmay fz
            go_wp2_with fail
            go_roundw
            case rel => exact ⟨i + 1, by omega, by go_num, (HS3.out _ HT2.out).1, (HS3.out _ HT2.out).2⟩
            case measure => simp [intOf]; omega
          · rw [if_neg hz] at hsyd
            have hfm2 := hfm.2.2.resolve_left (fun q => hz q.1)
            obtain ⟨k2, k3, k4, k5, k6, klit⟩ := hfm2
            clear klit k2
            have CL := rlsy9_is len k3 k4 (wr.alloc (.cells #[.int .u8 lit, .int .i64 len, .int .i64 dist] 98))
            have hdx := (dspec9 k5).2.1
            have CD := rdsy9_is dist k5 k6
            rw [hsyd] at s1 hsy
            have s3 := s3 hz
            obtain ⟨p, hp⟩ : ∃ p, p = 257 + lix9 len := ⟨_, rfl⟩
            obtain ⟨q, hq⟩ : ∃ q, q = dix9 dist := ⟨_, rfl⟩
            have hpi : 257 + (lix9 len : Int) = (p : Int) := by omega
            rw [← hp] at s1 hsy
            simp only at s3
            rw [← hq] at s3 hdx
            rw [hpi] at CL
            rw [← hq] at CD
            generalize lnS9.getD (lix9 len * 2 + 1) 0 = z1 at *
            generalize lnS9.getD (lix9 len * 2) 0 = z2 at *
            generalize dsS9.getD (q * 2 + 1) 0 = z3 at *
            generalize dsS9.getD (q * 2) 0 = z4 at *
            have HB2 : Hid (∀ j, (0 ≤ (inc9 A p 1).getD j 0 ∧ (inc9 A p 1).getD j 0 ≤ (i : Int) + 1 + 1) ∧ 0 ≤ (inc9 D q 1).getD j 0 ∧ (inc9 D q 1).getD j 0 ≤ (i : Int) + 1 + 1) := fun j => by
              rw [inc9_get _ _ _ _ (by rw [TT.la]; exact hsy), inc9_get _ _ _ _ (by rw [TT.ld]; exact hdx)]
              have := HBD.out j
              constructor <;> split <;> omega
            have HS2 := HS1.out _ _ s1 s3
            have HS3 : Hid (∀ W, Tw9 w W ga gb (inc9 A p 1) (inc9 D q 1) → Tw9 w W ga gb ((cl9 (tals9 (l.take (i + 1)))).set 256 1) (cd9 (tals9 (l.take (i + 1)))) ∧ Hid (∀ j, (0 ≤ ((cl9 (tals9 (l.take (i + 1)))).set 256 1).getD j 0 ∧ ((cl9 (tals9 (l.take (i + 1)))).set 256 1).getD j 0 ≤ ((i + 1 : Nat) : Int) + 1) ∧ 0 ≤ (cd9 (tals9 (l.take (i + 1)))).getD j 0 ∧ (cd9 (tals9 (l.take (i + 1)))).getD j 0 ≤ ((i + 1 : Nat) : Int) + 1)) := fun W hT => HS2 W hT HB2.out
            have bbA := (HBD.out p).1
            have bbD := (HBD.out q).2
            have HT1 : Hid (Tw9 w (wr.alloc (.cells #[.int .u8 lit, .int .i64 len, .int .i64 dist] 98)) ga gb A D) := T1
            have g0 := heap_alloc_new wr (.cells #[.int .u8 lit, .int .i64 len, .int .i64 dist] 98)
            have HCD : Hid (∀ w, Calls Tryz.prog 12 #[.int .i64 dist] w fun e w' => e = .returned (.tuple #[.int .i64 (q : Int), .int .i64 z3, .int .i64 (dist - z4), .int .i64 0]) ∧ Below w.heap.size w w') := CD
            clear s1 s2 s3 HS1 HS2 HBD HB2 T1 b1 TT hsyd hfm hfit hmay CD hp hq hpi
            go_wp2_with fail
            generalize wr.alloc (.cells #[.int .u8 lit, .int .i64 len, .int .i64 dist] 98) = wa at *
            refine CL.mono ?_
            rintro e w3 ⟨rfl, b3⟩
            have T3 := HT1.out.below b3
            have hwl : wr.heap.size < wa.heap.size := (Array.getElem?_eq_some_iff.1 g0).1
            have g3 := (b3.block wr.heap.size hwl).trans g0
            have c2 : w3.cell? ⟨wr.heap.size, 2, none⟩ = some (.int .i64 dist) := (cell_of_row w3 _ 2 _ _ _ g3).trans rfl
            clear CL HT1 g0 b3 g3
            go_wp2_with fail
            refine (HCD.out w3).mono ?_
            rintro e w4 ⟨rfl, b4⟩
            have T4 := T3.below b4
            clear T3 b4 HCD c2
            obtain ⟨c0, fz⟩ := T4.cellA (i := p) hsy
            have f0 := fz p
            obtain ⟨d0, gz⟩ := T4.cellD (i := q) hdx
            have k0 := gz q
            have HT5 : Hid (Tw9 w ((w4.setCell ⟨ga, p, none⟩ (.int .i64 (A.getD p 0 + 1))).setCell ⟨gb, q, none⟩ (.int .i64 (D.getD q 0 + 1))) ga gb (inc9 A p 1) (inc9 D q 1)) := (T4.setA p (A.getD p 0 + 1)).setD q (D.getD q 0 + 1)
            have hne := T4.ne
            have hpl : (p : Int) < 286 := by omega
            have hql : (q : Int) < 30 := by omega
            clear T4 fz gz hga hgb
            generalize A.getD p 0 = y at *
            generalize D.getD q 0 = v at *
            have i1 : IntKind.i64.wrap (y + 1) = y + 1 := IntWalk.i64_in _ (by omega)
            have i2 : IntKind.i64.wrap (v + 1) = v + 1 := IntWalk.i64_in _ (by omega)
            go_wp2_with fail
            go_roundw
            case rel => exact ⟨i + 1, by omega, by go_num, (HS3.out _ HT5.out).1, (HS3.out _ HT5.out).2⟩
            case measure => simp [intOf]; omega
        · have hge : ¬ (i : Int) < (n : Int) := by omega
          have hTA : l.take i = l := List.take_of_length_le (by rw [hn.out]; omega)
          rw [hTA, ← cl9_tal, ← cd9_tal] at TT
          have bdA : ∀ z ∈ cl9 (tal9 l), -9223372036854775808 ≤ z ∧ z ≤ 9223372036854775807 := fun z hz => by
            obtain ⟨j, hj, rfl⟩ := List.mem_iff_getElem.1 hz
            have := (HBD.out j).1
            rw [hTA, ← cl9_tal] at this
            simp only [List.getD, List.getElem?_eq_getElem hj, Option.getD_some] at this
            omega
          have bdD : ∀ z ∈ cd9 (tal9 l), -9223372036854775808 ≤ z ∧ z ≤ 9223372036854775807 := fun z hz => by
            obtain ⟨j, hj, rfl⟩ := List.mem_iff_getElem.1 hz
            have := (HBD.out j).2
            rw [hTA, ← cd9_tal] at this
            simp only [List.getD, List.getElem?_eq_getElem hj, Option.getD_some] at this
            omega
          have sA := own_segZ TT.oa bdA
          have sD := own_segZ TT.od bdD
          have CL := rlengths_far 15 _ (cl9 (tal9 l)) 286 286 (cl9_len _) wr sA (by omega)
          have HCD : Hid (∀ W, Below wr.heap.size wr W → Calls Tryz.prog 49 #[.int .i64 15, .slice (some ⟨gb, 0, none⟩) 30 30] W (LenF W 15 (cd9 (tal9 l)))) := fun W hW => rlengths_far 15 _ (cd9 (tal9 l)) 30 30 (cd9_len _) W (sD.old hW) (by omega)
          have BR := TT.bl
          clear HBD hTA bdA bdD sA sD TT
          go_wp2_with fail
          refine CL.mono ?_
          rintro e w3 ⟨xa, xc, rfl, s3, fr3, b3⟩
          have CD := HCD.out w3 b3
          clear CL HCD
          go_wp2_with fail
          refine CD.mono ?_
          rintro e w4 ⟨ya, yc, rfl, s4, fr4, b4⟩
          have s3' := s3.old b4
          have B3 : Below w.heap.size w w3 := BR.trans (b3.mono BR.size)
          have B4 : Below w.heap.size w w4 := B3.trans (b4.mono B3.size)
          have hr := BR.size
          have h3 := B3.size
          clear CD s3 b3 b4 BR
          go_wp2_with fail
          go_ret3
          show RoQ w (owa9 l) (owd9 l) (mer9 l) _ _
          rw [HQ.out.1, HQ.out.2.1, HQ.out.2.2]
          exact ⟨xa, xc, ya, yc, rfl, s3', s4, fun x e => ⟨Nat.le_trans hr (fr3 x e).1, (fr3 x e).2⟩, fun x e => ⟨Nat.le_trans h3 (fr4 x e).1, (fr4 x e).2⟩, B4⟩
    · have T0 : Tw9 w ((w1.alloc (.cells (Array.replicate 30 (.int .i64 0)) 3)).alloc (.cells (Array.replicate 286 (.int .i64 0)) 3)).drew (w1.heap.size + 1) w1.heap.size (List.replicate 286 0) (List.replicate 30 0) := by
        refine Tw9.drew ⟨?_, own_below (own_baseN (own_zeros w1 30 (by omega)) b1.size) (BA _ _), by omega, List.length_replicate .., List.length_replicate .., (b1.trans ((BA _ _).mono b1.size)).trans ((BA _ _).mono (by have := b1.size; simp; omega))⟩
        have := own_baseN (base' := w.heap.size) (own_zeros (w1.alloc (.cells (Array.replicate 30 (.int .i64 0)) 3)) 286 (by omega)) (by have := b1.size; simp; omega)
        rw [show (w1.alloc (.cells (Array.replicate 30 (.int .i64 0)) 3)).heap.size = w1.heap.size + 1 by simp] at this
        exact this
      generalize ((w1.alloc (.cells (Array.replicate 30 (.int .i64 0)) 3)).alloc (.cells (Array.replicate 286 (.int .i64 0)) 3)).drew = w2 at *
      generalize w1.heap.size + 1 = ga at *
      generalize w1.heap.size = gb at *
      rw [z0_9.1, z0_9.2] at T0
      have HT0 : Hid (Tw9 w (w2.setCell ⟨ga, 256, none⟩ (.int .i64 1)) ga gb ((cl9 (tals9 [])).set 256 1) (cd9 (tals9 []))) := T0.setA 256 1
      obtain ⟨c0, fz⟩ := T0.cellA (i := 256) (by omega)
      have f0 := fz 256
      generalize (cl9 (tals9 [])).getD 256 0 = y0 at *
      clear fz T0 b1 M1 M2 BA
      go_wp2_with fail
      go_loopw [33] (fun ti wr => ∃ i : Nat, i ≤ n ∧ ti = .int .i64 (i : Int) ∧ Tw9 w wr ga gb ((cl9 (tals9 (l.take i))).set 256 1) (cd9 (tals9 (l.take i))) ∧ Hid (∀ j, (0 ≤ ((cl9 (tals9 (l.take i))).set 256 1).getD j 0 ∧ ((cl9 (tals9 (l.take i))).set 256 1).getD j 0 ≤ (i : Int) + 1) ∧ 0 ≤ (cd9 (tals9 (l.take i))).getD j 0 ∧ (cd9 (tals9 (l.take i))).getD j 0 ≤ (i : Int) + 1)) (fun ti _ => n - (intOf ti).toNat)
      case atStart =>
        refine ⟨0, by omega, rfl, by rw [List.take_zero]; exact HT0.out, ?_⟩
        rw [List.take_zero]
        intro j
        rw [gset9 _ _ _ _ (by rw [cl9_len]; omega), ← z0_9.1, ← z0_9.2, repl_get, repl_get]
        split <;> omega
      case round =>
        obtain ⟨i, hin, rfl, TT, HBD⟩ := hrel
        clear HT0 c0 f0
        by_cases hlt : i < n
        · have hlti : (i : Int) < (n : Int) := by omega
          have hil : i < l.length := by rw [hn.out]; exact hlt
          obtain ⟨g, o, rfl, tk⟩ := (HS.out.old TT.bl).at_ i hil
          have hfit := HS.out.fit (l.getD i tk0) (by simp only [List.getD, List.getElem?_eq_getElem hil, Option.getD_some]; exact List.getElem_mem hil)
          have hmay := HMY.out (l.getD i tk0) (by simp only [List.getD, List.getElem?_eq_getElem hil, Option.getD_some]; exact List.getElem_mem hil)
          have HTK : Hid (tals9 (l.take (i + 1)) = tst9 (tals9 (l.take i)) (l.getD i tk0)) := by show _ = _; rw [takeT7 hil, tals9_snoc]
          generalize l.getD i tk0 = t at *
          have s1 := cl9_step (tals9_len (l.take i)) hfit hmay
          have s2 := cd9_lit (tals9_len (l.take i)) hfit hmay
          have s3 := cd9_step (tals9_len (l.take i)) hfit hmay
          rw [← HTK.out] at s1 s2 s3
          have hsy := (sym9_lt hfit hmay).1
          have hfm := (fit_may9 hfit hmay)
          have hsyd : sym9 t = if t.len = 0 then t.lit.toNat else 257 + lix9 t.len := rfl
          have HS1 : Hid (∀ A D, (cl9 (tals9 (l.take (i + 1)))).set 256 1 = A → cd9 (tals9 (l.take (i + 1))) = D → ∀ W, Tw9 w W ga gb A D → (∀ j, (0 ≤ A.getD j 0 ∧ A.getD j 0 ≤ (i : Int) + 1 + 1) ∧ 0 ≤ D.getD j 0 ∧ D.getD j 0 ≤ (i : Int) + 1 + 1) → Tw9 w W ga gb ((cl9 (tals9 (l.take (i + 1)))).set 256 1) (cd9 (tals9 (l.take (i + 1)))) ∧ Hid (∀ j, (0 ≤ ((cl9 (tals9 (l.take (i + 1)))).set 256 1).getD j 0 ∧ ((cl9 (tals9 (l.take (i + 1)))).set 256 1).getD j 0 ≤ ((i + 1 : Nat) : Int) + 1) ∧ 0 ≤ (cd9 (tals9 (l.take (i + 1)))).getD j 0 ∧ (cd9 (tals9 (l.take (i + 1)))).getD j 0 ≤ ((i + 1 : Nat) : Int) + 1)) := by
            intro A D e1 e2 W hT hb
            subst e1 e2
            exact ⟨hT, fun j => by have := hb j; omega⟩
          obtain ⟨A, hA⟩ : ∃ A, A = (cl9 (tals9 (l.take i))).set 256 1 := ⟨_, rfl⟩
          obtain ⟨D, hD⟩ : ∃ D, D = cd9 (tals9 (l.take i)) := ⟨_, rfl⟩
          rw [← hA] at s1 TT HBD
          rw [← hD] at s2 s3 TT HBD
          clear hA hD HTK
          obtain ⟨lit, len, dist⟩ := t
          obtain ⟨x0, x1, x2⟩ := tk
          simp only at x0 x1 x2 hfm hsyd
          have b1 := below_box8 wr (.cells #[.int .u8 lit, .int .i64 len, .int .i64 dist] 98)
          have T1 := TT.below b1
          have hga := (TT.oa.lt ga (by simp [Value.ownBlock])).2
          have hgb := (TT.od.lt gb (by simp [Value.ownBlock])).2
          by_cases hz : len = 0
          · rw [if_pos hz] at hsyd
            obtain ⟨L, rfl⟩ : ∃ L : Nat, lit = (L : Int) := ⟨lit.toNat, by omega⟩
            rw [Int.toNat_natCast] at hsyd
            rw [hsyd] at s1 hsy
            obtain ⟨c0, fz⟩ := T1.cellA (i := L) hsy
            have f0 := fz L
            have bb := (HBD.out L).1
            have HT2 : Hid (Tw9 w ((wr.setCell ⟨ga, L, none⟩ (.int .i64 (A.getD L 0 + 1))).alloc (.cells #[.int .u8 (L : Int), .int .i64 0, .int .i64 dist] 98)) ga gb (inc9 A L 1) D) := (TT.setA L (A.getD L 0 + 1)).below (below_box8 _ _)
            have HB2 : Hid (∀ j, (0 ≤ (inc9 A L 1).getD j 0 ∧ (inc9 A L 1).getD j 0 ≤ (i : Int) + 1 + 1) ∧ 0 ≤ D.getD j 0 ∧ D.getD j 0 ≤ (i : Int) + 1 + 1) := fun j => by
              rw [inc9_get _ _ _ _ (by rw [TT.la]; exact hsy)]
              have := HBD.out j
              split <;> omega
            have HS2 := HS1.out _ _ s1 (s2 hz)
            have HS3 : Hid (∀ W, Tw9 w W ga gb (inc9 A L 1) D → Tw9 w W ga gb ((cl9 (tals9 (l.take (i + 1)))).set 256 1) (cd9 (tals9 (l.take (i + 1)))) ∧ Hid (∀ j, (0 ≤ ((cl9 (tals9 (l.take (i + 1)))).set 256 1).getD j 0 ∧ ((cl9 (tals9 (l.take (i + 1)))).set 256 1).getD j 0 ≤ ((i + 1 : Nat) : Int) + 1) ∧ 0 ≤ (cd9 (tals9 (l.take (i + 1)))).getD j 0 ∧ (cd9 (tals9 (l.take (i + 1)))).getD j 0 ≤ ((i + 1 : Nat) : Int) + 1)) := fun W hT => HS2 W hT HB2.out
            subst hz
            generalize A.getD L 0 = y at *
            have i1 : IntKind.i64.wrap (y + 1) = y + 1 := IntWalk.i64_in _ (by omega)
            have hLi : (L : Int) < 286 := by omega
            clear s1 s2 s3 HS1 HS2 HBD HB2 T1 b1 TT hsyd hfm hfit hmay fz
            go_wp2_with fail
            go_roundw
            case rel => exact ⟨i + 1, by omega, by go_num, (HS3.out _ HT2.out).1, (HS3.out _ HT2.out).2⟩
            case measure => simp [intOf]; omega
          · rw [if_neg hz] at hsyd
            have hfm2 := hfm.2.2.resolve_left (fun q => hz q.1)
            obtain ⟨k2, k3, k4, k5, k6, klit⟩ := hfm2
            clear klit k2
            have CL := rlsy9_is len k3 k4 (wr.alloc (.cells #[.int .u8 lit, .int .i64 len, .int .i64 dist] 98))
            have hdx := (dspec9 k5).2.1
            have CD := rdsy9_is dist k5 k6
            rw [hsyd] at s1 hsy
            have s3 := s3 hz
            obtain ⟨p, hp⟩ : ∃ p, p = 257 + lix9 len := ⟨_, rfl⟩
            obtain ⟨q, hq⟩ : ∃ q, q = dix9 dist := ⟨_, rfl⟩
            have hpi : 257 + (lix9 len : Int) = (p : Int) := by omega
            rw [← hp] at s1 hsy
            simp only at s3
            rw [← hq] at s3 hdx
            rw [hpi] at CL
            rw [← hq] at CD
            generalize lnS9.getD (lix9 len * 2 + 1) 0 = z1 at *
            generalize lnS9.getD (lix9 len * 2) 0 = z2 at *
            generalize dsS9.getD (q * 2 + 1) 0 = z3 at *
            generalize dsS9.getD (q * 2) 0 = z4 at *
            have HB2 : Hid (∀ j, (0 ≤ (inc9 A p 1).getD j 0 ∧ (inc9 A p 1).getD j 0 ≤ (i : Int) + 1 + 1) ∧ 0 ≤ (inc9 D q 1).getD j 0 ∧ (inc9 D q 1).getD j 0 ≤ (i : Int) + 1 + 1) := fun j => by
              rw [inc9_get _ _ _ _ (by rw [TT.la]; exact hsy), inc9_get _ _ _ _ (by rw [TT.ld]; exact hdx)]
              have := HBD.out j
              constructor <;> split <;> omega
            have HS2 := HS1.out _ _ s1 s3
            have HS3 : Hid (∀ W, Tw9 w W ga gb (inc9 A p 1) (inc9 D q 1) → Tw9 w W ga gb ((cl9 (tals9 (l.take (i + 1)))).set 256 1) (cd9 (tals9 (l.take (i + 1)))) ∧ Hid (∀ j, (0 ≤ ((cl9 (tals9 (l.take (i + 1)))).set 256 1).getD j 0 ∧ ((cl9 (tals9 (l.take (i + 1)))).set 256 1).getD j 0 ≤ ((i + 1 : Nat) : Int) + 1) ∧ 0 ≤ (cd9 (tals9 (l.take (i + 1)))).getD j 0 ∧ (cd9 (tals9 (l.take (i + 1)))).getD j 0 ≤ ((i + 1 : Nat) : Int) + 1)) := fun W hT => HS2 W hT HB2.out
            have bbA := (HBD.out p).1
            have bbD := (HBD.out q).2
            have HT1 : Hid (Tw9 w (wr.alloc (.cells #[.int .u8 lit, .int .i64 len, .int .i64 dist] 98)) ga gb A D) := T1
            have g0 := heap_alloc_new wr (.cells #[.int .u8 lit, .int .i64 len, .int .i64 dist] 98)
            have HCD : Hid (∀ w, Calls Tryz.prog 12 #[.int .i64 dist] w fun e w' => e = .returned (.tuple #[.int .i64 (q : Int), .int .i64 z3, .int .i64 (dist - z4), .int .i64 0]) ∧ Below w.heap.size w w') := CD
            clear s1 s2 s3 HS1 HS2 HBD HB2 T1 b1 TT hsyd hfm hfit hmay CD hp hq hpi
            go_wp2_with fail
            generalize wr.alloc (.cells #[.int .u8 lit, .int .i64 len, .int .i64 dist] 98) = wa at *
            refine CL.mono ?_
            rintro e w3 ⟨rfl, b3⟩
            have T3 := HT1.out.below b3
            have hwl : wr.heap.size < wa.heap.size := (Array.getElem?_eq_some_iff.1 g0).1
            have g3 := (b3.block wr.heap.size hwl).trans g0
            have c2 : w3.cell? ⟨wr.heap.size, 2, none⟩ = some (.int .i64 dist) := (cell_of_row w3 _ 2 _ _ _ g3).trans rfl
            clear CL HT1 g0 b3 g3
            go_wp2_with fail
            refine (HCD.out w3).mono ?_
            rintro e w4 ⟨rfl, b4⟩
            have T4 := T3.below b4
            clear T3 b4 HCD c2
            obtain ⟨c0, fz⟩ := T4.cellA (i := p) hsy
            have f0 := fz p
            obtain ⟨d0, gz⟩ := T4.cellD (i := q) hdx
            have k0 := gz q
            have HT5 : Hid (Tw9 w ((w4.setCell ⟨ga, p, none⟩ (.int .i64 (A.getD p 0 + 1))).setCell ⟨gb, q, none⟩ (.int .i64 (D.getD q 0 + 1))) ga gb (inc9 A p 1) (inc9 D q 1)) := (T4.setA p (A.getD p 0 + 1)).setD q (D.getD q 0 + 1)
            have hne := T4.ne
            have hpl : (p : Int) < 286 := by omega
            have hql : (q : Int) < 30 := by omega
            clear T4 fz gz hga hgb
            generalize A.getD p 0 = y at *
            generalize D.getD q 0 = v at *
            have i1 : IntKind.i64.wrap (y + 1) = y + 1 := IntWalk.i64_in _ (by omega)
            have i2 : IntKind.i64.wrap (v + 1) = v + 1 := IntWalk.i64_in _ (by omega)
            go_wp2_with fail
            go_roundw
            case rel => exact ⟨i + 1, by omega, by go_num, (HS3.out _ HT5.out).1, (HS3.out _ HT5.out).2⟩
            case measure => simp [intOf]; omega
        · have hge : ¬ (i : Int) < (n : Int) := by omega
          have hTA : l.take i = l := List.take_of_length_le (by rw [hn.out]; omega)
          rw [hTA, ← cl9_tal, ← cd9_tal] at TT
          have bdA : ∀ z ∈ cl9 (tal9 l), -9223372036854775808 ≤ z ∧ z ≤ 9223372036854775807 := fun z hz => by
            obtain ⟨j, hj, rfl⟩ := List.mem_iff_getElem.1 hz
            have := (HBD.out j).1
            rw [hTA, ← cl9_tal] at this
            simp only [List.getD, List.getElem?_eq_getElem hj, Option.getD_some] at this
            omega
          have bdD : ∀ z ∈ cd9 (tal9 l), -9223372036854775808 ≤ z ∧ z ≤ 9223372036854775807 := fun z hz => by
            obtain ⟨j, hj, rfl⟩ := List.mem_iff_getElem.1 hz
            have := (HBD.out j).2
            rw [hTA, ← cd9_tal] at this
            simp only [List.getD, List.getElem?_eq_getElem hj, Option.getD_some] at this
            omega
          have sA := own_segZ TT.oa bdA
          have sD := own_segZ TT.od bdD
          have CL := rlengths_far 15 _ (cl9 (tal9 l)) 286 286 (cl9_len _) wr sA (by omega)
          have HCD : Hid (∀ W, Below wr.heap.size wr W → Calls Tryz.prog 49 #[.int .i64 15, .slice (some ⟨gb, 0, none⟩) 30 30] W (LenF W 15 (cd9 (tal9 l)))) := fun W hW => rlengths_far 15 _ (cd9 (tal9 l)) 30 30 (cd9_len _) W (sD.old hW) (by omega)
          have BR := TT.bl
          clear HBD hTA bdA bdD sA sD TT
          go_wp2_with fail
          refine CL.mono ?_
          rintro e w3 ⟨xa, xc, rfl, s3, fr3, b3⟩
          have CD := HCD.out w3 b3
          clear CL HCD
          go_wp2_with fail
          refine CD.mono ?_
          rintro e w4 ⟨ya, yc, rfl, s4, fr4, b4⟩
          have s3' := s3.old b4
          have B3 : Below w.heap.size w w3 := BR.trans (b3.mono BR.size)
          have B4 : Below w.heap.size w w4 := B3.trans (b4.mono B3.size)
          have hr := BR.size
          have h3 := B3.size
          clear CD s3 b3 b4 BR
          go_wp2_with fail
          go_ret3
          show RoQ w (owa9 l) (owd9 l) (mer9 l) _ _
          rw [HQ.out.1, HQ.out.2.1, HQ.out.2.2]
          exact ⟨xa, xc, ya, yc, rfl, s3', s4, fun x e => ⟨Nat.le_trans hr (fr3 x e).1, (fr3 x e).2⟩, fun x e => ⟨Nat.le_trans h3 (fr4 x e).1, (fr4 x e).2⟩, B4⟩
  · have HQ : Hid (owa9 l = [] ∧ owd9 l = []) := ⟨if_neg hm, if_neg hm⟩
    go_enter Tryz.func20, Tryz.ntmps20
    go_wp2_with fail
    refine CM.mono ?_
    rintro e w1 ⟨rfl, b1⟩
    clear CM
    rcases mer9_no hm with hm | hm
    · rw [hm]
      go_wp2_with fail
      go_ret3
      show RoQ w (owa9 l) (owd9 l) _ _ _
      rw [HQ.out.1, HQ.out.2, hm]
      exact ⟨none, 0, none, 0, rfl, SegZ.nil _ _, SegZ.nil _ _, (fun x e => by cases e), (fun x e => by cases e), b1⟩
    · rw [hm]
      go_wp2_with fail
      go_ret3
      show RoQ w (owa9 l) (owd9 l) _ _ _
      rw [HQ.out.1, HQ.out.2, hm]
      exact ⟨none, 0, none, 0, rfl, SegZ.nil _ _, SegZ.nil _ _, (fun x e => by cases e), (fun x e => by cases e), b1⟩
end Go.Proofs.YtcifalelnfeggaaGreatDoor
