import Derived.Test.YtmddnmpldmdllaaDoorPs
import Derived.Defers
import Derived.Recover
import Derived.Test.YtmddnmpldmdllaaDoorPg
namespace Go.Proofs.YtmddnmpldmdllaaDoor
open Go.RowKit
set_option linter.unusedVariables false
set_option linter.unusedSimpArgs false

/-! The landed swell: step, where nothing goes wrong. -/
set_option maxRecDepth 100000 in
set_option maxHeartbeats 2000000 in
theorem pcatch11 (a0 a1 a2 a3 : Value) (w : World) :
    CallsD Tryd.prog 19 #[a0, a1, a2, a3] .returning w fun e u' w' => e = .returned (.tuple #[]) ∧ u' = .returning ∧ w' = w := by
  refine callsD_of_wpS Tryd.func19 rfl fun c₀ cs hu => ?_
  apply wpS_seq
  apply wpS_region
  simp [wpOpsS, go_sem, recoverD, hu, Tryd.ntmps19, Exit.thenS]
  apply wpS_seq
  apply wpS_region
  simp [wpOpsS, go_sem, recoverD, hu, Tryd.ntmps19, Exit.thenS]
  refine wpS_cond (t := false) (by simp [Act.eval, Array.replicate]) ?_
  simp only [Bool.false_eq_true, if_false]
  refine wpS_of_wp (wp_skip ?_)
  cases c₀
  simp_all [bodyPostS, results, Tryd.results19]
theorem results_cc11 {P : Program} {fn : Func} {p q : Tmp} {ty tz : TypeId} (h : fn.results = #[.cell p ty, .cell q tz]) (tmps : Array Value) (w : World) (g : Nat) (t : TypeId) (cs : Array Value) (fr : Nat × Nat) (d : TypeDesc)
    (hp : tmps.getD p undef = .pointer (some ⟨g, 0, none⟩)) (hg : w.heap[g]? = some (.cells cs t fr))
    (hu : P.underlying ty = some d) (hd : (match d with | .struct _ | .array _ _ => true | _ => false) = true) (hi : (P.info? ty).map (·.size) = some cs.size)
    (g2 : Nat) (x : Value) (hq : tmps.getD q undef = .pointer (some ⟨g2, 0, none⟩)) (hx : (loadVar tz ⟨g2, 0, none⟩).run P w = .ok x w) :
    (results fn tmps).run P w = .ok (.tuple #[.agg cs, x]) w := by
  have e : (results fn tmps).run P w = ((asAddr (tmps.getD p undef)).run P w).andThen fun a w₁ => ((loadVar ty a).run P w₁).andThen fun x w₂ => ((asAddr (tmps.getD q undef)).run P w₂).andThen fun a' w₃ => ((loadVar tz a').run P w₃).andThen fun x' w₄ => .ok (.tuple #[x, x']) w₄ := by
    simp only [results, h]
    simp [Sem.run_bind, Result.andThen]
  rw [e, hp, hq]
  simp [asAddr, Result.andThen, run_loadVar_row w g t ty cs fr d hg hu hd hi, hx]
section
variable {b g S : Nat} {K0 : List Int} {dl dd hd pg : Nat} {win : Int}
set_option maxRecDepth 100000 in
set_option maxHeartbeats 8000000 in
theorem psw_step (w : World) (hne : b ≠ dl ∧ b ≠ dd ∧ g ≠ dl ∧ g ≠ dd ∧ dl ≠ dd) (hpg : pg ≠ b ∧ pg ≠ g ∧ pg ≠ dl ∧ pg ≠ dd) (hS : Sw w b g S [] K0 [] 0 dl dd hd win 10 0 false) (D1 : De w dl 288 []) (D2 : De w dd 32 []) (hsg : Seg w (some ⟨pg, 0, none⟩) [75, 4, 0]) :
    Calls Tryd.prog 12 #[.pointer (some ⟨b, 0, none⟩), .slice (some ⟨pg, 0, none⟩) 3 3, .int .i64 9] w fun e w' => ∃ og oc K H, e = .returned (.tuple #[.agg #[.slice (some ⟨pg, 0, none⟩) 3 3, .int .i64 3, .int .i64 9, .slice (some ⟨og, 0, none⟩) 1 oc], .int .i64 0]) ∧ Sw w' b g S [97] K H 18 dl dd hd win 10 9 true ∧ w'.ownsRow w.heap.size 5 1 (.slice (some ⟨og, 0, none⟩) 1 oc) 1 [.int .u8 97] ∧ Kp (fun k => k = b ∨ k = g ∨ k = dl ∨ k = dd) w w' := by
  have hmf : ∀ (fn : Fn) (first cap : Array Value) (w : World), (Instr.makeFunc fn first cap).run Tryd.prog w = .ok (.func fn first cap) w := fun _ _ _ _ => rfl
  obtain ⟨wC, hwC⟩ : ∃ wC, wC = ((w.alloc (.cells #[.pointer (some ⟨b, 0, none⟩)] 26)).alloc (.cells #[.slice none 0 0, .int .i64 0, .int .i64 0, .slice none 0 0] 49)).alloc (.cells #[.int .i64 0] 30) := ⟨_, rfl⟩
  have BC : Below w.heap.size w wC := by
    rw [hwC]
    exact ((below_box8' w _).trans ((below_box8' _ _).mono (by simp))).trans ((below_box8' _ _).mono (by simp; omega))
  have hsC : wC.heap.size = w.heap.size + 3 := by rw [hwC]; simp
  have hSC := hS.old BC
  have c0 : wC.cell? ⟨b, 0, none⟩ = some (.slice (some ⟨g, 0, none⟩) S S) := hSC.cell 0 _ rfl
  have c1 : wC.cell? ⟨b, 1, none⟩ = some (.int .i64 0) := hSC.cell 1 _ rfl
  rw [hwC] at c0 c1
  have hbw := hS.b_lt
  go_enter_defers Tryd.func12, Tryd.ntmps12
  go_wp2_with fail
  obtain ⟨wR, hwR⟩ : ∃ wR, wR = (((w.alloc (.cells #[.pointer (some ⟨b, 0, none⟩)] 26)).alloc (.cells #[.slice (some ⟨pg, 0, none⟩) 3 3, .int .i64 0, .int .i64 9, .slice none 0 0] 49)).alloc (.cells #[.int .i64 0] 30)).alloc (.cells #[.slice (some ⟨g, 0, none⟩) S S, .int .i64 0] 39) := ⟨_, rfl⟩
  rw [← hwR]
  have BR : Below w.heap.size w wR := by
    rw [hwR]
    exact (((below_box8' w _).trans ((below_box8' _ _).mono (by simp))).trans ((below_box8' _ _).mono (by simp; omega))).trans ((below_box8' _ _).mono (by simp; omega))
  have hfl : Fl wR (w.heap.size + 1) (some ⟨pg, 0, none⟩) 3 3 0 9 (.slice none 0 0) := ⟨by
    rw [hwR, heap_alloc_old _ _ (by first | (simp; done) | (simp; omega)), heap_alloc_old _ _ (by first | (simp; done) | (simp; omega))]
    have := heap_alloc_new (w.alloc (.cells #[.pointer (some ⟨b, 0, none⟩)] 26)) (.cells #[.slice (some ⟨pg, 0, none⟩) 3 3, .int .i64 0, .int .i64 9, .slice none 0 0] 49)
    rw [show (w.alloc (.cells #[.pointer (some ⟨b, 0, none⟩)] 26)).heap.size = w.heap.size + 1 by simp] at this
    exact this⟩
  have her : wR.heap[w.heap.size + 2]? = some (.cells #[.int .i64 0] 30 (0, 0)) := by
    rw [hwR, heap_alloc_old _ _ (by simp)]
    have := heap_alloc_new ((w.alloc (.cells #[.pointer (some ⟨b, 0, none⟩)] 26)).alloc (.cells #[.slice (some ⟨pg, 0, none⟩) 3 3, .int .i64 0, .int .i64 9, .slice none 0 0] 49)) (.cells #[.int .i64 0] 30)
    rw [show ((w.alloc (.cells #[.pointer (some ⟨b, 0, none⟩)] 26)).alloc (.cells #[.slice (some ⟨pg, 0, none⟩) 3 3, .int .i64 0, .int .i64 9, .slice none 0 0] 49)).heap.size = w.heap.size + 2 by simp] at this
    exact this
  have hgw := hS.g_lt
  have hl1 : dl < w.heap.size := by obtain ⟨S, _, _, q⟩ := D1.row; exact (Array.getElem?_eq_some_iff.1 q).1
  have hl2 : dd < w.heap.size := by obtain ⟨S, _, _, q⟩ := D2.row; exact (Array.getElem?_eq_some_iff.1 q).1
  have hsp : pg < w.heap.size := by
    obtain ⟨b', o', e, c⟩ := hsg.at_ 0 (by decide)
    cases e
    exact World.block_lt_of_cell? w _ c
  have F : Df b g dl dd (w.heap.size + 1) := ⟨hS.ne, hne.1, hne.2.1, by omega, hne.2.2.1, hne.2.2.2.1, by omega, hne.2.2.2.2, by omega, by omega⟩
  have CR := psw_run wR F (pg := pg) (by rintro (e | e | e | e | e); exact hpg.1 e; exact hpg.2.1 e; exact hpg.2.2.1 e; exact hpg.2.2.2 e; omega) (hS.old BR) hfl (D1.keep (BR.block dl hl1)) (D2.keep (BR.block dd hl2)) (hsg.old BR)
  have hsR : wR.heap.size = w.heap.size + 4 := by rw [hwR]; simp
  have HER : Hid (wR.heap[w.heap.size + 2]? = some (.cells #[.int .i64 0] 30 (0, 0))) := her
  have HBR : Hid (Below w.heap.size w wR) := BR
  clear hwR hwC c0 c1 hSC BC hsC hfl her BR hS D1 D2 hsg
  refine CR.mono ?_
  rintro e w5 ⟨rfl, W, bW, HV, KV⟩
  cases HV with
  | s6 K og oc H hS5 hF5 D15 D25 O5 =>
    have hmv : ¬ Mv b g dl dd (w.heap.size + 1) (w.heap.size + 2) := by rintro (e | e | e | e | e) <;> omega
    have her5 : w5.heap[w.heap.size + 2]? = some (.cells #[.int .i64 0] 30 (0, 0)) := KV.heap ((bW.block _ (by omega)).trans HER.out) hmv
    have d0 := hF5.cell 0 _ rfl
    have d1 : w5.cell? ⟨w.heap.size + 1, 1, none⟩ = some (.int .i64 3) := hF5.cell 1 _ rfl
    have d2 := hF5.cell 2 _ rfl
    have d3 := hF5.cell 3 _ rfl
    have hfp : w5.heap[w.heap.size + 1]? = some (.cells #[.slice (some ⟨pg, 0, none⟩) 3 3, .int .i64 3, .int .i64 9, .slice (some ⟨og, 0, none⟩) 1 oc] 49 (0, 0)) := hF5.hp
    have HE5 : Hid (w5.heap[w.heap.size + 2]? = some (.cells #[.int .i64 0] 30 (0, 0))) := her5
    have HFP : Hid (w5.heap[w.heap.size + 1]? = some (.cells #[.slice (some ⟨pg, 0, none⟩) 3 3, .int .i64 3, .int .i64 9, .slice (some ⟨og, 0, none⟩) 1 oc] 49 (0, 0))) := hfp
    have HS5 : Hid (Sw w5 b g S [97] K H 18 dl dd hd win 10 9 true) := hS5
    have HO5 : Hid (w5.ownsRow W.heap.size 5 1 (.slice (some ⟨og, 0, none⟩) 1 oc) 1 [.int .u8 97]) := O5
    have HKV : Hid (Kp (Mv b g dl dd (w.heap.size + 1)) W w5) := KV
    have HBW : Hid (Below wR.heap.size wR W) := bW
    have HSR : Hid (wR.heap.size = w.heap.size + 4) := hsR
    have HLT : Hid (b < w.heap.size ∧ g < w.heap.size ∧ dl < w.heap.size ∧ dd < w.heap.size) := ⟨hbw, hgw, hl1, hl2⟩
    have e0 : w5.cell? ⟨w.heap.size + 1 + 1, 0, none⟩ = some (.int .i64 0) := (cell_of_row w5 _ 0 _ _ _ her5).trans rfl
    have ef : w5.frozen? ⟨w.heap.size + 1 + 1, 0, none⟩ = false := cons_free her5 0
    have ff : ∀ i, w5.frozen? ⟨w.heap.size + 1, i, none⟩ = false := fun i => hF5.free i
    clear CR hS5 O5 KV bW hsR hF5 D15 D25 hfp her5 F hne hpg hmv hl1 hl2 hgw hbw hsp
    go_wp2_with fail
    obtain ⟨w6, hw6⟩ : ∃ w6, w6 = ((((w5.setCell ⟨w.heap.size + 1, 0, none⟩ (.slice (some ⟨pg, 0, none⟩) 3 3)).setCell ⟨w.heap.size + 1, 1, none⟩ (.int .i64 3)).setCell ⟨w.heap.size + 1, 2, none⟩ (.int .i64 9)).setCell ⟨w.heap.size + 1, 3, none⟩ (.slice (some ⟨og, 0, none⟩) 1 oc)).setCell ⟨w.heap.size + 1 + 1, 0, none⟩ (.int .i64 0) := ⟨_, rfl⟩
    rw [← hw6]
    have k6 : Kp (fun k => k = w.heap.size + 1 ∨ k = w.heap.size + 1 + 1) w5 w6 := by
      rw [hw6]
      exact ((((Kp.set (S := fun k => k = w.heap.size + 1 ∨ k = w.heap.size + 1 + 1) (.inl rfl) _).trans (Kp.set (S := fun k => k = w.heap.size + 1 ∨ k = w.heap.size + 1 + 1) (.inl rfl) _) (fun _ _ e => e)).trans (Kp.set (S := fun k => k = w.heap.size + 1 ∨ k = w.heap.size + 1 + 1) (.inl rfl) _) (fun _ _ e => e)).trans (Kp.set (S := fun k => k = w.heap.size + 1 ∨ k = w.heap.size + 1 + 1) (.inl rfl) _) (fun _ _ e => e)).trans (Kp.set (S := fun k => k = w.heap.size + 1 ∨ k = w.heap.size + 1 + 1) (.inr rfl) _) (fun _ _ e => e)
    have hf6 : w6.heap[w.heap.size + 1]? = some (.cells #[.slice (some ⟨pg, 0, none⟩) 3 3, .int .i64 3, .int .i64 9, .slice (some ⟨og, 0, none⟩) 1 oc] 49 (0, 0)) := by
      rw [hw6]
      refine (Kp.set (S := fun k => k = w.heap.size + 1 + 1) rfl _).heap ?_ (by omega)
      exact (mid_set (mid_set (mid_set (mid_set HFP.out _) _) _) _).trans rfl
    have he5 : w5.heap[w.heap.size + 1 + 1]? = some (.cells #[.int .i64 0] 30 (0, 0)) := by
      have := HE5.out
      rwa [show w.heap.size + 2 = w.heap.size + 1 + 1 by omega] at this
    have he6 : w6.heap[w.heap.size + 1 + 1]? = some (.cells #[.int .i64 0] 30 (0, 0)) := by
      rw [hw6]
      have hx5 := ((((Kp.set (S := fun k => k = w.heap.size + 1) (w := w5) (b := w.heap.size + 1) (i := 0) rfl (.slice (some ⟨pg, 0, none⟩) 3 3)).trans (Kp.set (S := fun k => k = w.heap.size + 1) (b := w.heap.size + 1) (i := 1) rfl (.int .i64 3)) (fun _ _ e => e)).trans (Kp.set (S := fun k => k = w.heap.size + 1) (b := w.heap.size + 1) (i := 2) rfl (.int .i64 9)) (fun _ _ e => e)).trans (Kp.set (S := fun k => k = w.heap.size + 1) (b := w.heap.size + 1) (i := 3) rfl (.slice (some ⟨og, 0, none⟩) 1 oc)) (fun _ _ e => e)).heap he5 (by omega)
      exact (mid_set hx5 _).trans rfl
    have HPOST : Hid (∃ og' oc' K H, Ending.returned (.tuple #[.agg #[.slice (some ⟨pg, 0, none⟩) 3 3, .int .i64 3, .int .i64 9, .slice (some ⟨og, 0, none⟩) 1 oc], .int .i64 0]) = .returned (.tuple #[.agg #[.slice (some ⟨pg, 0, none⟩) 3 3, .int .i64 3, .int .i64 9, .slice (some ⟨og', 0, none⟩) 1 oc'], .int .i64 0]) ∧ Sw w6 b g S [97] K H 18 dl dd hd win 10 9 true ∧ w6.ownsRow w.heap.size 5 1 (.slice (some ⟨og', 0, none⟩) 1 oc') 1 [.int .u8 97] ∧ Kp (fun k => k = b ∨ k = g ∨ k = dl ∨ k = dd) w w6) := by
      have hlt := HLT.out
      have hsr := HSR.out
      have hbs := HBW.out.size
      refine ⟨og, oc, K, H, rfl, HS5.out.kp k6 (by omega) (by omega), own_base (own_kp HO5.out k6 (fun k e e2 => by have := (HO5.out.lt k e).1; omega)) (by omega), ?_⟩
      have kA : Kp (fun k => k = b ∨ k = g ∨ k = dl ∨ k = dd) w W := (Kp.of_below (S := fun k => k = b ∨ k = g ∨ k = dl ∨ k = dd) HBR.out).trans (Kp.of_below (S := fun _ => False) HBW.out) (fun _ _ e => e.elim)
      refine (kA.trans HKV.out (fun k hk e => ?_)).trans k6 (fun k hk e => ?_)
      · rcases e with e | e | e | e | e
        · exact .inl e
        · exact .inr (.inl e)
        · exact .inr (.inr (.inl e))
        · exact .inr (.inr (.inr e))
        · omega
      · omega
    clear he5 hw6 k6 HKV HBW HS5 HO5 HFP HE5 HSR HLT d0 d1 d2 d3 e0 ef ff HBR HER
    have g0 : w6.cell? ⟨w.heap.size + 1, 0, none⟩ = some (.slice (some ⟨pg, 0, none⟩) 3 3) := (cell_of_row w6 _ 0 _ _ _ hf6).trans rfl
    have g1 : w6.cell? ⟨w.heap.size + 1, 1, none⟩ = some (.int .i64 3) := (cell_of_row w6 _ 1 _ _ _ hf6).trans rfl
    have g2 : w6.cell? ⟨w.heap.size + 1, 2, none⟩ = some (.int .i64 9) := (cell_of_row w6 _ 2 _ _ _ hf6).trans rfl
    have g3 : w6.cell? ⟨w.heap.size + 1, 3, none⟩ = some (.slice (some ⟨og, 0, none⟩) 1 oc) := (cell_of_row w6 _ 3 _ _ _ hf6).trans rfl
    have g4 : w6.cell? ⟨w.heap.size + 1 + 1, 0, none⟩ = some (.int .i64 0) := (cell_of_row w6 _ 0 _ _ _ he6).trans rfl
    refine leaves_cons (f := 19) (args := #[.pointer (some ⟨w.heap.size, 0, none⟩), .pointer (some ⟨w.heap.size + 1 + 1 + 1, 0, none⟩), .pointer (some ⟨w.heap.size + 1, 0, none⟩), .pointer (some ⟨w.heap.size + 1 + 1, 0, none⟩)]) (by simp) (by simp [go_sem]) ?_
    refine (pcatch11 _ _ _ _ _).mono ?_
    rintro e u' w'' ⟨rfl, rfl, rfl⟩
    refine ⟨.tuple #[.agg #[.slice (some ⟨pg, 0, none⟩) 3 3, .int .i64 3, .int .i64 9, .slice (some ⟨og, 0, none⟩) 1 oc], .int .i64 0], ?_, ?_⟩
    · exact results_cc11 rfl _ _ (w.heap.size + 1) _ _ _ _ rfl hf6 Tryd.underlying49 rfl (by kernel_rfl) (w.heap.size + 1 + 1) _ rfl (by simp [loadVar, go_sem, g4, Tryd.underlying30])
    · exact HPOST.out
end
end Go.Proofs.YtmddnmpldmdllaaDoor

namespace Go.Proofs.YtmddnmpldmdllaaDoor
open Go.RowKit
set_option linter.unusedVariables false

/-- Ints at an offset of a block. -/
structure Cel8 (w : World) (b o : Nat) (L : List Int) : Prop where
  at_ : ∀ i, i < L.length → w.cell? ⟨b, o + i, none⟩ = some (.int .i64 (L.getD i 0))
/-- The decoder within a reader of lengths. -/
structure De8 (w : World) (b most : Nat) (zs : List Int) : Prop where
  ok : errC zs = 0
  mo : 1 ≤ most ∧ most ≤ 288
  row : ∃ S, S.length = 288 ∧ SymOk zs S zs.length ∧ Cel8 w b 347 (dl most zs S)
theorem De8.keep {w w' : World} {b n : Nat} {zs : List Int} (h : De8 w b n zs) (hb : ∀ i, i < 306 → w'.cell? ⟨b, 347 + i, none⟩ = w.cell? ⟨b, 347 + i, none⟩) : De8 w' b n zs := by
  obtain ⟨S, h1, h2, h3⟩ := h.row
  exact ⟨h.ok, h.mo, S, h1, h2, ⟨fun i hi => (hb i (by simp [dl, tbl_len h1] at hi; omega)).trans (h3.at_ i hi)⟩⟩
set_option maxRecDepth 100000 in
set_option maxHeartbeats 1000000 in
theorem find8 (b most : Nat) (zs : List Int) (H : List Bool) (n : Nat) (hn : Hid (n = min H.length 15)) (w : World) (hD : De8 w b most zs) :
    Calls Tryd.prog 81 #[.pointer (some ⟨b, 348, none⟩), .int .u64 (num (H.take n) : Int), .int .i64 (n : Int)] w fun e w' => ∃ sy le er, e = .returned (.tuple #[.int .i64 sy, .int .i64 le, .int .i64 er]) ∧ FindQ zs H sy le er ∧ w' = w := by
  obtain ⟨S, hS, hY, hb⟩ := hD.row
  have HL := errS_zero (errC_zero hD.ok).1
  have HLK : Hid (LOk zs) := HL.2
  go_enter Tryd.func81, Tryd.ntmps81
  go_wp2_with fail
  go_step3
  go_wp2_with fail
  go_step3
  go_wp2_with fail
  have hn15 : n ≤ 15 := by have := hn.out; omega
  have HNH : Hid (n ≤ H.length ∧ (n < 15 → n = H.length)) := ⟨by have := hn.out; omega, by have := hn.out; omega⟩
  have HW : Hid (spc zs = 32768 ∨ tot zs = 0 ∨ (tot zs = 1 ∧ cC zs 1 = 1)) := by
    have h1 := (errC_zero hD.ok).2
    unfold errR at h1
    by_cases c1 : 32768 < spc zs
    · rw [if_pos c1] at h1; cases h1
    · rw [if_neg c1] at h1
      by_cases c2 : spc zs = 32768 ∨ tot zs = 0 ∨ (tot zs = 1 ∧ cC zs 1 = 1)
      · exact c2
      · rw [if_neg c2] at h1; cases h1
  have hbnd := cC_288 (errC_zero hD.ok).1
  have HTT : Hid (tot zs ≤ 288) := Nat.le_trans (tot_le zs HL.2) HL.1
  have ct := hb.at_ (1 + 304) (by simp [dl, tbl_len hS])
  rw [dl_get, tbl_tot hS, show 347 + (1 + 304) = 652 from rfl] at ct
  have HY : Hid (SymOk zs S zs.length) := hY
  have htt := HTT.out
  clear HL hY
  go_loopw [9, 10, 11, 12, 13, 16] (fun t9 t10 t11 tb tsh tl wr => ∃ l d : Nat, l ≤ 16 ∧ t9 = .int .i64 0 ∧ t10 = .int .i64 0 ∧ t11 = .int .i64 0 ∧ tb = .int .i64 (d : Int) ∧ tsh = .int .i64 (cS zs l : Int) ∧ tl = .int .i64 (l : Int) ∧ wr = w ∧ Hid (l ≤ n ∧ d + cF zs l = vB H l ∧ ∀ j, j < l → cF zs j + cC zs j ≤ vB H j)) (fun _ _ _ _ _ tl _ => 16 - (intOf tl).toNat)
  case atStart => exact ⟨0, 0, by omega, rfl, rfl, rfl, rfl, rfl, rfl, rfl, (⟨by omega, by rw [vB_zero]; rfl, fun j hj => by omega⟩ : _ ∧ _)⟩
  case round =>
    obtain ⟨l, d, hl16, rfl, rfl, rfl, rfl, rfl, rfl, hwr, HQ⟩ := hrel
    subst hwr
    have hln : l ≤ n := HQ.out.1
    have hl15 : l ≤ 15 := by omega
    have hli : (l : Int) < 16 := by omega
    have cc := hb.at_ (1 + l) (by simp [dl, tbl_len hS]; omega)
    rw [dl_get, tbl_cnt (by omega), show 347 + (1 + l) = 348 + l by omega] at cc
    have hvl : vB H l < 32768 := Nat.lt_of_lt_of_le (vB_lt H l) (Nat.pow_le_pow_right (n := 2) (j := 15) (by decide) hl15)
    have hdb : d ≤ 32768 := by have := HQ.out.2.1; omega
    have hcb := hbnd l
    have hsb : cS zs l ≤ 288 := Nat.le_trans (cS_mono zs (b := 16) (by omega)) htt
    have HSS : Hid (cS zs (l + 1) = cS zs l + cC zs l) := cS_succ zs l
    have HCF : Hid (cF zs (l + 1) = 2 * (cF zs l + cC zs l)) := cF_succ zs l
    by_cases hdc : d < cC zs l
    · have hl0 : 0 < l := by
        rcases Nat.eq_zero_or_pos l with rfl | h
        · rw [cC_zero] at hdc; omega
        · exact h
      have HRK : Hid (∃ s, s < zs.length ∧ zs.getD s 0 = (l : Int) ∧ rk zs s = d) := rk_has zs (l : Int) d (by rw [← cC_pos zs hl0]; exact hdc)
      obtain ⟨s, hs1, hs2, hs3⟩ := HRK.out
      have HSF : Hid (Beg zs H s ∧ ln zs s = l ∧ S.getD (cS zs l + d) 0 = (s : Int)) := by
        have hln : ln zs s = l := by unfold ln; rw [hs2]; simp
        have s0 : zs.getD s 0 ≠ 0 := by rw [hs2]; omega
        refine ⟨⟨hs1, s0, ?_, ?_⟩, hln, ?_⟩
        · rw [hln]; have := HNH.out.1; omega
        · rw [hln]; unfold cd; rw [if_neg s0, hln, hs3]; have := HQ.out.2.1; omega
        · have := HY.out s hs1 s0
          rw [hln, hs3] at this
          exact this
      have hpb : cS zs l + d < 288 := by
        have h1 : cS zs (l + 1) ≤ cS zs 16 := cS_mono zs (by omega)
        have h2 := HSS.out
        have h3 := HTT.out
        unfold tot at h3
        omega
      have cs := hb.at_ (1 + (16 + (cS zs l + d))) (by simp [dl, tbl_len hS]; omega)
      rw [dl_get, tbl_sym hS (by omega), HSF.out.2.2, show 347 + (1 + (16 + (cS zs l + d))) = 364 + (cS zs l + d) by omega] at cs
      clear HRK hs1 hs2 hs3
      generalize cC zs l = c at *
      generalize cS zs l = f at *
      obtain ⟨p, hp⟩ : ∃ p, p = f + d := ⟨_, rfl⟩
      have r1 : (f : Int) + (d : Int) = (p : Int) := by omega
      have hpi : (p : Int) < 288 := by omega
      rw [← hp] at cs
      have hpb2 : p < 288 := by omega
      clear hp hpb
      have hdci : (d : Int) < (c : Int) := by omega
      go_wp2_with fail
      try rw [Exit.noGoto_ret]
      go_ret3
      exact ⟨s, l, 0, rfl, .inl ⟨s, HSF.out.1, rfl, by rw [HSF.out.2.1], rfl⟩, rfl⟩
    · have HPA : Hid (Past zs H l) := fun j hj => by
        rcases Nat.lt_or_ge j l with c | c
        · exact HQ.out.2.2 j c
        · obtain rfl : j = l := by omega
          have := HQ.out.2.1
          omega
      have hln2 := HNH.out.1
      by_cases hft : cS zs l + cC zs l = tot zs
      · have HFT : Hid _ := end_none HLK.out (show l ≤ H.length by omega) HPA.out (HSS.out.trans hft)
        have hfti : (cS zs l : Int) + (cC zs l : Int) = (tot zs : Int) := by omega
        clear hft
        generalize cC zs l = c at *
        generalize cS zs l = f at *
        generalize tot zs = T at *
        have hdci : ¬ (d : Int) < (c : Int) := by omega
        go_wp2_with fail
        try rw [Exit.noGoto_ret]
        go_ret3
        exact ⟨0, 0, 54, rfl, .inr (.inr ⟨HFT.out.1, HFT.out.2, rfl, rfl, rfl⟩), rfl⟩
      · have hfti : ¬ (cS zs l : Int) + (cC zs l : Int) = (tot zs : Int) := by omega
        by_cases hlen : l = n
        · have HFM : Hid ((∀ s, ¬ Beg zs H s) ∧ May zs H) := by
            have hl14 : l < 15 := by
              rcases Nat.lt_or_ge l 15 with c | c
              · exact c
              · exfalso
                apply hft
                rw [← HSS.out, show l = 15 by omega]
                rfl
            have e : H.length = l := by have := HNH.out.2 (by omega); omega
            have h1 := HPA.out
            rw [← e] at h1
            exact end_may HLK.out HW.out (by omega) h1 (by rw [e, HSS.out]; exact hft)
          subst hlen
          clear hft
          generalize cC zs l = c at *
          generalize cS zs l = f at *
          generalize tot zs = T at *
          have hdci : ¬ (d : Int) < (c : Int) := by omega
          go_wp2_with fail
          try rw [Exit.noGoto_ret]
          go_ret3
          exact ⟨0, 0, 0, rfl, .inr (.inl ⟨HFM.out.1, HFM.out.2, rfl, rfl, rfl⟩), rfl⟩
        · have hlnlt : l < n := by omega
          have hlni : ¬ (l : Int) = (n : Int) := by omega
          have HBT := bit_at (L := H.take n) (l := l) (by simp; omega)
          have eg : (H.take n).getD l false = H.getD l false := by simp [List.getD, hlnlt]
          rw [eg] at HBT
          have HVS : Hid (vB H (l + 1) = 2 * vB H l + (H.getD l false).toNat) := vB_succ (by omega)
          have hbt2 : (H.getD l false).toNat < 2 := Bool.toNat_lt _
          generalize (H.getD l false).toNat = bt at *
          have hrow : num (H.take n) < 32768 := Nat.lt_of_lt_of_le (num_lt _) (Nat.pow_le_pow_right (n := 2) (j := 15) (by decide) (by simp; omega))
          have hsh := shr_nat (num (H.take n)) l
          generalize num (H.take n) = row at *
          have hrd : row / 2 ^ l ≤ row := Nat.div_le_self _ _
          obtain ⟨rd, hrde⟩ : ∃ rd, rd = row / 2 ^ l := ⟨_, rfl⟩
          rw [← hrde] at hsh HBT hrd
          have hand : bits .and .u64 (rd : Int) 1 = (bt : Int) := by rw [and_one' rd (by omega), HBT]
          obtain ⟨e, he⟩ : ∃ e, e = d - cC zs l := ⟨_, rfl⟩
          have HE : Hid (e + cC zs l = d) := by show _ = _; omega
          have re : (d : Int) - (cC zs l : Int) = (e : Int) := by have := HE.out; omega
          have hor := or_bit64 (x := e) hbt2 (by omega)
          obtain ⟨y, hy⟩ : ∃ y, y = 2 * e + bt := ⟨_, rfl⟩
          rw [← hy] at hor
          have HYY : Hid (y = 2 * e + bt) := hy
          have heb : e ≤ 32768 := by omega
          have hyb : y ≤ 100000 := by omega
          clear hy he hrde HBT eg hft
          have hdci : ¬ (d : Int) < (cC zs l : Int) := by omega
          have HNX : Hid (y + cF zs (l + 1) = vB H (l + 1)) := by
            have h1 := HQ.out.2.1
            have h2 := HCF.out
            have h3 := HVS.out
            have h4 := HE.out
            have h5 := HYY.out
            show _ = _
            omega
          generalize cC zs l = c at *
          have rf : (cS zs l : Int) + (c : Int) = (cS zs (l + 1) : Int) := by have := HSS.out; omega
          have hsb2 : cS zs (l + 1) ≤ 1000 := by have := HSS.out; omega
          obtain ⟨f2, hf2⟩ : ∃ f2, f2 = cS zs (l + 1) := ⟨_, rfl⟩
          have HF2 : Hid (f2 = cS zs (l + 1)) := hf2
          rw [← hf2] at rf hsb2
          clear hf2
          generalize cS zs l = f at *
          generalize tot zs = T at *
          rw [rf] at hfti
          go_wp2_with fail
          go_roundw
          case rel => exact ⟨l + 1, y, by omega, rfl, rfl, rfl, rfl, by rw [HF2.out], by go_num, trivial, (⟨by omega, HNX.out, fun j hj => HPA.out j (by omega)⟩ : _ ∧ _)⟩
          case measure => simp [intOf]; omega
set_option maxRecDepth 100000 in
set_option maxHeartbeats 1000000 in
theorem next8 (b most : Nat) (zs : List Int) (br : Nat) (H : List Bool) (t : Nat) (w : World) (hD : De8 w b most zs) (hR : Rd w br H t) (ht : t ≤ 4611686018427387000) :
    Calls Tryd.prog 69 #[.pointer (some ⟨b, 347, none⟩), .pointer (some ⟨br, 0, none⟩)] w fun e w' => NxtQ w b br zs H t e w' := by
  obtain ⟨S, hS, hY, hb⟩ := hD.row
  have c0 := hb.at_ 0 (by simp [dl])
  have e0 : (dl most zs S).getD 0 0 = (most : Int) := rfl
  rw [e0, show 347 + 0 = 347 from rfl] at c0
  have hm0 : ¬ (most : Int) = 0 := by have := hD.mo; omega
  have CH := has_any br H t w hR
  obtain ⟨n, hn⟩ : ∃ n, n = min H.length 15 := ⟨_, rfl⟩
  have HN : Hid (n = min H.length 15) := hn
  have hth : there H (n : Int) = true := there_of (by omega) (by omega)
  have CP := peek_any br H t (n : Int) w hR
  rw [hth] at CP
  have hV : takeV H (n : Int) = num (H.take n) := by unfold takeV; rw [hth]; simp
  rw [hV] at CP
  have CF := find8 b most zs H n HN w hD
  have hle := hR.le
  have HCT : Hid (∀ s, Beg zs H s → ln zs s ≤ 15 → Calls Tryd.prog 41 #[.pointer (some ⟨br, 0, none⟩), .int .i64 (ln zs s : Int)] w fun e w' => (∃ x y, e = .returned (.tuple #[x, y])) ∧ Rd w' br (H.drop (ln zs s)) (t + ln zs s) ∧ w.grownBy w' (some br)) := by
    intro s hs hl
    have := take_any br H t (ln zs s : Int) w hR (by omega)
    have h1 : there H (ln zs s : Int) = true := there_of (by omega) hs.2.2.1
    refine this.mono ?_
    rintro e w' ⟨rfl, h2, h3⟩
    refine ⟨⟨_, _, rfl⟩, ?_, h3⟩
    unfold takeL takeT at h2
    rw [h1] at h2
    simpa using h2
  have HLN : Hid (∀ s, Beg zs H s → 0 < ln zs s ∧ ln zs s ≤ 15) := fun s hs => ⟨ln_pos (errS_zero (errC_zero hD.ok).1).2 hs.2.1, ((errS_zero (errC_zero hD.ok).1).2.ln s).2⟩
  clear e0 hV hth
  by_cases hc : H.length ≤ 15
  · have en : (H.length : Int) = (n : Int) := by omega
    rw [en] at CH
    have hci : (n : Int) ≤ 15 := by omega
    have hci2 : ¬ (15 : Int) < (n : Int) := by omega
    clear hn hc en hle
    go_enter Tryd.func69, Tryd.ntmps69
    go_wp2_with fail
    refine CH.mono ?_
    rintro e w1 ⟨rfl, hw1⟩
    subst w1
    go_wp2_with fail
    refine CP.mono ?_
    rintro e w1 ⟨rfl, hw1⟩
    subst w1
    go_wp2_with fail
    refine CF.mono ?_
    rintro e w1 ⟨sy, le, er, rfl, hF, hw1⟩
    subst w1
    rcases hF with ⟨s, h1, rfl, rfl, rfl⟩ | ⟨h1, h2, rfl, rfl, rfl⟩ | ⟨h1, h2, rfl, rfl, rfl⟩
    · have CT := HCT.out s h1 (HLN.out s h1).2
      have HB : Hid (Beg zs H s) := h1
      have hl0 : ¬ (ln zs s : Int) = 0 := by have := (HLN.out s h1).1; omega
      clear h1
      go_wp2_with fail
      refine CT.mono ?_
      rintro e w1 ⟨⟨x, y, rfl⟩, h3, h4⟩
      go_wp2_with fail
      go_ret3
      exact ⟨.inl ⟨s, HB.out, rfl, h3⟩, Kp.grown h4 (fun i hi => by cases hi; rfl)⟩
    · have HB : Hid ((∀ s, ¬ Beg zs H s) ∧ May zs H) := ⟨h1, h2⟩
      clear h1 h2
      go_wp2_with fail
      go_ret3
      exact ⟨.inr (.inl ⟨HB.out.1, HB.out.2, rfl, hR⟩), Kp.refl _ _⟩
    · have HB : Hid ((∀ s, ¬ Beg zs H s) ∧ ¬ May zs H) := ⟨h1, h2⟩
      clear h1 h2
      go_wp2_with fail
      go_ret3
      exact ⟨.inr (.inr ⟨HB.out.1, HB.out.2, rfl, hR⟩), Kp.refl _ _⟩
  · obtain rfl : n = 15 := by omega
    obtain ⟨m, em⟩ : ∃ m, m = H.length := ⟨_, rfl⟩
    rw [← em] at CH
    have hci : ¬ (m : Int) ≤ 15 := by omega
    have hci2 : (15 : Int) < (m : Int) := by omega
    have e15 : ((15 : Nat) : Int) = 15 := rfl
    rw [e15] at CP CF
    clear hn e15 em hc hle
    go_enter Tryd.func69, Tryd.ntmps69
    go_wp2_with fail
    refine CH.mono ?_
    rintro e w1 ⟨rfl, hw1⟩
    subst w1
    go_wp2_with fail
    refine CP.mono ?_
    rintro e w1 ⟨rfl, hw1⟩
    subst w1
    go_wp2_with fail
    refine CF.mono ?_
    rintro e w1 ⟨sy, le, er, rfl, hF, hw1⟩
    subst w1
    rcases hF with ⟨s, h1, rfl, rfl, rfl⟩ | ⟨h1, h2, rfl, rfl, rfl⟩ | ⟨h1, h2, rfl, rfl, rfl⟩
    · have CT := HCT.out s h1 (HLN.out s h1).2
      have HB : Hid (Beg zs H s) := h1
      have hl0 : ¬ (ln zs s : Int) = 0 := by have := (HLN.out s h1).1; omega
      clear h1
      go_wp2_with fail
      refine CT.mono ?_
      rintro e w1 ⟨⟨x, y, rfl⟩, h3, h4⟩
      go_wp2_with fail
      go_ret3
      exact ⟨.inl ⟨s, HB.out, rfl, h3⟩, Kp.grown h4 (fun i hi => by cases hi; rfl)⟩
    · have HB : Hid ((∀ s, ¬ Beg zs H s) ∧ May zs H) := ⟨h1, h2⟩
      clear h1 h2
      go_wp2_with fail
      go_ret3
      exact ⟨.inr (.inl ⟨HB.out.1, HB.out.2, rfl, hR⟩), Kp.refl _ _⟩
    · have HB : Hid ((∀ s, ¬ Beg zs H s) ∧ ¬ May zs H) := ⟨h1, h2⟩
      clear h1 h2
      go_wp2_with fail
      go_ret3
      exact ⟨.inr (.inr ⟨HB.out.1, HB.out.2, rfl, hR⟩), Kp.refl _ _⟩
set_option maxRecDepth 100000 in
set_option maxHeartbeats 1000000 in
theorem room8 (b n : Nat) (zs : List Int) (w : World) (h : De8 w b n zs) :
    Calls Tryd.prog 22 #[.pointer (some ⟨b, 347, none⟩)] w fun e w' => e = .returned (.int .i64 (8 * (n : Int) + 256)) ∧ w' = w := by
  obtain ⟨S, h1, h2, h3⟩ := h.row
  have c0 := h3.at_ 0 (by simp [dl])
  have e0 : (dl n zs S).getD 0 0 = (n : Int) := rfl
  rw [e0, show 347 + 0 = 347 from rfl] at c0
  have hm := h.mo
  have hn0 : ¬ (n : Int) = 0 := by omega
  clear e0
  go_enter Tryd.func22, Tryd.ntmps22
  go_wp2_with fail
  go_ret
  exact ⟨rfl, rfl⟩
end Go.Proofs.YtmddnmpldmdllaaDoor
