
import Derived.Test.YtbjjddoeilhomaaSc8
import Derived.Test.YtbjjddoeilhomaaScA
import Derived.Deep.AppendLies
import Derived.Deep.RegionLaw
namespace Go.Proofs.Ytbjjddoeilhomaa
open Go.RowKit
set_option linter.unusedVariables false

/-! The landed scan: the last step. -/
theorem info_st15 : (Try.prog.info? 39).map (fun i => (i.zero, i.size, i.bytes)) = some (some (.agg #[.int .i64 0, .int .i64 0, .int .i64 0]), 3, 24) := by kernel_rfl
def flat15 (l : List (Int × Int × Int)) : List Value := l.flatMap fun t => [.int .i64 t.1, .int .i64 t.2.1, .int .i64 t.2.2]
theorem flat15_app (l r : List (Int × Int × Int)) : flat15 (l ++ r) = flat15 l ++ flat15 r := by unfold flat15; rw [List.flatMap_append]
theorem own_kp15 {w w' : World} {S : Nat → Prop} {base n sz : Nat} {e : TypeId} {v : Value} {xs : List Value} (h : w.ownsRow base e sz v n xs) (hb : Kp S w w') (hn : ∀ x, v.ownBlock = some x → ¬ S x) : w'.ownsRow base e sz v n xs := by
  refine ⟨h.1, ?_⟩
  rcases h.2 with h | ⟨g, cap, cur, h1, h2, h3, h4⟩
  · exact .inl h
  · exact .inr ⟨g, cap, cur, h1, h2, hb.heap h3 (hn g (by rw [h1]; rfl)), h4⟩
theorem own_below15 {w w' : World} {base n sz : Nat} {e : TypeId} {v : Value} {xs : List Value} (h : w.ownsRow base e sz v n xs) (hb : Below w.heap.size w w') : w'.ownsRow base e sz v n xs := own_kp15 (S := fun _ => False) h (Kp.of_below hb) (fun _ _ e => e)
/-- The steps so far, in a row of their own. -/
structure Rw15 (w : World) (N g : Nat) (ra : Option Addr) (l rc : Nat) (T : List (Int × Int × Int)) : Prop where
  own : w.ownsRow N 39 3 (.slice ra l rc) l (flat15 T)
  ne : (Value.slice ra l rc).ownBlock ≠ some g
  len : T.length = l
theorem Rw15.old {w w' : World} {N g l rc : Nat} {ra : Option Addr} {T : List (Int × Int × Int)} (h : Rw15 w N g ra l rc T) (hb : Below w.heap.size w w') : Rw15 w' N g ra l rc T := ⟨own_below15 h.own hb, h.ne, h.len⟩
theorem Rw15.kpg {w w' : World} {N g l rc : Nat} {ra : Option Addr} {T : List (Int × Int × Int)} (h : Rw15 w N g ra l rc T) (hb : Kp (fun k => k = g) w w') : Rw15 w' N g ra l rc T := ⟨own_kp15 h.own hb (fun x e k => h.ne (by rw [e, k])), h.ne, h.len⟩
def StpQ15 (w0 : World) (g x : Nat) (za : Option Addr) (nz zc : Nat) (qa : Option Addr) (m qc en ag : Nat) (kn ar le : Value) (d b : Nat) (sh : Int) (at_ n : Nat) (sc : Int) (mk : Nat) (st : Value) (X : List (Int × Int × Int)) (w : World) (e : Ending) (w' : World) : Prop := e = .returned (.tuple #[]) ∧ ∃ ra2 l2 rc2, (Sn15 w0 w' g x za nz zc qa m qc en ag kn ar le d b sh at_ n sc mk (.slice ra2 l2 rc2)) ∧ Rw15 w' w0.heap.size g ra2 l2 rc2 X
section
variable {w0 w w' : World} {g x nz zc m qc en ag d b at_ n mk : Nat} {za qa : Option Addr} {kn ar le st : Value} {sh sc : Int} {z q : List Int}
set_option maxRecDepth 100000 in
set_option maxHeartbeats 16000000 in
theorem pstpe15 {ra : Option Addr} {l rc : Nat} {T : List (Int × Int × Int)} (h : Sn15 w0 w g x za nz zc qa m qc en ag kn ar le d b sh (m) n sc mk (.slice ra l rc)) (hz : Seg w0 za z) (hq : Seg w0 qa q) (hn : Hid (z.length = nz)) (hm : Hid (q.length = m)) (hnb : nz ≤ 16777216) (hmb : m ≤ 16777216) (hd : d ≤ m) (hb : b ≤ nz) (hrow : Rw15 w w0.heap.size g ra l rc T) (hl : l ≤ 16777217) :
    Calls Try.prog 27 #[.pointer (some ⟨g, 0, none⟩)] w (StpQ15 w0 g x za nz zc qa m qc en ag kn ar le d b sh m n sc mk (.slice ra l rc) (T ++ [lst15 z q d b]) w) := by
  obtain ⟨i0, hi, hz0, hz1, hz2⟩ := info_parts info_st15
  have hfb := fw15_bd (z := z) (q := q) (pos := b) (frm := d) (to := m) (by rw [hn.out]; exact hb) hd
  have CF := pfw15 za z nz zc (b : Int) qa q m qc (d : Int) (m : Int) w.drew ((hz.old h.bl).drewN 1) ((hq.old h.bl).drewN 1) hn hm (by omega) (by omega)
  have HLS : Hid (lst15 z q d b = (((fw15 z (b : Int) q (d : Int) (m : Int) : Nat) : Int), (m : Int) - ((d : Int) + ((fw15 z (b : Int) q (d : Int) (m : Int) : Nat) : Int)), 0)) := by show _ = _; unfold lst15; rw [hm.out]
  have HEN : Hid (∀ (W : World), Sn15 w0 W g x za nz zc qa m qc en ag kn ar le d b sh (m) n sc mk (.slice ra l rc) → Calls Try.prog 25 #[.pointer (some ⟨g, 0, none⟩)] W fun e w' => e = .returned (.bool true) ∧ ∃ k, w' = W.drewN k) := fun W hs => by
    have := pended15 hs (Nat.le_refl _) hmb
    rwa [decide_eq_true rfl] at this
  have hd1 := h.drew
  have HSD : Hid (Sn15 w0 w.drew g x za nz zc qa m qc en ag kn ar le d b sh (m) n sc mk (.slice ra l rc)) := hd1
  have HRW : Hid (Rw15 w.drew w0.heap.size g ra l rc T) := hrow.old (Below.refl _ _).drew
  have c0 := hd1.cell 0 _ rfl
  have c1 := hd1.cell 1 _ rfl
  have c9 := hd1.cell 9 _ rfl
  have c10 := hd1.cell 10 _ rfl
  have c12 := hd1.cell 12 _ rfl
  rw [hn.out] at hfb
  clear h hz hq hrow hd1
  generalize fw15 z (b : Int) q (d : Int) (m : Int) = F at *
  go_enter Try.func27, Try.ntmps27
  go_wp2_with fail
  go_region_held3 (fun W => W.cell? ⟨g, 0, none⟩ = some (.slice za nz zc) ∧ W.cell? ⟨g, 1, none⟩ = some (.slice qa m qc) ∧ W.cell? ⟨g, 9, none⟩ = some (.int .i64 (d : Int)) ∧ W.cell? ⟨g, 10, none⟩ = some (.int .i64 (b : Int)) ∧ W.cell? ⟨g, 12, none⟩ = some (.int .i64 (m : Int))) (first | exact ⟨by assumption, by assumption, by assumption, by assumption, by assumption⟩ | go_keep) (first
    | (go_at_call 17; refine CF.mono ?_; rintro e1 w1 ⟨rfl, B1⟩; have S1 := HSD.out.old B1; have x0 := S1.cell 0 _ rfl; have x1 := S1.cell 1 _ rfl; have x9 := S1.cell 9 _ rfl; have x10 := S1.cell 10 _ rfl; have x12 := S1.cell 12 _ rfl; have HS1 : Hid (Sn15 w0 w1 g x za nz zc qa m qc en ag kn ar le d b sh (m) n sc mk (.slice ra l rc)) := S1; have HR1 : Hid (Rw15 w1 w0.heap.size g ra l rc T) := HRW.out.old B1; clear S1 B1 CF))
  have CE := HEN.out w1 HS1.out
  clear c0 c1 c9 c10 c12 x0 x1 x10
  go_wp2_with (first
    | (go_at_call 25; refine CE.mono ?_; rintro e2 w2 ⟨rfl, kk, hw2⟩; have S2 := HS1.out.drewN kk; have R2 := HR1.out.old (drewN_below15 w1 kk); rw [← hw2] at S2 R2; clear hw2 CE))
  have d9 := S2.cell 9 _ rfl
  have d12 := S2.cell 12 _ rfl
  have d16 := S2.cell 16 _ rfl
  have f16 := S2.free 16
  have hltr := S2.lt
  have hown := R2.own
  have hne := R2.ne
  have hbase : w0.heap.size ≤ w2.heap.size := S2.bl.size
  have hca : ∀ o, (w2.alloc o).cell? ⟨g, 16, none⟩ = some (.slice ra l rc) := fun o => (((Below.refl w2.heap.size w2).alloc (Nat.le_refl _) o).cell (p := ⟨g, 16, none⟩) hltr).trans d16
  have hfa : ∀ o, (w2.alloc o).frozen? ⟨g, 16, none⟩ = false := fun o => (((Below.refl w2.heap.size w2).alloc (Nat.le_refl _) o).frozen (p := ⟨g, 16, none⟩) hltr).trans f16
  have HS2 : Hid (Sn15 w0 w2 g x za nz zc qa m qc en ag kn ar le d b sh (m) n sc mk (.slice ra l rc)) := S2
  have HTL : Hid (T.length = l) := R2.len
  obtain ⟨D, hD⟩ : ∃ D, D = d + F := ⟨_, rfl⟩
  obtain ⟨G, hG⟩ : ∃ G, G = m - D := ⟨_, rfl⟩
  have hDi : (d : Int) + (F : Int) = (D : Int) := by omega
  have hGi : (m : Int) - (D : Int) = (G : Int) := by omega
  have hDw : IntKind.i64.wrap ((d : Int) + (F : Int)) = (D : Int) := by rw [hDi]; exact IntWalk.i64_in _ (by omega)
  have hDw2 : IntKind.i64.wrap (D : Int) = (D : Int) := IntWalk.i64_in _ (by omega)
  have hGw : IntKind.i64.wrap ((m : Int) - (D : Int)) = (G : Int) := by rw [hGi]; exact IntWalk.i64_in _ (by omega)
  have hGw2 : IntKind.i64.wrap (G : Int) = (G : Int) := IntWalk.i64_in _ (by omega)
  have HLS2 : Hid (lst15 z q d b = ((F : Int), (G : Int), 0)) := by show _ = _; rw [HLS.out, hDi, hGi]
  clear S2 R2 HLS hD hG HS1 HR1 HSD HRW HEN
  go_wp2_with fail
  go_region_law
    (refine step_append_lies _ (by rfl) _ _ _ (by rfl) w0.heap.size 39 i0 _ 3 24 Try.underlying28 hi hz0 hz1 hz2 rfl (by omega) (.slice ra l rc) l (flat15 T) (by rfl) ((hown.alloc _).drew)
        ⟨w2.heap.size, 0, none⟩ 1 1 [.int .i64 (F : Int), .int .i64 (G : Int), .int .i64 0] (by rfl) (by rfl) (World.news_of_block (cs := #[.int .i64 (F : Int), .int .i64 (G : Int), .int .i64 0]) (t := 39) (fr := (0, 0)) (heap_alloc_new w2 _)) (by simp [Value.oneCell'])
        (by omega) (by unfold maxLen; omega) (by omega) (by simp; omega) (w2.heap.size + 1) (by simp) ?_; intro gg cap2 w3 hown2 hgrow hat hlt2
     have hx0 := (hgrow.cell_far ⟨g, 16, none⟩ (by simp; omega) (Ne.symm hne)).trans (hca _)
     have hxf := (hgrow.frozen_far ⟨g, 16, none⟩ (by simp; omega) (Ne.symm hne)).trans (hfa _))
  all_goals
    have KG := ((Kp.alloc (S := fun k => (Value.slice ra l rc).ownBlock = some k) w2 _).drew).trans (Kp.grown (S := fun k => (Value.slice ra l rc).ownBlock = some k) hgrow (fun i e => e)) (fun _ _ e => e)
    have hgg : gg ≠ g := by
      rcases hat with k | k
      · intro e; rw [e] at k; exact hne k
      · omega
    have S3 : Sn15 w0 w3 g x za nz zc qa m qc en ag kn ar le d b sh (m) n sc mk (.slice ra l rc) := ⟨HS2.out.bl.trans (KG.below (fun q e => (hown.lt q e).1) HS2.out.bl.size), HS2.out.g0, KG.heap HS2.out.hp (fun e => hne e)⟩
    have HS4 : Hid (Sn15 w0 (w3.setCell ⟨g, 16, none⟩ (.slice (some ⟨gg, 0, none⟩) (l + 1) cap2)) g x za nz zc qa m qc en ag kn ar le d b sh (m) n sc mk (.slice (some ⟨gg, 0, none⟩) (l + 1) cap2)) := S3.setSt _
    have HR4 : Hid (Rw15 (w3.setCell ⟨g, 16, none⟩ (.slice (some ⟨gg, 0, none⟩) (l + 1) cap2)) w0.heap.size g (some ⟨gg, 0, none⟩) (l + 1) cap2 (T ++ [lst15 z q d b])) := by
      refine ⟨?_, ?_, ?_⟩
      · rw [flat15_app, HLS2.out]
        exact own_kp15 hown2 (Kp.set (S := fun k => k = g) rfl _) (fun y e => by
          have : some gg = some y := e
          injection this with this
          show ¬ y = g
          omega)
      · intro e
        have : some gg = some g := e
        injection this with this
        exact hgg this
      · rw [List.length_append, HTL.out]; rfl
    clear S3 KG hown2 hgrow hat hlt2 hca hfa hown
    go_wp2_with fail
    refine bodyPost_ret (results_none rfl _ _ _) rfl ?_
    exact ⟨rfl, _, _, _, HS4.out, HR4.out⟩
end
end Go.Proofs.Ytbjjddoeilhomaa
