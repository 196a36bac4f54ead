import Derived.Test.YtmleicaalaggkabLnHeap
import Derived.Test.YtmleicaalaggkabLnInfo
import Derived.Test.YtmleicaalaggkabProg
import Derived.WalkKit
import Derived.WalkSpells
import Derived.BigQuiet
import Derived.BigRegion
import Derived.Laws.Rows
import Derived.Deep.QuietTactic
import Derived.Deep.RegionLaw
import Derived.Deep.AppendLies
namespace Go.Proofs.Ytmleicaalaggkab
open Go.RowKit
set_option linter.unusedVariables false

theorem run_nilchk (ats : Array TypeId) (ty : TypeId) (a : Addr) (s m : ByteArray) (P : Program) (w : World) : (Builtin.ssaWrapNilChk_ ats ty #[.pointer (some a), .string s, .string m]).run P w = .ok (.pointer (some a)) w := rfl
theorem mt {name : String} {f : Nat} (hm : ((Try.prog.info? 46).bind fun i => (i.methods.find? (·.name == name)).map fun m => (m.path.toList, m.func)) = some ([], some (f, false)))
   (w : World) (p : Nat) (v : Value) (hc : w.heap[p]? = some (.cells #[v] 44 (0, 0))) (hv : ∃ a n c, v = .slice a n c) :
   (method 185 46 (.pointer (some ⟨p, 0, none⟩)) name).run Try.prog w = .ok (f, v) w := by
  obtain ⟨a, n, c, rfl⟩ := hv
  cases hi : Try.prog.info? 46 with
  | none => simp [hi] at hm
  | some i =>
    rw [hi] at hm
    simp only [Option.bind_some, Option.map_eq_some_iff] at hm
    obtain ⟨m, hf, hm⟩ := hm
    simp only [Prod.mk.injEq] at hm
    unfold method
    simp only [typeInfo, Sem.run_bind, run_program, Result.andThen_ok, hi, hf, Sem.run_pure, hm.1, hm.2, follow, receiverAt]
    rw [run_underlying Try.underlying46 w]
    have hl : (loadVar 44 ⟨p, 0, none⟩).run Try.prog w = .ok (.slice a n c) w := by
      have hc0 : w.cell? ⟨p, 0, none⟩ = some (.slice a n c) := by simp [World.cell?, hc]
      have hagg : (isAgg 44).run Try.prog w = .ok false w := by
        unfold isAgg
        rw [Sem.run_bind, run_underlying Try.underlying44 w]
        simp
      simp [loadVar, Sem.run_bind, hagg, hc0]
    simp only [Result.andThen_ok, Sem.run_bind, Place.get, Sem.run_pure]
    split
    · simp only [strVal, run_nilchk, Sem.run_bind, Sem.run_pure, Result.andThen_ok, asAddr, hl]
    · simp only [Sem.run_bind, Sem.run_pure, Result.andThen_ok, asAddr, hl]
theorem mtp {name : String} {f : Nat} (hm : ((Try.prog.info? 46).bind fun i => (i.methods.find? (·.name == name)).map fun m => (m.path.toList, m.func)) = some ([], some (f, true)))
   (w : World) (p : Nat) : (method 185 46 (.pointer (some ⟨p, 0, none⟩)) name).run Try.prog w = .ok (f, .pointer (some ⟨p, 0, none⟩)) w := by
  cases hi : Try.prog.info? 46 with
  | none => simp [hi] at hm
  | some i =>
    rw [hi] at hm
    simp only [Option.bind_some, Option.map_eq_some_iff] at hm
    obtain ⟨m, hf, hm⟩ := hm
    simp only [Prod.mk.injEq] at hm
    unfold method
    simp only [typeInfo, Sem.run_bind, run_program, Result.andThen_ok, hi, hf, Sem.run_pure, hm.1, hm.2, follow, receiverAt]
    rw [run_underlying Try.underlying46 w]
    simp only [Result.andThen_ok, Place.get, Sem.run_pure]

@[go_sem] theorem run_assert_int (v : Value) (w : World) : (Instr.typeAssert (.iface 3 v) 20 3 false).run Try.prog w = .ok v w := by
  unfold Instr.typeAssert
  rw [Sem.run_bind, run_underlying Try.underlying3 w]
  simp
theorem own_trunc {w : World} {base n g cap : Nat} {e : TypeId} {xs : List Value} (h : w.ownsRow base e 1 (.slice (some ⟨g, 0, none⟩) n cap) n xs) (m : Nat) (hm : m ≤ n) : w.ownsRow base e 1 (.slice (some ⟨g, 0, none⟩) m cap) m (xs.take m) := by
  have hl := h.1
  rcases h.2 with ⟨h1, _⟩ | ⟨g', cap', cur, hv, hg, hh, h3, h4, h5, h6⟩
  · cases h1
  · refine ⟨by simp; omega, .inr ⟨g', cap', cur, ?_, hg, hh, (by omega : m ≤ cap'), h4, h5, ?_⟩⟩
    · simp only [Value.slice.injEq] at hv ⊢
      exact ⟨hv.1, trivial, hv.2.2⟩
    · rw [← h6, List.take_take]
      congr 1
      omega

/-- The weights: a variable in block p that holds a row of numbers, which lies behind p. -/
structure Pile (w : World) (p : Nat) (a : Option Addr) (cap : Nat) (zs : List Int) : Prop where
  cell : w.heap[p]? = some (.cells #[.slice a zs.length cap] 44 (0, 0))
  own : w.ownsRow (p + 1) 3 1 (.slice a zs.length cap) zs.length (zs.map (Value.int .i64))
  bd : ∀ z ∈ zs, 0 ≤ z ∧ z ≤ 4611686018427387904
theorem Pile.drewN {w : World} {p : Nat} {a : Option Addr} {cap : Nat} {zs : List Int} (h : Pile w p a cap zs) (n : Nat) : Pile (w.drewN n) p a cap zs := ⟨h.cell, h.own, h.bd⟩
theorem Pile.drew {w : World} {p : Nat} {a : Option Addr} {cap : Nat} {zs : List Int} (h : Pile w p a cap zs) : Pile w.drew p a cap zs := ⟨h.cell, h.own, h.bd⟩
theorem Pile.seg {w : World} {p : Nat} {a : Option Addr} {cap : Nat} {zs : List Int} (h : Pile w p a cap zs) : SegZ w a zs := own_segZ h.own (fun z hz => by have := h.bd z hz; omega)
theorem Pile.m {w : World} {p : Nat} {a : Option Addr} {cap : Nat} {zs : List Int} (h : Pile w p a cap zs) {name : String} {f : Nat} (hm : ((Try.prog.info? 46).bind fun i => (i.methods.find? (·.name == name)).map fun m => (m.path.toList, m.func)) = some ([], some (f, false))) :
    (method 185 46 (.pointer (some ⟨p, 0, none⟩)) name).run Try.prog w = .ok (f, .slice a zs.length cap) w := mt hm w p _ h.cell ⟨_, _, _, rfl⟩
theorem m_len : ((Try.prog.info? 46).bind fun i => (i.methods.find? (·.name == "Len")).map fun m => (m.path.toList, m.func)) = some ([], some (54, false)) := by kernel_rfl
theorem m_less : ((Try.prog.info? 46).bind fun i => (i.methods.find? (·.name == "Less")).map fun m => (m.path.toList, m.func)) = some ([], some (55, false)) := by kernel_rfl
theorem m_swap : ((Try.prog.info? 46).bind fun i => (i.methods.find? (·.name == "Swap")).map fun m => (m.path.toList, m.func)) = some ([], some (56, false)) := by kernel_rfl
theorem m_pop : ((Try.prog.info? 46).bind fun i => (i.methods.find? (·.name == "Pop")).map fun m => (m.path.toList, m.func)) = some ([], some (57, true)) := by kernel_rfl
theorem m_push : ((Try.prog.info? 46).bind fun i => (i.methods.find? (·.name == "Push")).map fun m => (m.path.toList, m.func)) = some ([], some (58, true)) := by kernel_rfl

theorem plen_any (a : Option Addr) (n cap : Nat) (w : World) : Calls Try.prog 54 #[.slice a n cap] w fun e w' => e = .returned (.int .i64 n) ∧ w' = w := by
  go_enter Try.func54, Try.ntmps54
  go_wp2
  go_ret
  exact ⟨rfl, rfl⟩
theorem pless_any (a : Option Addr) (cap : Nat) (zs : List Int) (n i j : Nat) (hn : Hid (zs.length = n)) (w : World) (hs : SegZ w a zs) (hi : i < n) (hj : j < n) (hl : n ≤ 9223372036854775807) :
    Calls Try.prog 55 #[.slice a n cap, .int .i64 i, .int .i64 j] w fun e w' => e = .returned (.bool (decide (zs.getD i 0 < zs.getD j 0))) ∧ ∃ k, w' = w.drewN k := by
  obtain ⟨b, o, rfl, c1⟩ := hs.at_ i (by have := hn.out; omega)
  obtain ⟨b', o', e, c2⟩ := hs.at_ j (by have := hn.out; omega)
  cases e
  generalize zs.getD i 0 = x at *
  generalize zs.getD j 0 = y at *
  go_enter Try.func55, Try.ntmps55
  go_wp2_with fail
  go_region
  go_wp2
  go_ret
  exact ⟨rfl, 1, rfl⟩

set_option maxHeartbeats 1000000 in
theorem pswap_any (g base cap : Nat) (zs : List Int) (n i j : Nat) (hn : Hid (zs.length = n)) (w : World) (ho : w.ownsRow base 3 1 (.slice (some ⟨g, 0, none⟩) n cap) n (zs.map (Value.int .i64))) (hi : i < n) (hj : j < n) (hij : i ≠ j) (hl : n ≤ 9223372036854775807) :
    Calls Try.prog 56 #[.slice (some ⟨g, 0, none⟩) n cap, .int .i64 i, .int .i64 j] w fun e w' => e = .returned (.tuple #[]) ∧ w'.ownsRow base 3 1 (.slice (some ⟨g, 0, none⟩) n cap) n ((swp zs i j).map (Value.int .i64)) ∧ w.grownBy w' (some g) := by
  obtain ⟨x, hx⟩ : ∃ x, x = zs.getD i 0 := ⟨_, rfl⟩
  obtain ⟨y, hy⟩ : ∃ y, y = zs.getD j 0 := ⟨_, rfl⟩
  have c1 : w.cell? ⟨g, i, none⟩ = some (.int .i64 x) := by
    have := ho.cells (g := g) rfl i (.int .i64 x) (by have := hn.out; simp [hx, List.getD, show i < zs.length by omega])
    have hadd : (⟨g, 0, none⟩ : Addr).add i = ⟨g, i, none⟩ := by unfold Addr.add; split <;> simp_all
    rwa [hadd] at this
  have c2 : w.cell? ⟨g, j, none⟩ = some (.int .i64 y) := by
    have := ho.cells (g := g) rfl j (.int .i64 y) (by have := hn.out; simp [hy, List.getD, show j < zs.length by omega])
    have hadd : (⟨g, 0, none⟩ : Addr).add j = ⟨g, j, none⟩ := by unfold Addr.add; split <;> simp_all
    rwa [hadd] at this
  have HS : Hid (swp zs i j = (zs.set i y).set j x) := by show _ = _; rw [hx, hy]; rfl
  have HF : Hid (∀ k, w.frozen? ⟨g, k, none⟩ = false) := by
    intro k
    rcases ho.2 with ⟨h1, _⟩ | ⟨g', cap', cur, hv, _, hh, _⟩
    · cases h1
    · simp only [Value.slice.injEq, Option.some.injEq, Addr.mk.injEq] at hv
      obtain ⟨⟨rfl, _⟩, _⟩ := hv
      simp [World.frozen?, hh]
  have f1 := HF.out i
  have f2 := HF.out j
  clear hx hy
  go_enter Try.func56, Try.ntmps56
  go_wp2_with fail
  go_region
  go_end0
  obtain ⟨o1, g1⟩ := ho.stored i (.int .i64 y)
  rw [← List.map_set] at o1
  obtain ⟨o2, g2⟩ := o1.stored j (.int .i64 x)
  rw [← List.map_set, ← HS.out] at o2
  exact ⟨rfl, o2, grownBy_drew (grownBy_trans g1 g2)⟩

set_option maxHeartbeats 1000000 in
theorem ppop_any (p g cap : Nat) (zs : List Int) (n : Nat) (hn : Hid (zs.length = n + 1)) (w : World) (h : Pile w p (some ⟨g, 0, none⟩) cap zs) (hl : n ≤ 9223372036854775800) (hc : n + 1 ≤ cap) :
    Calls Try.prog 57 #[.pointer (some ⟨p, 0, none⟩)] w fun e w' => e = .returned (.iface 3 (.int .i64 (zs.getD n 0))) ∧ Pile w' p (some ⟨g, 0, none⟩) cap (zs.take n) ∧ Below p w w' := by
  have hcell : w.cell? ⟨p, 0, none⟩ = some (.slice (some ⟨g, 0, none⟩) (n + 1) cap) := by simp [World.cell?, h.cell, hn.out]
  have hfz : w.frozen? ⟨p, 0, none⟩ = false := by simp [World.frozen?, h.cell]
  obtain ⟨x, hx⟩ : ∃ x, x = zs.getD n 0 := ⟨_, rfl⟩
  have c1 : w.cell? ⟨g, n, none⟩ = some (.int .i64 x) := by
    have := h.own.cells (g := g) rfl n (.int .i64 x) (by have := hn.out; simp [hx, List.getD, show n < zs.length by omega])
    have hadd : (⟨g, 0, none⟩ : Addr).add n = ⟨g, n, none⟩ := by unfold Addr.add; split <;> simp_all
    rwa [hadd] at this
  have HX : Hid (x = zs.getD n 0) := hx
  have hci : (n : Int) ≤ (cap : Int) := by omega
  clear hx
  go_enter Try.func57, Try.ntmps57
  go_wp2_with fail
  go_ret
  have hle : Below p w (w.setCell ⟨p, 0, none⟩ (.slice (some ⟨g, 0, none⟩) n cap)) := below_of_grown (grownBy_set (World.grownBy.refl _ _) _) (Nat.le_refl _) (Nat.le_of_lt (Array.getElem?_eq_some_iff.1 h.cell).1)
  have hgr : w.grownBy (w.setCell ⟨p, 0, none⟩ (.slice (some ⟨g, 0, none⟩) n cap)) (some p) := grownBy_set (World.grownBy.refl _ _) _
  have ht : (zs.take n).length = n := by have := hn.out; simp; omega
  refine ⟨by rw [HX.out]; rfl, ⟨?_, ?_, fun z hz => h.bd z (List.mem_of_mem_take hz)⟩, hle⟩
  · rw [ht]
    simp [World.setCell, Array.getElem?_modify, h.cell]
  · rw [ht]
    have h1 := own_trunc h.own n (by have := hn.out; omega)
    rw [← List.map_take] at h1
    have hpg : some p ≠ some g := by
      intro e
      have := (h1.lt g rfl).1
      simp at e
      omega
    exact h1.kept hgr (.inr (fun e => hpg e.symm))

theorem pile_pushed {w w1 w2 : World} {p cap n gg cap2 : Nat} {a : Option Addr} {zs : List Int} {x : Int} (hn : Hid (zs.length = n)) (h : Pile w p a cap zs) (hx : 0 ≤ x ∧ x ≤ 4611686018427387904)
    (hb1 : Below w.heap.size w w1) (hgrow : w1.grownBy w2 (Value.slice a n cap).ownBlock) (hne : (Value.slice a n cap).ownBlock ≠ some p)
    (hown2 : w2.ownsRow (p + 1) 3 1 (.slice (some ⟨gg, 0, none⟩) (n + 1) cap2) (n + 1) (zs.map (Value.int .i64) ++ [.int .i64 x])) :
    Pile (w2.setCell ⟨p, 0, none⟩ (.slice (some ⟨gg, 0, none⟩) (n + 1) cap2)) p (some ⟨gg, 0, none⟩) cap2 (zs ++ [x]) ∧ Below p w (w2.setCell ⟨p, 0, none⟩ (.slice (some ⟨gg, 0, none⟩) (n + 1) cap2)) := by
  have hltp : p < w.heap.size := (Array.getElem?_eq_some_iff.1 h.cell).1
  have hlen : (zs ++ [x]).length = n + 1 := by have := hn.out; simp; omega
  have h1 : w1.heap[p]? = some (.cells #[.slice a zs.length cap] 44 (0, 0)) := by rw [hb1.block p hltp]; exact h.cell
  have hs1 : p < w1.heap.size := Nat.lt_of_lt_of_le hltp hb1.size
  have h2 : w2.heap[p]? = some (.cells #[.slice a zs.length cap] 44 (0, 0)) := by rw [hgrow.block p hs1 (Ne.symm hne)]; exact h1
  have hs2 : p < w2.heap.size := Nat.lt_of_lt_of_le hs1 hgrow.size
  have hgr : w2.grownBy (w2.setCell ⟨p, 0, none⟩ (.slice (some ⟨gg, 0, none⟩) (n + 1) cap2)) (some p) := grownBy_set (World.grownBy.refl _ _) _
  have hpo : ∀ k, (Value.slice a n cap).ownBlock = some k → p < k := by
    intro k e
    have := h.own
    rw [hn.out] at this
    have := (this.lt k e).1
    omega
  refine ⟨⟨?_, ?_, ?_⟩, ?_⟩
  · rw [hlen]
    simp [World.setCell, Array.getElem?_modify, h2]
  · rw [hlen, List.map_append]
    exact hown2.kept hgr (.inr (by intro e; have := (hown2.lt gg rfl).1; simp [Value.ownBlock] at e; omega))
  · intro z hz
    rcases List.mem_append.1 hz with hz | hz
    · exact h.bd z hz
    · simp at hz; omega
  · refine ((hb1.mono (Nat.le_of_lt hltp)).trans ((Below.refl p w1).grown hgrow (Nat.le_of_lt hs1) (fun k hk => Nat.le_of_lt (hpo k hk)))).trans ?_
    exact below_of_grown hgr (Nat.le_refl _) (Nat.le_of_lt hs2)

set_option maxHeartbeats 1000000 in
theorem ppush_any (p cap : Nat) (a : Option Addr) (zs : List Int) (n : Nat) (x : Int) (hn : Hid (zs.length = n)) (w : World) (h : Pile w p a cap zs) (hl : n ≤ 1000) (hx : 0 ≤ x ∧ x ≤ 4611686018427387904) :
    Calls Try.prog 58 #[.pointer (some ⟨p, 0, none⟩), .iface 3 (.int .i64 x)] w fun e w' => e = .returned (.tuple #[]) ∧ ∃ g cap', Pile w' p (some ⟨g, 0, none⟩) cap' (zs ++ [x]) ∧ Below p w w' := by
  have hcell : w.cell? ⟨p, 0, none⟩ = some (.slice a n cap) := by simp [World.cell?, h.cell, hn.out]
  have hfz : w.frozen? ⟨p, 0, none⟩ = false := by simp [World.frozen?, h.cell]
  obtain ⟨i0, hi, hz0, hz1, hz2⟩ := info_parts info_int
  have hltp : p < w.heap.size := (Array.getElem?_eq_some_iff.1 h.cell).1
  have hfa : ∀ o, (w.alloc o).frozen? ⟨p, 0, none⟩ = false := fun o => (((Below.refl w.heap.size w).alloc (Nat.le_refl _) o).frozen (p := ⟨p, 0, none⟩) hltp).trans hfz
  have hca : ∀ o, (w.alloc o).cell? ⟨p, 0, none⟩ = some (.slice a n cap) := fun o => (((Below.refl w.heap.size w).alloc (Nat.le_refl _) o).cell (p := ⟨p, 0, none⟩) hltp).trans hcell
  have hown1 : w.ownsRow (p + 1) 3 1 (.slice a n cap) n (zs.map (Value.int .i64)) := by have := h.own; rwa [hn.out] at this
  have hne : (Value.slice a n cap).ownBlock ≠ some p := by
    intro e
    have := (hown1.lt p e).1
    omega
  have HC : Hid (w.heap[p]? = some (.cells #[.slice a n cap] 44 (0, 0))) := by have := h.cell; rw [hn.out] at this; exact this
  go_enter Try.func58, Try.ntmps58
  go_wp2_with fail
  go_region_law
    (refine step_append_lies _ (by rfl) _ _ _ (by rfl) (p + 1) 3 i0 _ 1 8 Try.underlying44 hi hz0 hz1 hz2 rfl (by omega) (.slice a n cap) n (zs.map (Value.int .i64)) (by rfl) ((hown1.alloc _).drew)
        ⟨w.heap.size, 0, none⟩ 1 1 [.int .i64 x] (by rfl) (by rfl) (World.news_of_block (cs := #[.int .i64 x]) (t := 3) (fr := (0, 0)) (heap_alloc_new w _)) (by simp [Value.oneCell'])
        (by omega) (by unfold maxLen; omega) (by omega) (by simp; omega) (w.heap.size + 1) (by simp) ?_; intro gg cap2 w2 hown2 hgrow hat hlt2
     have hx0 := (hgrow.cell_far ⟨p, 0, none⟩ (by simp; omega) (Ne.symm hne)).trans (hca _)
     have hxf := (hgrow.frozen_far ⟨p, 0, none⟩ (by simp; omega) (Ne.symm hne)).trans (hfa _))
  all_goals
    go_end0
    exact ⟨rfl, gg, cap2, pile_pushed hn h hx (((Below.refl _ _).alloc (Nat.le_refl _) _).drew) hgrow hne hown2⟩
end Go.Proofs.Ytmleicaalaggkab
