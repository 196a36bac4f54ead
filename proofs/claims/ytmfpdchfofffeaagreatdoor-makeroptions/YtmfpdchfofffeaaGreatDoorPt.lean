import Derived.Test.YtmfpdchfofffeaaGreatDoorPj
import Derived.Test.YtmfpdchfofffeaaGreatDoorPk
import Derived.Test.YtmfpdchfofffeaaGreatDoorPo
import Derived.Test.YtmfpdchfofffeaaGreatDoorPs
namespace Go.Proofs.YtmfpdchfofffeaaGreatDoor
open Go.RowKit Go.Shelf
set_option linter.unusedVariables false
set_option linter.unusedSimpArgs false
theorem Hid.mk20 {p : Prop} (h : p) : Hid p := h
theorem tab20 {w V : World} {b : Nat} (ht : Tab w) (hk : Kp (fun k => k = b) w V) (hb : b ≠ 0) : Tab V := SegK.kp ht hk (fun x off e hp y => by
  have y : x = b := y
  injection e with e
  injection e with e1
  omega)
def mk20 (o0 o1 o2 o3 o4 gv rd c0 c1 c2 h0 h1 h2 h3 h4 h5 wn pt : Value) : Array Value := #[o0, o1, o2, o3, o4, .slice none 0 0, .int .i64 0, .slice none 0 0, .slice none 0 0, gv, rd, c0, c1, c2, h0, h1, h2, h3, h4, h5, wn, pt]
def Ma20 (V : World) (b : Nat) (cs : Array Value) : Prop := V.heap[b]? = some (.cells cs 56 (0, 0))
theorem Ma20.old {V V' : World} {b : Nat} {cs : Array Value} (h : Ma20 V b cs) (hb : Below V.heap.size V V') : Ma20 V' b cs := (hb.block _ (Array.getElem?_eq_some_iff.1 h).1).trans h
theorem Ma20.c {V : World} {b i : Nat} {cs : Array Value} {v : Value} (h : Ma20 V b cs) (hv : cs[i]? = some v) : V.cell? ⟨b, i, none⟩ = some v := cell18 h hv
theorem Ma20.f {V : World} {b i : Nat} {cs : Array Value} (h : Ma20 V b cs) : V.frozen? ⟨b, i, none⟩ = false := by unfold Ma20 at h; simp [World.frozen?, h]
theorem Ma20.set {V : World} {b i : Nat} {cs : Array Value} (h : Ma20 V b cs) (v : Value) : Ma20 (V.setCell ⟨b, i, none⟩ v) b (cs.setIfInBounds i v) := by
  unfold Ma20 at h ⊢
  simp [World.setCell, Array.getElem?_modify, h]
set_option maxRecDepth 100000 in
theorem pbnd20 (b : Nat) (cs : Array Value) (w : World) (h : Ma20 w b cs) (h7 : cs[7]? = some (.slice none 0 0)) (h8 : cs[8]? = some (.slice none 0 0)) :
    Calls Tryz.prog 14 #[.pointer (some ⟨b, 0, none⟩)] w fun e w' => e = .returned (.tuple #[]) ∧ w' = w := by
  have c7 := h.c h7
  have c8 := h.c h8
  have M := pmus20 (.int .i64 201) w
  clear h h7 h8
  go_enter Tryz.func14, Tryz.ntmps14
  go_wp2_with fail
  refine M.mono ?_
  rintro e1 w1 ⟨rfl, hw1⟩
  subst w1
  go_wp2
  go_end0
  exact ⟨rfl, rfl⟩
theorem op20_good : op20 64 100 10 100 = 0 := by decide
set_option maxRecDepth 100000 in
theorem palw20 (b : Nat) (gv rd c0 c1 c2 h0 h1 h2 h3 h4 h5 wn pt : Value) (w : World) (h : Ma20 w b (mk20 (.int .i64 64) (.int .i64 100) (.int .i64 10) (.bool false) (.int .i64 100) gv rd c0 c1 c2 h0 h1 h2 h3 h4 h5 wn pt)) :
    Calls Tryz.prog 15 #[.pointer (some ⟨b, 0, none⟩)] w fun e w' => e = .returned (.tuple #[]) ∧ Below w.heap.size w w' := by
  have e0 := h.c (i := 0) rfl
  have e1 := h.c (i := 1) rfl
  have e2 := h.c (i := 2) rfl
  have e3 := h.c (i := 3) rfl
  have e4 := h.c (i := 4) rfl
  have O : Hid (Calls Tryz.prog 7 #[.agg #[.int .i64 64, .int .i64 100, .int .i64 10, .bool false, .int .i64 100]] w fun e w' => e = .returned (.int .i64 0) ∧ Below w.heap.size w w') := by
    have := pops20 64 100 10 false 100 w
    rw [op20_good] at this
    exact this
  clear h
  go_enter Tryz.func15, Tryz.ntmps15
  go_wp2_with fail
  refine O.out.mono ?_
  rintro e1 w1 ⟨rfl, b1⟩
  go_wp2_with fail
  refine (ppas20 w1).mono ?_
  rintro e2 w2 ⟨rfl, hw2⟩
  subst w2
  go_wp2
  go_end0
  exact ⟨rfl, b1⟩
theorem psum20 (x : Nat) (t : TypeId) (w : World) (ht : Tab w) (h : w.heap[x]? = some (.cells #[.slice none 0 0] t (0, 0))) :
    Calls Tryz.prog 28 #[.slice (some ⟨x, 0, none⟩) 1 1] w fun e w' => e = .returned (.int .u32 0) ∧ w' = w := by
  have hp : Parts w (some ⟨x, 0, none⟩) [⟨none, [], 0⟩] := by
    refine ⟨fun i hi => ⟨x, 0, rfl, ?_⟩, fun i hi => ?_, fun i hi => ?_⟩ <;> (obtain rfl : i = 0 := by simpa using hi)
    · exact cell18 h rfl
    · exact SegK.nil (by decide) w none
    · decide
  have := sum_any (some ⟨x, 0, none⟩) [⟨none, [], 0⟩] 1 w ht hp (by simp)
  rw [flat_one, none_sum] at this
  exact this

set_option maxRecDepth 100000 in
set_option maxHeartbeats 16000000 in
theorem pscn20 (b : Nat) (o0 o1 o2 o3 o4 : Value) (w : World) (ht : Tab w) (hb0 : b ≠ 0) (h : Ma20 w b (mk20 o0 o1 o2 o3 o4 (.slice none 0 0) (.slice none 0 0) (.slice none 0 0) (.slice none 0 0) (.slice none 0 0) (.int .i64 0) (.int .i64 0) (.int .u32 0) (.int .u32 0) (.int .i64 0) (.int .i64 0) (.slice none 0 0) (.slice none 0 0))) :
    Calls Tryz.prog 16 #[.pointer (some ⟨b, 0, none⟩)] w fun e w' => e = .returned (.tuple #[]) ∧ (∃ ga gx, Ma20 w' b (mk20 o0 o1 o2 o3 o4 (.slice none 0 0) (.slice none 0 0) (.slice none 0 0) (.slice (some ⟨ga, 0, none⟩) 0 0) (.slice (some ⟨gx, 0, none⟩) 0 0) (.int .i64 0) (.int .i64 0) (.int .u32 0) (.int .u32 0) (.int .i64 0) (.int .i64 0) (.slice none 0 0) (.slice none 0 0))) ∧ Kp (fun k => k = b) w w' := by
  have HT : Hid (Tab w ∧ b ≠ 0) := ⟨ht, hb0⟩
  have HM : Hid (∀ V, Kp (fun k => k = b) w V → Tab V) := fun V hV => tab20 ht hV hb0
  obtain ⟨G, hG⟩ : ∃ G, G = mk20 o0 o1 o2 o3 o4 (.slice none 0 0) (.slice none 0 0) (.slice none 0 0) (.slice none 0 0) (.slice none 0 0) (.int .i64 0) (.int .i64 0) (.int .u32 0) (.int .u32 0) (.int .i64 0) (.int .i64 0) (.slice none 0 0) (.slice none 0 0) := ⟨_, rfl⟩
  have g7 : G[7]? = some (.slice none 0 0) := by rw [hG]; rfl
  have g8 : G[8]? = some (.slice none 0 0) := by rw [hG]; rfl
  have gq : ((((((G.setIfInBounds 14 (.int .i64 0)).setIfInBounds 15 (.int .i64 0)).setIfInBounds 16 (.int .u32 0)).setIfInBounds 17 (.int .u32 0)).setIfInBounds 18 (.int .i64 0)).setIfInBounds 19 (.int .i64 0)) = G := by rw [hG]; rfl
  have g14 : ∀ i v, (i = 14 ∨ i = 15 ∨ i = 18 ∨ i = 19) → v = Value.int .i64 0 → G[i]? = some v := by
    rintro i v (rfl | rfl | rfl | rfl) rfl <;> (rw [hG]; rfl)
  have g16 : ∀ i v, (i = 16 ∨ i = 17) → v = Value.int .u32 0 → G[i]? = some v := by
    rintro i v (rfl | rfl) rfl <;> (rw [hG]; rfl)
  have g11 : ∀ i, (i = 11 ∨ i = 12 ∨ i = 13) → G[i]? = some (.slice none 0 0) := by
    rintro i (rfl | rfl | rfl) <;> (rw [hG]; rfl)
  have gc : ∀ x y z : Value, ((G.setIfInBounds 11 x).setIfInBounds 12 y).setIfInBounds 13 z = mk20 o0 o1 o2 o3 o4 (.slice none 0 0) (.slice none 0 0) x y z (.int .i64 0) (.int .i64 0) (.int .u32 0) (.int .u32 0) (.int .i64 0) (.int .i64 0) (.slice none 0 0) (.slice none 0 0) := fun x y z => by rw [hG]; rfl
  rw [← hG] at h
  have HG : Hid ((∀ i v, (i = 14 ∨ i = 15 ∨ i = 18 ∨ i = 19) → v = Value.int .i64 0 → G[i]? = some v) ∧ (∀ i v, (i = 16 ∨ i = 17) → v = Value.int .u32 0 → G[i]? = some v) ∧ (∀ i, (i = 11 ∨ i = 12 ∨ i = 13) → G[i]? = some (.slice none 0 0))) := ⟨g14, g16, g11⟩
  have HGQ : Hid (((((((G.setIfInBounds 14 (.int .i64 0)).setIfInBounds 15 (.int .i64 0)).setIfInBounds 16 (.int .u32 0)).setIfInBounds 17 (.int .u32 0)).setIfInBounds 18 (.int .i64 0)).setIfInBounds 19 (.int .i64 0)) = G) := gq
  have HGC : Hid (∀ x y z : Value, ((G.setIfInBounds 11 x).setIfInBounds 12 y).setIfInBounds 13 z = mk20 o0 o1 o2 o3 o4 (.slice none 0 0) (.slice none 0 0) x y z (.int .i64 0) (.int .i64 0) (.int .u32 0) (.int .u32 0) (.int .i64 0) (.int .i64 0) (.slice none 0 0) (.slice none 0 0)) := gc
  have HS : Hid (∀ V, Ma20 V b G → V.cell? ⟨b, 7, none⟩ = some (.slice none 0 0) ∧ V.cell? ⟨b, 8, none⟩ = some (.slice none 0 0)) := fun V hV => ⟨hV.c g7, hV.c g8⟩
  have HH : Hid (Ma20 w b G) := h
  clear hG g7 g8 gq g14 g16 g11 gc h ht hb0
  go_enter Tryz.func16, Tryz.ntmps16
  go_wp2_with fail

  refine Code.wp_mono (Q := (fun x a V => x = Exit.normal ∧ ∃ x y : Nat, a = { tmps := #[Value.pointer (some ⟨b, 0, none⟩), undef, undef, Value.pointer (some ⟨b, 0, none⟩), Value.pointer (some ⟨b, 0, none⟩), Value.pointer (some ⟨b, 0, none⟩), Value.pointer (some ⟨b, 7, none⟩), Value.slice none 0 0, Value.int .i64 0, Value.pointer (some ⟨b, 0, none⟩), Value.pointer (some ⟨b, 0, none⟩), Value.pointer (some ⟨b, 8, none⟩), Value.slice none 0 0, Value.int .i64 0, Value.pointer (some ⟨b, 0, none⟩), Value.pointer (some ⟨b, 0, none⟩), Value.pointer (some ⟨b, 7, none⟩), Value.slice none 0 0, Value.slice (some ⟨x, 0, none⟩) 1 1, Value.int .u32 0, Value.pointer (some ⟨b, 0, none⟩), Value.pointer (some ⟨b, 0, none⟩), Value.pointer (some ⟨b, 8, none⟩), Value.slice none 0 0, Value.slice (some ⟨y, 0, none⟩) 1 1, Value.int .u32 0, Value.agg #[.int .i64 0, .int .i64 0, .int .u32 0, .int .u32 0, .int .i64 0, .int .i64 0], Value.pointer (some ⟨b, 0, none⟩), Value.pointer (some ⟨b, 14, none⟩), Value.pointer (some ⟨b, 14, none⟩), undef, undef, undef, undef, undef, undef, undef, undef, undef, undef, undef, undef, undef, undef, undef, undef, undef, undef, undef, undef, undef, undef, undef, undef, undef, undef, undef, undef, undef, undef, undef, undef], defers := [] } ∧ Ma20 V b G ∧ Kp (fun k => k = b) w V)) ?_ ?_
  rotate_left
  · obtain ⟨W0, hW0⟩ : ∃ W0, W0 = w.drew := ⟨_, rfl⟩
    have mW0 : Ma20 W0 b G := by rw [hW0]; exact HH.out
    have kW0 : Kp (fun k => k = b) w W0 := by rw [hW0]; exact (Kp.refl _ _).drew
    refine plain_region16 (fun V => V.cell? ⟨b, 7, none⟩ = some (.slice none 0 0) ∧ V.cell? ⟨b, 8, none⟩ = some (.slice none 0 0)) 28 (by kernel_rfl) (by rw [← hW0]; exact HS.out _ mW0) (fun hHeld => ?_)
    rw [← hW0] at hHeld ⊢
    clear hW0
    refine wpAnyK_take (i := 0) (v := .pointer (some ⟨b, 0, none⟩)) rfl (by kernel_rfl) (by kernel_rfl) (by kernel_rfl) (by kernel_rfl) (fun _ _ _ h => nomatch h.1) (Or.inl ⟨by rfl, fun w hSw => by go_simp⟩) hHeld ?_
    simp only [List.getElem_toArray, List.getElem_cons_zero, Act.put, List.setIfInBounds_toArray, List.set_cons_zero, List.set_cons_succ]
    refine wpAnyK_take (i := 1) (v := .pointer (some ⟨b, 0, none⟩)) rfl (by kernel_rfl) (by kernel_rfl) (by kernel_rfl) (by kernel_rfl) (fun _ _ _ h => nomatch h.1) (Or.inl ⟨by rfl, fun w hSw => by go_simp⟩) hHeld ?_
    simp only [List.getElem_toArray, List.getElem_cons_zero, List.getElem_cons_succ, Act.put, List.setIfInBounds_toArray, List.set_cons_zero, List.set_cons_succ]
    refine wpAnyK_take (i := 2) (v := .pointer (some ⟨b, 0, none⟩)) rfl (by kernel_rfl) (by kernel_rfl) (by kernel_rfl) (by kernel_rfl) (fun _ _ _ h => nomatch h.1) (Or.inl ⟨by rfl, fun w hSw => by go_simp⟩) hHeld ?_
    simp only [List.getElem_toArray, List.getElem_cons_zero, List.getElem_cons_succ, Act.put, List.setIfInBounds_toArray, List.set_cons_zero, List.set_cons_succ]
    refine wpAnyK_take (i := 3) (v := .pointer (some ⟨b, 7, none⟩)) rfl (by kernel_rfl) (by kernel_rfl) (by kernel_rfl) (by kernel_rfl) (fun _ _ _ h => nomatch h.1) (Or.inl ⟨by rfl, fun w hSw => by go_simp⟩) hHeld ?_
    simp only [List.getElem_toArray, List.getElem_cons_zero, List.getElem_cons_succ, Act.put, List.setIfInBounds_toArray, List.set_cons_zero, List.set_cons_succ]
    refine wpAnyK_take (i := 4) (v := .slice none 0 0) rfl (by kernel_rfl) (by kernel_rfl) (by kernel_rfl) (by kernel_rfl) (fun _ _ _ h => nomatch h.1) (Or.inl ⟨by rfl, fun w hSw => by go_simp⟩) hHeld ?_
    simp only [List.getElem_toArray, List.getElem_cons_zero, List.getElem_cons_succ, Act.put, List.setIfInBounds_toArray, List.set_cons_zero, List.set_cons_succ]
    refine wpAnyK_take (i := 5) (v := .int .i64 0) rfl (by kernel_rfl) (by kernel_rfl) (by kernel_rfl) (by kernel_rfl) (fun _ _ _ h => nomatch h.1) (Or.inl ⟨by rfl, fun w hSw => by go_simp⟩) hHeld ?_
    simp only [List.getElem_toArray, List.getElem_cons_zero, List.getElem_cons_succ, Act.put, List.setIfInBounds_toArray, List.set_cons_zero, List.set_cons_succ]
    refine wpAnyK_take (i := 6) (v := .pointer (some ⟨b, 0, none⟩)) rfl (by kernel_rfl) (by kernel_rfl) (by kernel_rfl) (by kernel_rfl) (fun _ _ _ h => nomatch h.1) (Or.inl ⟨by rfl, fun w hSw => by go_simp⟩) hHeld ?_
    simp only [List.getElem_toArray, List.getElem_cons_zero, List.getElem_cons_succ, Act.put, List.setIfInBounds_toArray, List.set_cons_zero, List.set_cons_succ]
    refine wpAnyK_take (i := 7) (v := .pointer (some ⟨b, 0, none⟩)) rfl (by kernel_rfl) (by kernel_rfl) (by kernel_rfl) (by kernel_rfl) (fun _ _ _ h => nomatch h.1) (Or.inl ⟨by rfl, fun w hSw => by go_simp⟩) hHeld ?_
    simp only [List.getElem_toArray, List.getElem_cons_zero, List.getElem_cons_succ, Act.put, List.setIfInBounds_toArray, List.set_cons_zero, List.set_cons_succ]
    refine wpAnyK_take (i := 8) (v := .pointer (some ⟨b, 8, none⟩)) rfl (by kernel_rfl) (by kernel_rfl) (by kernel_rfl) (by kernel_rfl) (fun _ _ _ h => nomatch h.1) (Or.inl ⟨by rfl, fun w hSw => by go_simp⟩) hHeld ?_
    simp only [List.getElem_toArray, List.getElem_cons_zero, List.getElem_cons_succ, Act.put, List.setIfInBounds_toArray, List.set_cons_zero, List.set_cons_succ]
    refine wpAnyK_take (i := 9) (v := .slice none 0 0) rfl (by kernel_rfl) (by kernel_rfl) (by kernel_rfl) (by kernel_rfl) (fun _ _ _ h => nomatch h.1) (Or.inl ⟨by rfl, fun w hSw => by go_simp⟩) hHeld ?_
    simp only [List.getElem_toArray, List.getElem_cons_zero, List.getElem_cons_succ, Act.put, List.setIfInBounds_toArray, List.set_cons_zero, List.set_cons_succ]
    refine wpAnyK_take (i := 10) (v := .int .i64 0) rfl (by kernel_rfl) (by kernel_rfl) (by kernel_rfl) (by kernel_rfl) (fun _ _ _ h => nomatch h.1) (Or.inl ⟨by rfl, fun w hSw => by go_simp⟩) hHeld ?_
    simp only [List.getElem_toArray, List.getElem_cons_zero, List.getElem_cons_succ, Act.put, List.setIfInBounds_toArray, List.set_cons_zero, List.set_cons_succ]
    refine wpAnyK_take (i := 11) (v := .pointer (some ⟨b, 0, none⟩)) rfl (by kernel_rfl) (by kernel_rfl) (by kernel_rfl) (by kernel_rfl) (fun _ _ _ h => nomatch h.1) (Or.inl ⟨by rfl, fun w hSw => by go_simp⟩) hHeld ?_
    simp only [List.getElem_toArray, List.getElem_cons_zero, List.getElem_cons_succ, Act.put, List.setIfInBounds_toArray, List.set_cons_zero, List.set_cons_succ]
    refine wpAnyK_take (i := 12) (v := .pointer (some ⟨b, 0, none⟩)) rfl (by kernel_rfl) (by kernel_rfl) (by kernel_rfl) (by kernel_rfl) (fun _ _ _ h => nomatch h.1) (Or.inl ⟨by rfl, fun w hSw => by go_simp⟩) hHeld ?_
    simp only [List.getElem_toArray, List.getElem_cons_zero, List.getElem_cons_succ, Act.put, List.setIfInBounds_toArray, List.set_cons_zero, List.set_cons_succ]
    refine wpAnyK_take (i := 13) (v := .pointer (some ⟨b, 7, none⟩)) rfl (by kernel_rfl) (by kernel_rfl) (by kernel_rfl) (by kernel_rfl) (fun _ _ _ h => nomatch h.1) (Or.inl ⟨by rfl, fun w hSw => by go_simp⟩) hHeld ?_
    simp only [List.getElem_toArray, List.getElem_cons_zero, List.getElem_cons_succ, Act.put, List.setIfInBounds_toArray, List.set_cons_zero, List.set_cons_succ]
    refine wpAnyK_take (i := 14) (v := .slice none 0 0) rfl (by kernel_rfl) (by kernel_rfl) (by kernel_rfl) (by kernel_rfl) (fun _ _ _ h => nomatch h.1) (Or.inl ⟨by rfl, fun w hSw => by go_simp⟩) hHeld ?_
    simp only [List.getElem_toArray, List.getElem_cons_zero, List.getElem_cons_succ, Act.put, List.setIfInBounds_toArray, List.set_cons_zero, List.set_cons_succ]
    refine wpAnyK_take (i := 17) (v := .pointer (some ⟨b, 0, none⟩)) rfl (by kernel_rfl) (by kernel_rfl) (by kernel_rfl) (by kernel_rfl) (fun _ _ _ h => nomatch h.1) (Or.inl ⟨by rfl, fun w hSw => by go_simp⟩) hHeld ?_
    simp only [List.getElem_toArray, List.getElem_cons_zero, List.getElem_cons_succ, Act.put, List.setIfInBounds_toArray, List.set_cons_zero, List.set_cons_succ]
    refine wpAnyK_take (i := 18) (v := .pointer (some ⟨b, 0, none⟩)) rfl (by kernel_rfl) (by kernel_rfl) (by kernel_rfl) (by kernel_rfl) (fun _ _ _ h => nomatch h.1) (Or.inl ⟨by rfl, fun w hSw => by go_simp⟩) hHeld ?_
    simp only [List.getElem_toArray, List.getElem_cons_zero, List.getElem_cons_succ, Act.put, List.setIfInBounds_toArray, List.set_cons_zero, List.set_cons_succ]
    refine wpAnyK_take (i := 19) (v := .pointer (some ⟨b, 8, none⟩)) rfl (by kernel_rfl) (by kernel_rfl) (by kernel_rfl) (by kernel_rfl) (fun _ _ _ h => nomatch h.1) (Or.inl ⟨by rfl, fun w hSw => by go_simp⟩) hHeld ?_
    simp only [List.getElem_toArray, List.getElem_cons_zero, List.getElem_cons_succ, Act.put, List.setIfInBounds_toArray, List.set_cons_zero, List.set_cons_succ]
    refine wpAnyK_take (i := 20) (v := .slice none 0 0) rfl (by kernel_rfl) (by kernel_rfl) (by kernel_rfl) (by kernel_rfl) (fun _ _ _ h => nomatch h.1) (Or.inl ⟨by rfl, fun w hSw => by go_simp⟩) hHeld ?_
    simp only [List.getElem_toArray, List.getElem_cons_zero, List.getElem_cons_succ, Act.put, List.setIfInBounds_toArray, List.set_cons_zero, List.set_cons_succ]
    refine wpAnyK_pair (i0 := 15) (i1 := 21) (by kernel_rfl) rfl rfl (fun K hK => ?_) (fun K hK => ?_)
    · (try simp only [List.getElem_toArray, List.getElem_cons_zero, List.getElem_cons_succ, Act.put, List.setIfInBounds_toArray, List.set_cons_zero, List.set_cons_succ])
      go_simp
      have cb := cb16 W0 #[.slice none 0 0] 36
      obtain ⟨A115, hA115⟩ : ∃ A115, A115 = World.alloc W0 (.cells #[.slice none 0 0] 36) := ⟨_, rfl⟩
      rw [← hA115] at cb
      rw [← hA115]
      have mA115 := mW0.old cb.bl
      have kA115 : Kp (fun k => k = b) w A115 := kW0.trans (Kp.of_below (S := fun _ => False) cb.bl) (fun _ _ x => x.elim)
      have qxA115 := cb.cl
      clear hA115 cb
      refine hK.out _ _ (fun _ => HS.out _ mA115) (fun hHeld0 => ?_)
      have hHeld := hHeld0 (by decide)
      clear hHeld0 hK K
      (try simp only [List.getElem_toArray, List.getElem_cons_zero, List.getElem_cons_succ, Act.put, List.setIfInBounds_toArray, List.set_cons_zero, List.set_cons_succ])
      refine wpAnyK_pair (i0 := 16) (i1 := 21) (by kernel_rfl) rfl rfl (fun K hK => ?_) (fun K hK => ?_)
      · (try simp only [List.getElem_toArray, List.getElem_cons_zero, List.getElem_cons_succ, Act.put, List.setIfInBounds_toArray, List.set_cons_zero, List.set_cons_succ])
        go_simp
        refine (psum20 (W0.heap.size) _ A115 (HM.out _ kA115) qxA115).mono ?_
        rintro e6 w6 ⟨rfl, hw6⟩
        subst w6
        refine hK.out _ _ (fun _ => HS.out _ mA115) (fun hHeld0 => ?_)
        have hHeld := hHeld0 (by decide)
        clear hHeld0 hK K
        (try simp only [List.getElem_toArray, List.getElem_cons_zero, List.getElem_cons_succ, Act.put, List.setIfInBounds_toArray, List.set_cons_zero, List.set_cons_succ])
        refine wpAnyK_one (i := 21) (by kernel_rfl) rfl (fun K hK => ?_)
        (try simp only [List.getElem_toArray, List.getElem_cons_zero, List.getElem_cons_succ, Act.put, List.setIfInBounds_toArray, List.set_cons_zero, List.set_cons_succ])
        go_simp
        have cb := cb16 A115 #[.slice none 0 0] 36
        obtain ⟨A321, hA321⟩ : ∃ A321, A321 = World.alloc A115 (.cells #[.slice none 0 0] 36) := ⟨_, rfl⟩
        rw [← hA321] at cb
        rw [← hA321]
        have mA321 := mA115.old cb.bl
        have kA321 : Kp (fun k => k = b) w A321 := kA115.trans (Kp.of_below (S := fun _ => False) cb.bl) (fun _ _ x => x.elim)
        have qxA321 := (cb.bl.block _ (Array.getElem?_eq_some_iff.1 qxA115).1).trans qxA115
        have qyA321 := cb.cl
        clear hA321 cb
        refine hK.out _ _ (fun _ => HS.out _ mA321) (fun hHeld0 => ?_)
        have hHeld := hHeld0 (by decide)
        clear hHeld0 hK K
        (try simp only [List.getElem_toArray, List.getElem_cons_zero, List.getElem_cons_succ, Act.put, List.setIfInBounds_toArray, List.set_cons_zero, List.set_cons_succ])
        refine wpAnyK_one (i := 22) (by kernel_rfl) rfl (fun K hK => ?_)
        (try simp only [List.getElem_toArray, List.getElem_cons_zero, List.getElem_cons_succ, Act.put, List.setIfInBounds_toArray, List.set_cons_zero, List.set_cons_succ])
        go_simp
        refine (psum20 (A115.heap.size) _ A321 (HM.out _ kA321) qyA321).mono ?_
        rintro e6 w6 ⟨rfl, hw6⟩
        subst w6
        refine hK.out _ _ (fun _ => HS.out _ mA321) (fun hHeld0 => ?_)
        have hHeld := hHeld0 (by decide)
        clear hHeld0 hK K
        (try simp only [List.getElem_toArray, List.getElem_cons_zero, List.getElem_cons_succ, Act.put, List.setIfInBounds_toArray, List.set_cons_zero, List.set_cons_succ])
        refine wpAnyK_take (i := 23) (v := .agg #[.int .i64 0, .int .i64 0, .int .u32 0, .int .u32 0, .int .i64 0, .int .i64 0]) rfl (by kernel_rfl) (by kernel_rfl) (by kernel_rfl) (by kernel_rfl) (fun _ _ _ h => nomatch h.1) (Or.inl ⟨by rfl, fun w hSw => by go_simp⟩) hHeld ?_
        simp only [List.getElem_toArray, List.getElem_cons_zero, List.getElem_cons_succ, Act.put, List.setIfInBounds_toArray, List.set_cons_zero, List.set_cons_succ]
        refine wpAnyK_take (i := 24) (v := .pointer (some ⟨b, 0, none⟩)) rfl (by kernel_rfl) (by kernel_rfl) (by kernel_rfl) (by kernel_rfl) (fun _ _ _ h => nomatch h.1) (Or.inl ⟨by rfl, fun w hSw => by go_simp⟩) hHeld ?_
        simp only [List.getElem_toArray, List.getElem_cons_zero, List.getElem_cons_succ, Act.put, List.setIfInBounds_toArray, List.set_cons_zero, List.set_cons_succ]
        refine wpAnyK_take (i := 25) (v := .pointer (some ⟨b, 14, none⟩)) rfl (by kernel_rfl) (by kernel_rfl) (by kernel_rfl) (by kernel_rfl) (fun _ _ _ h => nomatch h.1) (Or.inl ⟨by rfl, fun w hSw => by go_simp⟩) hHeld ?_
        simp only [List.getElem_toArray, List.getElem_cons_zero, List.getElem_cons_succ, Act.put, List.setIfInBounds_toArray, List.set_cons_zero, List.set_cons_succ]
        refine wpAnyK_take (i := 26) (v := .pointer (some ⟨b, 14, none⟩)) rfl (by kernel_rfl) (by kernel_rfl) (by kernel_rfl) (by kernel_rfl) (fun _ _ _ h => nomatch h.1) (Or.inl ⟨by rfl, fun w hSw => by go_simp⟩) hHeld ?_
        simp only [List.getElem_toArray, List.getElem_cons_zero, List.getElem_cons_succ, Act.put, List.setIfInBounds_toArray, List.set_cons_zero, List.set_cons_succ]
        have d14 := mA321.c (HG.out.1 14 _ (by decide) rfl)
        have f14 := mA321.f (i := 14)
        have d15 := mA321.c (HG.out.1 15 _ (by decide) rfl)
        have f15 := mA321.f (i := 15)
        have d16 := mA321.c (HG.out.2.1 16 _ (by decide) rfl)
        have f16 := mA321.f (i := 16)
        have d17 := mA321.c (HG.out.2.1 17 _ (by decide) rfl)
        have f17 := mA321.f (i := 17)
        have d18 := mA321.c (HG.out.1 18 _ (by decide) rfl)
        have f18 := mA321.f (i := 18)
        have d19 := mA321.c (HG.out.1 19 _ (by decide) rfl)
        have f19 := mA321.f (i := 19)
        have mm := (Ma20.set (i := 19) (Ma20.set (i := 18) (Ma20.set (i := 17) (Ma20.set (i := 16) (Ma20.set (i := 15) (Ma20.set (i := 14) mA321 (.int .i64 0)) (.int .i64 0)) (.int .u32 0)) (.int .u32 0)) (.int .i64 0)) (.int .i64 0))
        rw [HGQ.out] at mm
        have HMM := Hid.mk20 mm
        clear mm
        refine wpAnyK_one (i := 27) (by kernel_rfl) rfl (fun K hK => ?_)
        simp only [List.getElem_toArray, List.getElem_cons_zero, List.getElem_cons_succ, Act.put]
        go_simp
        refine hK.out _ _ (fun _ => HS.out _ HMM.out) (fun _ => ?_)
        clear hK K
        refine wpAnyK_done (by kernel_rfl) ?_ _
        refine ⟨rfl, _, _, rfl, HMM.out, ?_⟩
        · exact ((((((kA321.trans (Kp.set (S := fun k => k = b) rfl _) (fun _ _ x => x)).trans (Kp.set (S := fun k => k = b) rfl _) (fun _ _ x => x)).trans (Kp.set (S := fun k => k = b) rfl _) (fun _ _ x => x)).trans (Kp.set (S := fun k => k = b) rfl _) (fun _ _ x => x)).trans (Kp.set (S := fun k => k = b) rfl _) (fun _ _ x => x)).trans (Kp.set (S := fun k => k = b) rfl _) (fun _ _ x => x))
      · (try simp only [List.getElem_toArray, List.getElem_cons_zero, List.getElem_cons_succ, Act.put, List.setIfInBounds_toArray, List.set_cons_zero, List.set_cons_succ])
        go_simp
        have cb := cb16 A115 #[.slice none 0 0] 36
        obtain ⟨A221, hA221⟩ : ∃ A221, A221 = World.alloc A115 (.cells #[.slice none 0 0] 36) := ⟨_, rfl⟩
        rw [← hA221] at cb
        rw [← hA221]
        have mA221 := mA115.old cb.bl
        have kA221 : Kp (fun k => k = b) w A221 := kA115.trans (Kp.of_below (S := fun _ => False) cb.bl) (fun _ _ x => x.elim)
        have qxA221 := (cb.bl.block _ (Array.getElem?_eq_some_iff.1 qxA115).1).trans qxA115
        have qyA221 := cb.cl
        clear hA221 cb
        refine hK.out _ _ (fun _ => HS.out _ mA221) (fun hHeld0 => ?_)
        have hHeld := hHeld0 (by decide)
        clear hHeld0 hK K
        (try simp only [List.getElem_toArray, List.getElem_cons_zero, List.getElem_cons_succ, Act.put, List.setIfInBounds_toArray, List.set_cons_zero, List.set_cons_succ])
        refine wpAnyK_one (i := 16) (by kernel_rfl) rfl (fun K hK => ?_)
        (try simp only [List.getElem_toArray, List.getElem_cons_zero, List.getElem_cons_succ, Act.put, List.setIfInBounds_toArray, List.set_cons_zero, List.set_cons_succ])
        go_simp
        refine (psum20 (W0.heap.size) _ A221 (HM.out _ kA221) qxA221).mono ?_
        rintro e6 w6 ⟨rfl, hw6⟩
        subst w6
        refine hK.out _ _ (fun _ => HS.out _ mA221) (fun hHeld0 => ?_)
        have hHeld := hHeld0 (by decide)
        clear hHeld0 hK K
        (try simp only [List.getElem_toArray, List.getElem_cons_zero, List.getElem_cons_succ, Act.put, List.setIfInBounds_toArray, List.set_cons_zero, List.set_cons_succ])
        refine wpAnyK_one (i := 22) (by kernel_rfl) rfl (fun K hK => ?_)
        (try simp only [List.getElem_toArray, List.getElem_cons_zero, List.getElem_cons_succ, Act.put, List.setIfInBounds_toArray, List.set_cons_zero, List.set_cons_succ])
        go_simp
        refine (psum20 (A115.heap.size) _ A221 (HM.out _ kA221) qyA221).mono ?_
        rintro e6 w6 ⟨rfl, hw6⟩
        subst w6
        refine hK.out _ _ (fun _ => HS.out _ mA221) (fun hHeld0 => ?_)
        have hHeld := hHeld0 (by decide)
        clear hHeld0 hK K
        (try simp only [List.getElem_toArray, List.getElem_cons_zero, List.getElem_cons_succ, Act.put, List.setIfInBounds_toArray, List.set_cons_zero, List.set_cons_succ])
        refine wpAnyK_take (i := 23) (v := .agg #[.int .i64 0, .int .i64 0, .int .u32 0, .int .u32 0, .int .i64 0, .int .i64 0]) rfl (by kernel_rfl) (by kernel_rfl) (by kernel_rfl) (by kernel_rfl) (fun _ _ _ h => nomatch h.1) (Or.inl ⟨by rfl, fun w hSw => by go_simp⟩) hHeld ?_
        simp only [List.getElem_toArray, List.getElem_cons_zero, List.getElem_cons_succ, Act.put, List.setIfInBounds_toArray, List.set_cons_zero, List.set_cons_succ]
        refine wpAnyK_take (i := 24) (v := .pointer (some ⟨b, 0, none⟩)) rfl (by kernel_rfl) (by kernel_rfl) (by kernel_rfl) (by kernel_rfl) (fun _ _ _ h => nomatch h.1) (Or.inl ⟨by rfl, fun w hSw => by go_simp⟩) hHeld ?_
        simp only [List.getElem_toArray, List.getElem_cons_zero, List.getElem_cons_succ, Act.put, List.setIfInBounds_toArray, List.set_cons_zero, List.set_cons_succ]
        refine wpAnyK_take (i := 25) (v := .pointer (some ⟨b, 14, none⟩)) rfl (by kernel_rfl) (by kernel_rfl) (by kernel_rfl) (by kernel_rfl) (fun _ _ _ h => nomatch h.1) (Or.inl ⟨by rfl, fun w hSw => by go_simp⟩) hHeld ?_
        simp only [List.getElem_toArray, List.getElem_cons_zero, List.getElem_cons_succ, Act.put, List.setIfInBounds_toArray, List.set_cons_zero, List.set_cons_succ]
        refine wpAnyK_take (i := 26) (v := .pointer (some ⟨b, 14, none⟩)) rfl (by kernel_rfl) (by kernel_rfl) (by kernel_rfl) (by kernel_rfl) (fun _ _ _ h => nomatch h.1) (Or.inl ⟨by rfl, fun w hSw => by go_simp⟩) hHeld ?_
        simp only [List.getElem_toArray, List.getElem_cons_zero, List.getElem_cons_succ, Act.put, List.setIfInBounds_toArray, List.set_cons_zero, List.set_cons_succ]
        have d14 := mA221.c (HG.out.1 14 _ (by decide) rfl)
        have f14 := mA221.f (i := 14)
        have d15 := mA221.c (HG.out.1 15 _ (by decide) rfl)
        have f15 := mA221.f (i := 15)
        have d16 := mA221.c (HG.out.2.1 16 _ (by decide) rfl)
        have f16 := mA221.f (i := 16)
        have d17 := mA221.c (HG.out.2.1 17 _ (by decide) rfl)
        have f17 := mA221.f (i := 17)
        have d18 := mA221.c (HG.out.1 18 _ (by decide) rfl)
        have f18 := mA221.f (i := 18)
        have d19 := mA221.c (HG.out.1 19 _ (by decide) rfl)
        have f19 := mA221.f (i := 19)
        have mm := (Ma20.set (i := 19) (Ma20.set (i := 18) (Ma20.set (i := 17) (Ma20.set (i := 16) (Ma20.set (i := 15) (Ma20.set (i := 14) mA221 (.int .i64 0)) (.int .i64 0)) (.int .u32 0)) (.int .u32 0)) (.int .i64 0)) (.int .i64 0))
        rw [HGQ.out] at mm
        have HMM := Hid.mk20 mm
        clear mm
        refine wpAnyK_one (i := 27) (by kernel_rfl) rfl (fun K hK => ?_)
        simp only [List.getElem_toArray, List.getElem_cons_zero, List.getElem_cons_succ, Act.put]
        go_simp
        refine hK.out _ _ (fun _ => HS.out _ HMM.out) (fun _ => ?_)
        clear hK K
        refine wpAnyK_done (by kernel_rfl) ?_ _
        refine ⟨rfl, _, _, rfl, HMM.out, ?_⟩
        · exact ((((((kA221.trans (Kp.set (S := fun k => k = b) rfl _) (fun _ _ x => x)).trans (Kp.set (S := fun k => k = b) rfl _) (fun _ _ x => x)).trans (Kp.set (S := fun k => k = b) rfl _) (fun _ _ x => x)).trans (Kp.set (S := fun k => k = b) rfl _) (fun _ _ x => x)).trans (Kp.set (S := fun k => k = b) rfl _) (fun _ _ x => x)).trans (Kp.set (S := fun k => k = b) rfl _) (fun _ _ x => x))
    · (try simp only [List.getElem_toArray, List.getElem_cons_zero, List.getElem_cons_succ, Act.put, List.setIfInBounds_toArray, List.set_cons_zero, List.set_cons_succ])
      go_simp
      have cb := cb16 W0 #[.slice none 0 0] 36
      obtain ⟨A121, hA121⟩ : ∃ A121, A121 = World.alloc W0 (.cells #[.slice none 0 0] 36) := ⟨_, rfl⟩
      rw [← hA121] at cb
      rw [← hA121]
      have mA121 := mW0.old cb.bl
      have kA121 : Kp (fun k => k = b) w A121 := kW0.trans (Kp.of_below (S := fun _ => False) cb.bl) (fun _ _ x => x.elim)
      have qyA121 := cb.cl
      clear hA121 cb
      refine hK.out _ _ (fun _ => HS.out _ mA121) (fun hHeld0 => ?_)
      have hHeld := hHeld0 (by decide)
      clear hHeld0 hK K
      (try simp only [List.getElem_toArray, List.getElem_cons_zero, List.getElem_cons_succ, Act.put, List.setIfInBounds_toArray, List.set_cons_zero, List.set_cons_succ])
      refine wpAnyK_one (i := 15) (by kernel_rfl) rfl (fun K hK => ?_)
      (try simp only [List.getElem_toArray, List.getElem_cons_zero, List.getElem_cons_succ, Act.put, List.setIfInBounds_toArray, List.set_cons_zero, List.set_cons_succ])
      go_simp
      have cb := cb16 A121 #[.slice none 0 0] 36
      obtain ⟨A715, hA715⟩ : ∃ A715, A715 = World.alloc A121 (.cells #[.slice none 0 0] 36) := ⟨_, rfl⟩
      rw [← hA715] at cb
      rw [← hA715]
      have mA715 := mA121.old cb.bl
      have kA715 : Kp (fun k => k = b) w A715 := kA121.trans (Kp.of_below (S := fun _ => False) cb.bl) (fun _ _ x => x.elim)
      have qyA715 := (cb.bl.block _ (Array.getElem?_eq_some_iff.1 qyA121).1).trans qyA121
      have qxA715 := cb.cl
      clear hA715 cb
      refine hK.out _ _ (fun _ => HS.out _ mA715) (fun hHeld0 => ?_)
      have hHeld := hHeld0 (by decide)
      clear hHeld0 hK K
      (try simp only [List.getElem_toArray, List.getElem_cons_zero, List.getElem_cons_succ, Act.put, List.setIfInBounds_toArray, List.set_cons_zero, List.set_cons_succ])
      refine wpAnyK_one (i := 16) (by kernel_rfl) rfl (fun K hK => ?_)
      (try simp only [List.getElem_toArray, List.getElem_cons_zero, List.getElem_cons_succ, Act.put, List.setIfInBounds_toArray, List.set_cons_zero, List.set_cons_succ])
      go_simp
      refine (psum20 (A121.heap.size) _ A715 (HM.out _ kA715) qxA715).mono ?_
      rintro e6 w6 ⟨rfl, hw6⟩
      subst w6
      refine hK.out _ _ (fun _ => HS.out _ mA715) (fun hHeld0 => ?_)
      have hHeld := hHeld0 (by decide)
      clear hHeld0 hK K
      (try simp only [List.getElem_toArray, List.getElem_cons_zero, List.getElem_cons_succ, Act.put, List.setIfInBounds_toArray, List.set_cons_zero, List.set_cons_succ])
      refine wpAnyK_one (i := 22) (by kernel_rfl) rfl (fun K hK => ?_)
      (try simp only [List.getElem_toArray, List.getElem_cons_zero, List.getElem_cons_succ, Act.put, List.setIfInBounds_toArray, List.set_cons_zero, List.set_cons_succ])
      go_simp
      refine (psum20 (W0.heap.size) _ A715 (HM.out _ kA715) qyA715).mono ?_
      rintro e6 w6 ⟨rfl, hw6⟩
      subst w6
      refine hK.out _ _ (fun _ => HS.out _ mA715) (fun hHeld0 => ?_)
      have hHeld := hHeld0 (by decide)
      clear hHeld0 hK K
      (try simp only [List.getElem_toArray, List.getElem_cons_zero, List.getElem_cons_succ, Act.put, List.setIfInBounds_toArray, List.set_cons_zero, List.set_cons_succ])
      refine wpAnyK_take (i := 23) (v := .agg #[.int .i64 0, .int .i64 0, .int .u32 0, .int .u32 0, .int .i64 0, .int .i64 0]) rfl (by kernel_rfl) (by kernel_rfl) (by kernel_rfl) (by kernel_rfl) (fun _ _ _ h => nomatch h.1) (Or.inl ⟨by rfl, fun w hSw => by go_simp⟩) hHeld ?_
      simp only [List.getElem_toArray, List.getElem_cons_zero, List.getElem_cons_succ, Act.put, List.setIfInBounds_toArray, List.set_cons_zero, List.set_cons_succ]
      refine wpAnyK_take (i := 24) (v := .pointer (some ⟨b, 0, none⟩)) rfl (by kernel_rfl) (by kernel_rfl) (by kernel_rfl) (by kernel_rfl) (fun _ _ _ h => nomatch h.1) (Or.inl ⟨by rfl, fun w hSw => by go_simp⟩) hHeld ?_
      simp only [List.getElem_toArray, List.getElem_cons_zero, List.getElem_cons_succ, Act.put, List.setIfInBounds_toArray, List.set_cons_zero, List.set_cons_succ]
      refine wpAnyK_take (i := 25) (v := .pointer (some ⟨b, 14, none⟩)) rfl (by kernel_rfl) (by kernel_rfl) (by kernel_rfl) (by kernel_rfl) (fun _ _ _ h => nomatch h.1) (Or.inl ⟨by rfl, fun w hSw => by go_simp⟩) hHeld ?_
      simp only [List.getElem_toArray, List.getElem_cons_zero, List.getElem_cons_succ, Act.put, List.setIfInBounds_toArray, List.set_cons_zero, List.set_cons_succ]
      refine wpAnyK_take (i := 26) (v := .pointer (some ⟨b, 14, none⟩)) rfl (by kernel_rfl) (by kernel_rfl) (by kernel_rfl) (by kernel_rfl) (fun _ _ _ h => nomatch h.1) (Or.inl ⟨by rfl, fun w hSw => by go_simp⟩) hHeld ?_
      simp only [List.getElem_toArray, List.getElem_cons_zero, List.getElem_cons_succ, Act.put, List.setIfInBounds_toArray, List.set_cons_zero, List.set_cons_succ]
      have d14 := mA715.c (HG.out.1 14 _ (by decide) rfl)
      have f14 := mA715.f (i := 14)
      have d15 := mA715.c (HG.out.1 15 _ (by decide) rfl)
      have f15 := mA715.f (i := 15)
      have d16 := mA715.c (HG.out.2.1 16 _ (by decide) rfl)
      have f16 := mA715.f (i := 16)
      have d17 := mA715.c (HG.out.2.1 17 _ (by decide) rfl)
      have f17 := mA715.f (i := 17)
      have d18 := mA715.c (HG.out.1 18 _ (by decide) rfl)
      have f18 := mA715.f (i := 18)
      have d19 := mA715.c (HG.out.1 19 _ (by decide) rfl)
      have f19 := mA715.f (i := 19)
      have mm := (Ma20.set (i := 19) (Ma20.set (i := 18) (Ma20.set (i := 17) (Ma20.set (i := 16) (Ma20.set (i := 15) (Ma20.set (i := 14) mA715 (.int .i64 0)) (.int .i64 0)) (.int .u32 0)) (.int .u32 0)) (.int .i64 0)) (.int .i64 0))
      rw [HGQ.out] at mm
      have HMM := Hid.mk20 mm
      clear mm
      refine wpAnyK_one (i := 27) (by kernel_rfl) rfl (fun K hK => ?_)
      simp only [List.getElem_toArray, List.getElem_cons_zero, List.getElem_cons_succ, Act.put]
      go_simp
      refine hK.out _ _ (fun _ => HS.out _ HMM.out) (fun _ => ?_)
      clear hK K
      refine wpAnyK_done (by kernel_rfl) ?_ _
      refine ⟨rfl, _, _, rfl, HMM.out, ?_⟩
      · exact ((((((kA715.trans (Kp.set (S := fun k => k = b) rfl _) (fun _ _ x => x)).trans (Kp.set (S := fun k => k = b) rfl _) (fun _ _ x => x)).trans (Kp.set (S := fun k => k = b) rfl _) (fun _ _ x => x)).trans (Kp.set (S := fun k => k = b) rfl _) (fun _ _ x => x)).trans (Kp.set (S := fun k => k = b) rfl _) (fun _ _ x => x)).trans (Kp.set (S := fun k => k = b) rfl _) (fun _ _ x => x))
  rintro e9 a9 V ⟨rfl, x, y, rfl, mV, kV⟩
  have HV : Hid (Ma20 V b G ∧ Kp (fun k => k = b) w V) := ⟨mV, kV⟩
  clear mV kV HH
  go_wp2_with fail
  have HD : Hid (Ma20 V.drew b G ∧ Kp (fun k => k = b) w V.drew) := ⟨HV.out.1, HV.out.2.drew⟩
  refine plain_region16 (fun V => V.cell? ⟨b, 7, none⟩ = some (.slice none 0 0) ∧ V.cell? ⟨b, 8, none⟩ = some (.slice none 0 0)) 17 (by kernel_rfl) (HS.out _ HD.out.1) (fun hHeld => ?_)
  refine wpAnyK_take (i := 0) (v := .pointer (some ⟨b, 0, none⟩)) rfl (by kernel_rfl) (by kernel_rfl) (by kernel_rfl) (by kernel_rfl) (fun _ _ _ h => h) (Or.inl ⟨by rfl, fun w hSw => by go_simp⟩) hHeld ?_
  simp only [List.getElem_toArray, List.getElem_cons_zero, Act.put, List.setIfInBounds_toArray, List.set_cons_zero, List.set_cons_succ]
  refine wpAnyK_take (i := 1) (v := .pointer (some ⟨b, 0, none⟩)) rfl (by kernel_rfl) (by kernel_rfl) (by kernel_rfl) (by kernel_rfl) (fun _ _ _ h => h) (Or.inl ⟨by rfl, fun w hSw => by go_simp⟩) hHeld ?_
  simp only [List.getElem_toArray, List.getElem_cons_zero, List.getElem_cons_succ, Act.put, List.setIfInBounds_toArray, List.set_cons_zero, List.set_cons_succ]
  refine wpAnyK_take (i := 2) (v := .pointer (some ⟨b, 7, none⟩)) rfl (by kernel_rfl) (by kernel_rfl) (by kernel_rfl) (by kernel_rfl) (fun _ _ _ h => h) (Or.inl ⟨by rfl, fun w hSw => by go_simp⟩) hHeld ?_
  simp only [List.getElem_toArray, List.getElem_cons_zero, List.getElem_cons_succ, Act.put, List.setIfInBounds_toArray, List.set_cons_zero, List.set_cons_succ]
  refine wpAnyK_take (i := 3) (v := .slice none 0 0) rfl (by kernel_rfl) (by kernel_rfl) (by kernel_rfl) (by kernel_rfl) (fun _ _ _ h => h) (Or.inl ⟨by rfl, fun w hSw => by go_simp⟩) hHeld ?_
  simp only [List.getElem_toArray, List.getElem_cons_zero, List.getElem_cons_succ, Act.put, List.setIfInBounds_toArray, List.set_cons_zero, List.set_cons_succ]
  refine wpAnyK_take (i := 8) (v := .pointer (some ⟨b, 0, none⟩)) rfl (by kernel_rfl) (by kernel_rfl) (by kernel_rfl) (by kernel_rfl) (fun _ _ _ h => h) (Or.inl ⟨by rfl, fun w hSw => by go_simp⟩) hHeld ?_
  simp only [List.getElem_toArray, List.getElem_cons_zero, List.getElem_cons_succ, Act.put, List.setIfInBounds_toArray, List.set_cons_zero, List.set_cons_succ]
  refine wpAnyK_take (i := 9) (v := .pointer (some ⟨b, 0, none⟩)) rfl (by kernel_rfl) (by kernel_rfl) (by kernel_rfl) (by kernel_rfl) (fun _ _ _ h => h) (Or.inl ⟨by rfl, fun w hSw => by go_simp⟩) hHeld ?_
  simp only [List.getElem_toArray, List.getElem_cons_zero, List.getElem_cons_succ, Act.put, List.setIfInBounds_toArray, List.set_cons_zero, List.set_cons_succ]
  refine wpAnyK_take (i := 10) (v := .pointer (some ⟨b, 8, none⟩)) rfl (by kernel_rfl) (by kernel_rfl) (by kernel_rfl) (by kernel_rfl) (fun _ _ _ h => h) (Or.inl ⟨by rfl, fun w hSw => by go_simp⟩) hHeld ?_
  simp only [List.getElem_toArray, List.getElem_cons_zero, List.getElem_cons_succ, Act.put, List.setIfInBounds_toArray, List.set_cons_zero, List.set_cons_succ]
  refine wpAnyK_take (i := 11) (v := .slice none 0 0) rfl (by kernel_rfl) (by kernel_rfl) (by kernel_rfl) (by kernel_rfl) (fun _ _ _ h => h) (Or.inl ⟨by rfl, fun w hSw => by go_simp⟩) hHeld ?_
  simp only [List.getElem_toArray, List.getElem_cons_zero, List.getElem_cons_succ, Act.put, List.setIfInBounds_toArray, List.set_cons_zero, List.set_cons_succ]
  refine wpAnyK_one (i := 4) (by kernel_rfl) rfl (fun K hK => ?_)
  (try simp only [List.getElem_toArray, List.getElem_cons_zero, List.getElem_cons_succ, Act.put, List.setIfInBounds_toArray, List.set_cons_zero, List.set_cons_succ])
  go_simp
  refine (pnew20 V.drew).mono ?_
  rintro e1 w1 ⟨xb, da, dc, aa, ac, gb, gr, A, rfl, IX, b1, -⟩
  have H1 : Hid (Ma20 w1 b G ∧ Kp (fun k => k = b) w w1) := ⟨HD.out.1.old b1, HD.out.2.trans (Kp.of_below (S := fun _ => False) b1) (fun _ _ x => x.elim)⟩
  have HIX : Hid (Ix13 w1 xb da dc aa ac gb gr 0 [] A) := IX
  clear IX b1
  refine hK.out _ _ (fun _ => HS.out _ H1.out.1) (fun hHeld0 => ?_)
  have hHeld := hHeld0 (by decide)
  clear hHeld0 hK K
  (try simp only [List.getElem_toArray, List.getElem_cons_zero, List.getElem_cons_succ, Act.put, List.setIfInBounds_toArray, List.set_cons_zero, List.set_cons_succ])
  refine wpAnyK_take (i := 5) (v := .pointer (some ⟨xb, 0, none⟩)) rfl (by kernel_rfl) (by kernel_rfl) (by kernel_rfl) (by kernel_rfl) (fun _ _ _ h => h) (Or.inl ⟨by rfl, fun w hSw => by go_simp⟩) hHeld ?_
  simp only [List.getElem_toArray, List.getElem_cons_zero, List.getElem_cons_succ, Act.put, List.setIfInBounds_toArray, List.set_cons_zero, List.set_cons_succ]
  refine wpAnyK_take (i := 6) (v := .int .i64 0) rfl (by kernel_rfl) (by kernel_rfl) (by kernel_rfl) (by kernel_rfl) (fun _ _ _ h => h) (Or.inl ⟨by rfl, fun w hSw => by go_simp⟩) hHeld ?_
  simp only [List.getElem_toArray, List.getElem_cons_zero, List.getElem_cons_succ, Act.put, List.setIfInBounds_toArray, List.set_cons_zero, List.set_cons_succ]
  refine wpAnyK_one (i := 7) (by kernel_rfl) rfl (fun K hK => ?_)
  (try simp only [List.getElem_toArray, List.getElem_cons_zero, List.getElem_cons_succ, Act.put, List.setIfInBounds_toArray, List.set_cons_zero, List.set_cons_succ])
  go_simp
  refine (pgot20i _ w1).mono ?_
  rintro e2 w2 ⟨rfl, hw2⟩
  subst w2
  refine hK.out _ _ (fun _ => HS.out _ H1.out.1) (fun hHeld0 => ?_)
  have hHeld := hHeld0 (by decide)
  clear hHeld0 hK K
  (try simp only [List.getElem_toArray, List.getElem_cons_zero, List.getElem_cons_succ, Act.put, List.setIfInBounds_toArray, List.set_cons_zero, List.set_cons_succ])
  refine wpAnyK_one (i := 12) (by kernel_rfl) rfl (fun K hK => ?_)
  (try simp only [List.getElem_toArray, List.getElem_cons_zero, List.getElem_cons_succ, Act.put, List.setIfInBounds_toArray, List.set_cons_zero, List.set_cons_succ])
  go_simp
  refine (pstp20 xb da dc aa ac gb gr A w1 HIX.out).mono ?_
  rintro e3 w3 ⟨rfl, b3⟩
  have H3 : Hid (Ma20 w3 b G ∧ Kp (fun k => k = b) w w3) := ⟨H1.out.1.old b3, H1.out.2.trans (Kp.of_below (S := fun _ => False) b3) (fun _ _ x => x.elim)⟩
  clear b3 HIX H1
  refine hK.out _ _ (fun _ => HS.out _ H3.out.1) (fun hHeld0 => ?_)
  have hHeld := hHeld0 (by decide)
  clear hHeld0 hK K
  (try simp only [List.getElem_toArray, List.getElem_cons_zero, List.getElem_cons_succ, Act.put, List.setIfInBounds_toArray, List.set_cons_zero, List.set_cons_succ])
  refine wpAnyK_take (i := 13) (v := .slice none 0 0) rfl (by kernel_rfl) (by kernel_rfl) (by kernel_rfl) (by kernel_rfl) (fun _ _ _ h => h) (Or.inl ⟨by rfl, fun w hSw => by go_simp⟩) hHeld ?_
  simp only [List.getElem_toArray, List.getElem_cons_zero, List.getElem_cons_succ, Act.put, List.setIfInBounds_toArray, List.set_cons_zero, List.set_cons_succ]
  refine wpAnyK_take (i := 14) (v := .int .i64 0) rfl (by kernel_rfl) (by kernel_rfl) (by kernel_rfl) (by kernel_rfl) (fun _ _ _ h => h) (Or.inl ⟨by rfl, fun w hSw => by go_simp⟩) hHeld ?_
  simp only [List.getElem_toArray, List.getElem_cons_zero, List.getElem_cons_succ, Act.put, List.setIfInBounds_toArray, List.set_cons_zero, List.set_cons_succ]
  refine wpAnyK_one (i := 15) (by kernel_rfl) rfl (fun K hK => ?_)
  (try simp only [List.getElem_toArray, List.getElem_cons_zero, List.getElem_cons_succ, Act.put, List.setIfInBounds_toArray, List.set_cons_zero, List.set_cons_succ])
  go_simp
  refine (pgot20s _ w3).mono ?_
  rintro e4 w4 ⟨rfl, hw4⟩
  subst w4
  refine hK.out _ _ (fun _ => HS.out _ H3.out.1) (fun hHeld0 => ?_)
  have hHeld := hHeld0 (by decide)
  clear hHeld0 hK K
  (try simp only [List.getElem_toArray, List.getElem_cons_zero, List.getElem_cons_succ, Act.put, List.setIfInBounds_toArray, List.set_cons_zero, List.set_cons_succ])
  refine wpAnyK_one (i := 16) (by kernel_rfl) rfl (fun K hK => ?_)
  (try simp only [List.getElem_toArray, List.getElem_cons_zero, List.getElem_cons_succ, Act.put, List.setIfInBounds_toArray, List.set_cons_zero, List.set_cons_succ])
  go_simp
  refine hK.out _ _ (fun _ => HS.out _ H3.out.1) (fun hHeld0 => ?_)
  clear hHeld0 hK K
  (try simp only [List.getElem_toArray, List.getElem_cons_zero, List.getElem_cons_succ, Act.put, List.setIfInBounds_toArray, List.set_cons_zero, List.set_cons_succ])
  refine wpAnyK_done (by kernel_rfl) ?_ _
  go_wp2_with fail
  have HE : Hid (Ma20 w3.drew b G ∧ Kp (fun k => k = b) w w3.drew) := ⟨H3.out.1, H3.out.2.drew⟩
  refine plain_region16 (fun V => V.cell? ⟨b, 7, none⟩ = some (.slice none 0 0) ∧ V.cell? ⟨b, 8, none⟩ = some (.slice none 0 0)) 17 (by kernel_rfl) (HS.out _ HE.out.1) (fun hHeld => ?_)
  refine wpAnyK_take (i := 0) (v := .pointer (some ⟨b, 0, none⟩)) rfl (by kernel_rfl) (by kernel_rfl) (by kernel_rfl) (by kernel_rfl) (fun _ _ _ h => h) (Or.inl ⟨by rfl, fun w hSw => by go_simp⟩) hHeld ?_
  simp only [List.getElem_toArray, List.getElem_cons_zero, Act.put, List.setIfInBounds_toArray, List.set_cons_zero, List.set_cons_succ]
  refine wpAnyK_take (i := 1) (v := .pointer (some ⟨b, 0, none⟩)) rfl (by kernel_rfl) (by kernel_rfl) (by kernel_rfl) (by kernel_rfl) (fun _ _ _ h => h) (Or.inl ⟨by rfl, fun w hSw => by go_simp⟩) hHeld ?_
  simp only [List.getElem_toArray, List.getElem_cons_zero, List.getElem_cons_succ, Act.put, List.setIfInBounds_toArray, List.set_cons_zero, List.set_cons_succ]
  refine wpAnyK_take (i := 2) (v := .pointer (some ⟨b, 0, none⟩)) rfl (by kernel_rfl) (by kernel_rfl) (by kernel_rfl) (by kernel_rfl) (fun _ _ _ h => h) (Or.inl ⟨by rfl, fun w hSw => by go_simp⟩) hHeld ?_
  simp only [List.getElem_toArray, List.getElem_cons_zero, List.getElem_cons_succ, Act.put, List.setIfInBounds_toArray, List.set_cons_zero, List.set_cons_succ]
  refine wpAnyK_take (i := 3) (v := .pointer (some ⟨b, 7, none⟩)) rfl (by kernel_rfl) (by kernel_rfl) (by kernel_rfl) (by kernel_rfl) (fun _ _ _ h => h) (Or.inl ⟨by rfl, fun w hSw => by go_simp⟩) hHeld ?_
  simp only [List.getElem_toArray, List.getElem_cons_zero, List.getElem_cons_succ, Act.put, List.setIfInBounds_toArray, List.set_cons_zero, List.set_cons_succ]
  refine wpAnyK_take (i := 4) (v := .slice none 0 0) rfl (by kernel_rfl) (by kernel_rfl) (by kernel_rfl) (by kernel_rfl) (fun _ _ _ h => h) (Or.inl ⟨by rfl, fun w hSw => by go_simp⟩) hHeld ?_
  simp only [List.getElem_toArray, List.getElem_cons_zero, List.getElem_cons_succ, Act.put, List.setIfInBounds_toArray, List.set_cons_zero, List.set_cons_succ]
  refine wpAnyK_take (i := 5) (v := .pointer (some ⟨b, 0, none⟩)) rfl (by kernel_rfl) (by kernel_rfl) (by kernel_rfl) (by kernel_rfl) (fun _ _ _ h => h) (Or.inl ⟨by rfl, fun w hSw => by go_simp⟩) hHeld ?_
  simp only [List.getElem_toArray, List.getElem_cons_zero, List.getElem_cons_succ, Act.put, List.setIfInBounds_toArray, List.set_cons_zero, List.set_cons_succ]
  refine wpAnyK_take (i := 6) (v := .pointer (some ⟨b, 0, none⟩)) rfl (by kernel_rfl) (by kernel_rfl) (by kernel_rfl) (by kernel_rfl) (fun _ _ _ h => h) (Or.inl ⟨by rfl, fun w hSw => by go_simp⟩) hHeld ?_
  simp only [List.getElem_toArray, List.getElem_cons_zero, List.getElem_cons_succ, Act.put, List.setIfInBounds_toArray, List.set_cons_zero, List.set_cons_succ]
  refine wpAnyK_take (i := 7) (v := .pointer (some ⟨b, 8, none⟩)) rfl (by kernel_rfl) (by kernel_rfl) (by kernel_rfl) (by kernel_rfl) (fun _ _ _ h => h) (Or.inl ⟨by rfl, fun w hSw => by go_simp⟩) hHeld ?_
  simp only [List.getElem_toArray, List.getElem_cons_zero, List.getElem_cons_succ, Act.put, List.setIfInBounds_toArray, List.set_cons_zero, List.set_cons_succ]
  refine wpAnyK_take (i := 8) (v := .slice none 0 0) rfl (by kernel_rfl) (by kernel_rfl) (by kernel_rfl) (by kernel_rfl) (fun _ _ _ h => h) (Or.inl ⟨by rfl, fun w hSw => by go_simp⟩) hHeld ?_
  simp only [List.getElem_toArray, List.getElem_cons_zero, List.getElem_cons_succ, Act.put, List.setIfInBounds_toArray, List.set_cons_zero, List.set_cons_succ]
  refine wpAnyK_take (i := 9) (v := .slice none 0 0) rfl (by kernel_rfl) (by kernel_rfl) (by kernel_rfl) (by kernel_rfl) (fun _ _ _ h => h) (Or.inl ⟨by rfl, fun w hSw => by go_simp⟩) hHeld ?_
  simp only [List.getElem_toArray, List.getElem_cons_zero, List.getElem_cons_succ, Act.put, List.setIfInBounds_toArray, List.set_cons_zero, List.set_cons_succ]
  refine wpAnyK_one (i := 10) (by kernel_rfl) rfl (fun K hK => ?_)
  (try simp only [List.getElem_toArray, List.getElem_cons_zero, List.getElem_cons_succ, Act.put, List.setIfInBounds_toArray, List.set_cons_zero, List.set_cons_succ])
  go_simp
  refine (pmake20 w3.drew).mono ?_
  rintro e5 w5 ⟨ga, gx, rfl, b5⟩
  have H5 : Hid (Ma20 w5 b G ∧ Kp (fun k => k = b) w w5) := ⟨HE.out.1.old b5, HE.out.2.trans (Kp.of_below (S := fun _ => False) b5) (fun _ _ x => x.elim)⟩
  clear b5
  refine hK.out _ _ (fun _ => HS.out _ H5.out.1) (fun hHeld0 => ?_)
  have hHeld := hHeld0 (by decide)
  clear hHeld0 hK K
  (try simp only [List.getElem_toArray, List.getElem_cons_zero, List.getElem_cons_succ, Act.put, List.setIfInBounds_toArray, List.set_cons_zero, List.set_cons_succ])
  refine wpAnyK_take (i := 11) (v := .agg #[.slice none 0 0, .slice (some ⟨ga, 0, none⟩) 0 0, .slice (some ⟨gx, 0, none⟩) 0 0]) rfl (by kernel_rfl) (by kernel_rfl) (by kernel_rfl) (by kernel_rfl) (fun _ _ _ h => h) (Or.inl ⟨by rfl, fun w hSw => by go_simp⟩) hHeld ?_
  simp only [List.getElem_toArray, List.getElem_cons_zero, List.getElem_cons_succ, Act.put, List.setIfInBounds_toArray, List.set_cons_zero, List.set_cons_succ]
  refine wpAnyK_take (i := 12) (v := .int .i64 0) rfl (by kernel_rfl) (by kernel_rfl) (by kernel_rfl) (by kernel_rfl) (fun _ _ _ h => h) (Or.inl ⟨by rfl, fun w hSw => by go_simp⟩) hHeld ?_
  simp only [List.getElem_toArray, List.getElem_cons_zero, List.getElem_cons_succ, Act.put, List.setIfInBounds_toArray, List.set_cons_zero, List.set_cons_succ]
  refine wpAnyK_one (i := 13) (by kernel_rfl) rfl (fun K hK => ?_)
  (try simp only [List.getElem_toArray, List.getElem_cons_zero, List.getElem_cons_succ, Act.put, List.setIfInBounds_toArray, List.set_cons_zero, List.set_cons_succ])
  go_simp
  refine (pgot20e none 0 0 (some ⟨ga, 0, none⟩) 0 0 (some ⟨gx, 0, none⟩) 0 0 w5).mono ?_
  rintro e6 w6 ⟨rfl, b6⟩
  have H6 : Hid (Ma20 w6 b G ∧ Kp (fun k => k = b) w w6) := ⟨H5.out.1.old b6, H5.out.2.trans (Kp.of_below (S := fun _ => False) b6) (fun _ _ x => x.elim)⟩
  clear b6 H5
  refine hK.out _ _ (fun _ => HS.out _ H6.out.1) (fun hHeld0 => ?_)
  have hHeld := hHeld0 (by decide)
  clear hHeld0 hK K
  (try simp only [List.getElem_toArray, List.getElem_cons_zero, List.getElem_cons_succ, Act.put, List.setIfInBounds_toArray, List.set_cons_zero, List.set_cons_succ])
  refine wpAnyK_take (i := 14) (v := .pointer (some ⟨b, 0, none⟩)) rfl (by kernel_rfl) (by kernel_rfl) (by kernel_rfl) (by kernel_rfl) (fun _ _ _ h => h) (Or.inl ⟨by rfl, fun w hSw => by go_simp⟩) hHeld ?_
  simp only [List.getElem_toArray, List.getElem_cons_zero, List.getElem_cons_succ, Act.put, List.setIfInBounds_toArray, List.set_cons_zero, List.set_cons_succ]
  refine wpAnyK_take (i := 15) (v := .pointer (some ⟨b, 11, none⟩)) rfl (by kernel_rfl) (by kernel_rfl) (by kernel_rfl) (by kernel_rfl) (fun _ _ _ h => h) (Or.inl ⟨by rfl, fun w hSw => by go_simp⟩) hHeld ?_
  simp only [List.getElem_toArray, List.getElem_cons_zero, List.getElem_cons_succ, Act.put, List.setIfInBounds_toArray, List.set_cons_zero, List.set_cons_succ]
  have d11 := H6.out.1.c (HG.out.2.2 11 (by decide))
  have f11 := H6.out.1.f (i := 11)
  have d12 := H6.out.1.c (HG.out.2.2 12 (by decide))
  have f12 := H6.out.1.f (i := 12)
  have d13 := H6.out.1.c (HG.out.2.2 13 (by decide))
  have f13 := H6.out.1.f (i := 13)
  have m9 := ((H6.out.1.set (i := 11) (.slice none 0 0)).set (i := 12) (.slice (some ⟨ga, 0, none⟩) 0 0)).set (i := 13) (.slice (some ⟨gx, 0, none⟩) 0 0)
  rw [HGC.out] at m9
  have HM9 := Hid.mk20 m9
  clear m9
  refine wpAnyK_one (i := 16) (by kernel_rfl) rfl (fun K hK => ?_)
  simp only [List.getElem_toArray, List.getElem_cons_zero, List.getElem_cons_succ, Act.put]
  go_simp
  refine hK.out _ _ (fun _ => ⟨HM9.out.c rfl, HM9.out.c rfl⟩) (fun _ => ?_)
  clear hK K
  refine wpAnyK_done (by kernel_rfl) ?_ _
  have m9 := HM9.out
  have k9 := (((H6.out.2.trans (Kp.set (S := fun k => k = b) rfl (.slice none 0 0) (i := 11)) (fun _ _ x => x)).trans (Kp.set (S := fun k => k = b) rfl (.slice (some ⟨ga, 0, none⟩) 0 0) (i := 12)) (fun _ _ x => x)).trans (Kp.set (S := fun k => k = b) rfl (.slice (some ⟨gx, 0, none⟩) 0 0) (i := 13)) (fun _ _ x => x))
  go_end0
  exact ⟨rfl, ⟨ga, gx, m9⟩, k9⟩
end Go.Proofs.YtmfpdchfofffeaaGreatDoor
