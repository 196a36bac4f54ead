import Derived.Test.YtmddnmpldmdllaaDoorPt
import Derived.Test.YtmddnmpldmdllaaDoorPn
import Derived.Test.YtmddnmpldmdllaaDoorPd
import Derived.Test.YtmddnmpldmdllaaDoorPf
import Derived.Test.YtmddnmpldmdllaaDoorPg
import Derived.Test.YtmddnmpldmdllaaDoorProg
import Derived.Test.YtmddnmpldmdllaaDoorPa
import Derived.WalkKit
import Derived.WalkSpells
import Derived.Laws.BytesArg
import Derived.Test.YtmddnmpldmdllaaDoorPb
namespace Go.Proofs.YtmddnmpldmdllaaDoor
open Go.RowKit
set_option linter.unusedVariables false

/-- A block that holds a reader of lengths: what stands ahead of its decoder, and the code that is loaded. -/
structure Rb8 (w : World) (b : Nat) (pre : List Value) (zs : List Int) : Prop where
  ok : errC zs = 0
  len : pre.length = 347
  row : ∃ S, S.length = 288 ∧ SymOk zs S zs.length ∧ w.heap[b]? = some (.cells (pre ++ (dl 19 zs S).map (Value.int .i64)).toArray 75 (0, 0))
theorem cel_of_block8 {w : World} {b : Nat} {pre : List Value} {L : List Int} {t : TypeId} (h : w.heap[b]? = some (.cells (pre ++ L.map (Value.int .i64)).toArray t (0, 0))) (hp : pre.length = 347) : Cel8 w b 347 L := ⟨fun i hi => by
  refine (cell_of_row w _ (347 + i) _ _ _ h).trans ?_
  simp [hp, List.getD, hi]⟩
theorem pre_cell8 {w : World} {b : Nat} {pre post : List Value} {t : TypeId} (h : w.heap[b]? = some (.cells (pre ++ post).toArray t (0, 0))) {i : Nat} {v : Value} (hv : pre[i]? = some v) : w.cell? ⟨b, i, none⟩ = some v := by
  refine (cell_of_row w _ i _ _ _ h).trans ?_
  have := (List.getElem?_eq_some_iff.1 hv).1
  simp [List.getElem?_append_left this, hv]
theorem Rb8.de {w : World} {b : Nat} {pre : List Value} {zs : List Int} (h : Rb8 w b pre zs) : De8 w b 19 zs := by
  obtain ⟨S, h1, h2, h3⟩ := h.row
  exact ⟨h.ok, ⟨by omega, by omega⟩, S, h1, h2, cel_of_block8 h3 h.len⟩
theorem Rb8.lt {w : World} {b : Nat} {pre : List Value} {zs : List Int} (h : Rb8 w b pre zs) : b < w.heap.size := by
  obtain ⟨S, _, _, h⟩ := h.row
  exact (Array.getElem?_eq_some_iff.1 h).1
theorem Rb8.keep {w w' : World} {b : Nat} {pre : List Value} {zs : List Int} (h : Rb8 w b pre zs) (hb : w'.heap[b]? = w.heap[b]?) : Rb8 w' b pre zs := by
  obtain ⟨S, h1, h2, h3⟩ := h.row
  exact ⟨h.ok, h.len, S, h1, h2, hb.trans h3⟩
theorem dl_load8 {pre : List Value} {m : Int} {T0 T : List Int} (hp : pre.length = 347) (h0 : T0.length = 305) (h : T.length = 305) : (List.take 348 (pre ++ (m :: T0).map (Value.int .i64)) ++ ((arr T).toList ++ List.drop (348 + (arr T).size) (pre ++ (m :: T0).map (Value.int .i64)))).toArray = (pre ++ (m :: T).map (Value.int .i64)).toArray := by
  rw [arr_size, h]
  have e : List.drop (348 + 305) (pre ++ (m :: T0).map (Value.int .i64)) = [] := List.drop_of_length_le (by simp [hp, h0])
  have e2 : List.take 348 (pre ++ (m :: T0).map (Value.int .i64)) = pre ++ [Value.int .i64 m] := by
    rw [List.take_append, hp, List.take_of_length_le (by omega)]
    simp
  rw [e, e2]
  simp [arr]
def LdQ8 (w : World) (b : Nat) (pre : List Value) (zs0 zs : List Int) (e : Ending) (w' : World) : Prop := e = .returned (.int .i64 (errD 19 zs)) ∧ Rb8 w' b pre (if errD 19 zs = 0 then zs else zs0) ∧ Kp (fun k => k = b) w w'
set_option maxRecDepth 100000 in
set_option maxHeartbeats 1000000 in
theorem load8 (b : Nat) (pre : List Value) (zs0 : List Int) (a : Option Addr) (zs : List Int) (n cap : Nat) (hn : Hid (zs.length = n)) (w : World) (hD : Rb8 w b pre zs0) (hs : SegZ w a zs) (hl : n ≤ 9223372036854775807) :
    Calls Tryd.prog 61 #[.pointer (some ⟨b, 347, none⟩), .slice a n cap] w fun e w' => LdQ8 w b pre zs0 zs e w' := by
  obtain ⟨S0, hS0, hY0, hb0⟩ := hD.row
  have hpl := hD.len
  have c0 := (cel_of_block8 hb0 hpl).at_ 0 (by simp [dl])
  have e0 : (dl 19 zs0 S0).getD 0 0 = 19 := rfl
  rw [e0, show 347 + 0 = 347 from rfl] at c0
  clear e0
  have hbl := hD.lt
  by_cases hbig : 19 < n
  · have hbi : (19 : Int) < (n : Int) := by omega
    have HE : Hid (errD 19 zs = 50) := by show _ = _; unfold errD; rw [hn.out, if_pos hbig]
    go_enter Tryd.func61, Tryd.ntmps61
    go_wp2_with fail
    go_ret
    exact ⟨by rw [HE.out]; rfl, by rw [HE.out]; exact hD, Kp.refl _ _⟩
  · have hbi : ¬ (19 : Int) < (n : Int) := by omega
    have HE : Hid (errD 19 zs = errC zs) := by show _ = _; unfold errD; rw [hn.out, if_neg hbig]
    have HC := checked_any a zs n cap hn w hs hl
    have key : ∀ E : Int, E = 50 ∨ E = 51 ∨ E = 52 → errC zs = E → Calls Tryd.prog 61 #[.pointer (some ⟨b, 347, none⟩), .slice a n cap] w fun e w' => LdQ8 w b pre zs0 zs e w' := by
      intro E hE hEE
      have HEE : Hid (errC zs = E) := hEE
      rw [hEE] at HC
      clear hEE
      rcases hE with rfl | rfl | rfl
      all_goals
        go_enter Tryd.func61, Tryd.ntmps61
        go_wp2_with fail
        refine HC.mono ?_
        rintro e W1 ⟨X, hX16, hXc, rfl, B1⟩
        have HX : Hid (X.length = 16) := hX16
        clear hXc hX16
        have B2 : Below w.heap.size w (W1.alloc (.cells (arr X) 65)) := B1.alloc B1.size _
        go_wp2_with (first
          | (refine wpList_store_row rfl 65 _ _ rfl W1.heap.size (arr X) rfl rfl _ zero16 (heap_alloc_new W1 _) (arr_info HX.out) (by rw [arr_size, HX.out]; rfl) (arr_one _) ?_; rw [World.setRow_alloc_new]))
        go_ret
        exact ⟨by rw [HE.out, HEE.out]; rfl, by rw [HE.out, HEE.out]; exact hD.keep (B2.block b hbl), Kp.of_below B2⟩
    rcases errC_cases zs with hok | h | h | h
    · have HOK : Hid (errC zs = 0) := hok
      rw [hok] at HC
      clear hok key
      have HLA : Hid (∀ W, Below w.heap.size w W → Calls Tryd.prog 75 #[.slice a n cap, .agg (arr (cnts zs))] W fun e w' => ∃ S : List Int, S.length = 288 ∧ SymOk zs S zs.length ∧ e = .returned (.agg (arr (tbl zs S))) ∧ Below W.heap.size W w') := fun W hW => laid_any a zs n cap hn W (hs.old hW) HOK
      go_enter Tryd.func61, Tryd.ntmps61
      go_wp2_with fail
      refine HC.mono ?_
      rintro e W1 ⟨X, hX16, hXc, rfl, B1⟩
      obtain rfl := hXc trivial
      clear hXc hX16
      have B2 : Below w.heap.size w (W1.alloc (.cells (arr (cnts zs)) 65)) := B1.alloc B1.size _
      have ho2 := new_arr (w := W1) (A := cnts zs) (t := 65)
      go_wp2_with (first
        | (refine wpList_store_row rfl 65 _ _ rfl W1.heap.size (arr (cnts zs)) rfl rfl _ zero16 (heap_alloc_new W1 _) (arr_info (cnts_len _)) (by rw [arr_size, cnts_len]; rfl) (arr_one _) ?_; rw [World.setRow_alloc_new])
        | (refine wpList_load_row rfl 65 _ rfl W1.heap.size rfl _ _ _ _ ho2 Tryd.underlying65 rfl (arr_info (cnts_len _)) ?_))
      generalize W1.alloc (.cells (arr (cnts zs)) 65) = W2 at *
      refine (HLA.out _ B2).mono ?_
      rintro e W3 ⟨S, hS, hY, rfl, B3⟩
      have HS : Hid (S.length = 288 ∧ SymOk zs S zs.length) := ⟨hS, hY⟩
      clear hS hY
      have B23 : Below w.heap.size w W3 := B2.trans (B3.mono B2.size)
      have hb3 := (B23.block b hbl).trans hb0
      go_wp2_with (first
        | (refine wpList_store_at rfl 68 _ _ rfl b 348 (arr (tbl zs S)) rfl rfl _ _ hb3 (info305 (tbl_len HS.out.1)) (by rw [arr_size, tbl_len HS.out.1]; simp [hpl, dl, tbl_len hS0]) (arr_one _) ?_))
      have hdl : (List.take 348 (pre ++ (dl 19 zs0 S0).map (Value.int .i64)) ++ ((arr (tbl zs S)).toList ++ List.drop (348 + (arr (tbl zs S)).size) (pre ++ (dl 19 zs0 S0).map (Value.int .i64)))).toArray = (pre ++ (dl 19 zs S).map (Value.int .i64)).toArray := dl_load8 hpl (tbl_len hS0) (tbl_len HS.out.1)
      rw [hdl]
      go_ret
      have hR := setRow_heap W3 b _ ((pre ++ (dl 19 zs S).map (Value.int .i64)).toArray) _ _ hb3
      refine ⟨by rw [HE.out, HOK.out]; rfl, ?_, ?_⟩
      · rw [HE.out, HOK.out, if_pos rfl]
        exact ⟨HOK.out, hpl, S, HS.out.1, HS.out.2, hR⟩
      · exact (Kp.of_below B23).trans (Kp.grown (S := fun k => k = b) (grown_setRow W3 b _) (fun i hi => by cases hi; rfl)) (fun _ _ h => h)
    · exact key 50 (.inl rfl) h
    · exact key 51 (.inr (.inl rfl)) h
    · exact key 52 (.inr (.inr rfl)) h
end Go.Proofs.YtmddnmpldmdllaaDoor

namespace Go.Proofs.YtmddnmpldmdllaaDoor
open Go.RowKit
set_option linter.unusedVariables false

/-! The document's Told, over any reckoning of Check (ck: errC of CdC, by rcheck5_any of CdR). -/
def tld8 (ck : List Int → Int) (lit dist : List Int) : Prop := 257 ≤ lit.length ∧ lit.length ≤ 286 ∧ dist.length ≤ 30 ∧ ck lit = 0 ∧ ck dist = 0 ∧ lit.getD 256 0 ≠ 0
instance (ck : List Int → Int) (lit dist : List Int) : Decidable (tld8 ck lit dist) := by unfold tld8; infer_instance
/-- What Check answers at one list. -/
structure Chk8 (w : World) (a : Option Addr) (n ca : Nat) (v : Int) : Prop where
  out : Calls Tryd.prog 120 #[.slice a n ca] w fun e w' => e = .returned (.int .i64 v) ∧ w' = w
end Go.Proofs.YtmddnmpldmdllaaDoor

namespace Go.Proofs.YtmddnmpldmdllaaDoor
open Go.RowKit
set_option linter.unusedVariables false

theorem WrL.below {w w' : World} {b B N : Nat} {v : Value} {L : List Bool} (h : WrL w b B v L) (hk : Kp (WS b v) w w') (h1 : N ≤ b) (h2 : N ≤ B) : Below N w w' :=
  hk.below (fun i e => by
    rcases e with e | e
    · omega
    · have := (h.own_lt i e).1; omega) (by have := h.b_lt; omega)
theorem heap_new (w : World) (o : Obj) : (w.alloc o).heap[w.heap.size]? = some o := heap_alloc_new w o
theorem toB_five : toB (([] : List Bool) ++ bN 5 3 ++ bN 1 2) = [13] := by
  rw [toB_eq (by decide)]
  rw [show (([] : List Bool) ++ bN 5 3 ++ bN 1 2).drop 8 = [] from by decide, toB_nil]
  decide

end Go.Proofs.YtmddnmpldmdllaaDoor

namespace Go.Proofs.YtmddnmpldmdllaaDoor
open Go.RowKit
set_option linter.unusedVariables false

def lent5 (zs : List Int) : List Int := zs ++ [71, 72, 73]
theorem lent5_bd {zs : List Int} (h : ∀ z ∈ zs, -9223372036854775808 ≤ z ∧ z ≤ 9223372036854775807) : ∀ z ∈ lent5 zs, -9223372036854775808 ≤ z ∧ z ≤ 9223372036854775807 := by
  intro z hz
  unfold lent5 at hz
  rw [List.mem_append] at hz
  rcases hz with hz | hz
  · exact h z hz
  · simp at hz; omega
theorem seg_three (w : World) : SegZ (w.alloc (.cells #[.int .i64 71, .int .i64 72, .int .i64 73] 3)) (some ⟨w.heap.size, 0, none⟩) [71, 72, 73] := by
  refine ⟨fun i hi => ⟨w.heap.size, 0, rfl, ?_⟩, getD_bdz (by intro z hz; simp at hz; omega)⟩
  simp only [List.length_cons, List.length_nil] at hi
  match i, hi with
  | 0, _ => simp
  | 1, _ => simp
  | 2, _ => simp
def LenQ5 (w : World) (zs : List Int) (e : Ending) (w' : World) : Prop := ∃ g c, e = .returned (.tuple #[.slice (some ⟨g, 0, none⟩) (lent5 zs).length c, .slice (some ⟨g, 0, none⟩) zs.length c]) ∧ w'.ownsRow w.heap.size 3 1 (.slice (some ⟨g, 0, none⟩) (lent5 zs).length c) (lent5 zs).length ((lent5 zs).map (Value.int .i64)) ∧ (lent5 zs).length ≤ c ∧ Below w.heap.size w w'
end Go.Proofs.YtmddnmpldmdllaaDoor

namespace Go.Proofs.YtmddnmpldmdllaaDoor
open Go.RowKit
set_option linter.unusedVariables false

theorem spc_nil : spc [] = 0 := cP_nil 16
theorem tot_nil : tot [] = 0 := cS_nil 16
theorem spc_take {zs : List Int} {k : Nat} (h : zs.length ≤ 288) (hk : LOk (zs.take k)) : spc (zs.take k) ≤ 288 * 16384 := by
  have h1 := spc_tot (zs.take k)
  have h2 := tot_le (zs.take k) hk
  have h3 : (zs.take k).length ≤ 288 := by simp; omega
  have h4 : tot (zs.take k) ≤ 288 := by omega
  exact Nat.le_trans h1 (Nat.mul_le_mul_right _ h4)
theorem LOk.take_of {zs : List Int} {k : Nat} (h : ∀ i, i < k → 0 ≤ zs.getD i 0 ∧ zs.getD i 0 ≤ 15) : LOk (zs.take k) := by
  intro z hz
  obtain ⟨i, hi, rfl⟩ := List.mem_iff_getElem.1 hz
  have hi2 : i < k ∧ i < zs.length := by simp at hi; omega
  have := h i hi2.1
  simpa [List.getD, hi2.2] using this

end Go.Proofs.YtmddnmpldmdllaaDoor

namespace Go.Proofs.YtmddnmpldmdllaaDoor
open Go.RowKit
set_option linter.unusedVariables false

/-- The codes that have been given out when length n has come to symbol s. -/
def cdn (zs : List Int) (N n s : Nat) : List Int := (List.range N).map fun t => if 0 < ln zs t ∧ (ln zs t < n ∨ (ln zs t = n ∧ t < s)) then (cd zs t : Int) else 0
theorem cdn_len (zs : List Int) (N n s : Nat) : (cdn zs N n s).length = N := by simp [cdn]
theorem cdn_zero (zs : List Int) (N : Nat) : cdn zs N 1 0 = List.replicate N 0 := by
  apply List.ext_getElem (by simp [cdn])
  intro i h1 h2
  simp only [cdn, List.getElem_map, List.getElem_range, List.getElem_replicate]
  rw [if_neg (by omega)]
theorem cdn_next (zs : List Int) (n : Nat) : cdn zs zs.length n zs.length = cdn zs zs.length (n + 1) 0 := by
  unfold cdn
  apply List.map_congr_left
  intro t ht
  rw [List.mem_range] at ht
  have e : (0 < ln zs t ∧ (ln zs t < n ∨ ln zs t = n ∧ t < zs.length)) = (0 < ln zs t ∧ (ln zs t < n + 1 ∨ ln zs t = n + 1 ∧ t < 0)) := propext (by omega)
  simp only [e]
theorem cdn_skip {zs : List Int} {N n s : Nat} (h : ln zs s ≠ n) : cdn zs N n (s + 1) = cdn zs N n s := by
  unfold cdn
  apply List.map_congr_left
  intro t _
  have e : (0 < ln zs t ∧ (ln zs t < n ∨ ln zs t = n ∧ t < s + 1)) = (0 < ln zs t ∧ (ln zs t < n ∨ ln zs t = n ∧ t < s)) := by
    apply propext
    by_cases c : t = s
    · subst c; omega
    · omega
  simp only [e]
theorem cdn_put {zs : List Int} {N n s : Nat} (h : ln zs s = n) (h0 : 0 < n) : (cdn zs N n s).set s (cd zs s : Int) = cdn zs N n (s + 1) := by
  apply List.ext_getElem (by simp [cdn])
  intro i h1 h2
  simp only [List.getElem_set, cdn, List.getElem_map, List.getElem_range]
  by_cases e : s = i
  · subst e
    rw [if_pos rfl, if_pos (by omega)]
  · rw [if_neg e]
    have e2 : (0 < ln zs i ∧ (ln zs i < n ∨ ln zs i = n ∧ i < s)) = (0 < ln zs i ∧ (ln zs i < n ∨ ln zs i = n ∧ i < s + 1)) := propext (by omega)
    simp only [e2]
theorem cdn_all {zs : List Int} (h : LOk zs) : cdn zs zs.length 16 0 = cds zs := by
  unfold cdn cds
  apply List.map_congr_left
  intro t ht
  have hl := (h.ln t).2
  by_cases c : 0 < ln zs t
  · rw [if_pos (by omega)]
  · rw [if_neg (by omega)]
    have : zs.getD t 0 = 0 := by have := (h.ln t).1; omega
    rw [cd_none this]
    rfl
/-- What the document's two numbers mean at length n, symbol s. -/
def NL (zs : List Int) (n s nx la : Nat) : Prop := (la = 0 → nx = 0 ∧ cF zs n + cC (zs.take s) n = 0) ∧ (0 < la → la ≤ n ∧ (nx + 1) * 2 ^ (n - la) = cF zs n + cC (zs.take s) n)
theorem NL.start (zs : List Int) : NL zs 1 0 0 0 := by
  refine ⟨fun _ => ⟨rfl, ?_⟩, fun h => by omega⟩
  rw [cF_succ, cC_zero, List.take_zero]
  unfold cC
  simp [cF]
theorem NL.next {zs : List Int} {n nx la : Nat} (h : NL zs n zs.length nx la) : NL zs (n + 1) 0 nx la := by
  have e0 : cC (zs.take 0) (n + 1) = 0 := by rw [List.take_zero]; unfold cC; split <;> simp
  have e1 : zs.take zs.length = zs := List.take_length
  unfold NL at h ⊢
  rw [e1] at h
  rw [e0, cF_succ]
  refine ⟨fun hl => ⟨(h.1 hl).1, by have := (h.1 hl).2; omega⟩, fun hl => ⟨by have := (h.2 hl).1; omega, ?_⟩⟩
  have h2 := h.2 hl
  rw [show n + 1 - la = (n - la) + 1 by omega, Nat.pow_succ, ← Nat.mul_assoc, h2.2]
  omega
theorem NL.skip {zs : List Int} {n s nx la : Nat} {z : Int} (h : NL zs n s nx la) (ht : zs.take (s + 1) = zs.take s ++ [z]) (hz : z ≠ (n : Int)) : NL zs n (s + 1) nx la := by
  unfold NL at h ⊢
  rw [ht, cC_snoc, if_neg (fun e => hz e.2), Nat.add_zero]
  exact h
theorem NL.code {zs : List Int} {n s nx la : Nat} (h : NL zs n s nx la) (hz : zs.getD s 0 = (n : Int)) (h0 : 0 < n) : cd zs s = (if la = 0 then nx else (nx + 1) * 2 ^ (n - la)) := by
  have e := cd_nxt hz h0
  by_cases c : la = 0
  · rw [if_pos c]
    have := h.1 c
    omega
  · rw [if_neg c]
    have := (h.2 (by omega)).2
    omega
theorem NL.put {zs : List Int} {n s : Nat} (ht : zs.take (s + 1) = zs.take s ++ [(n : Int)]) (hz : zs.getD s 0 = (n : Int)) (h0 : 0 < n) : NL zs n (s + 1) (cd zs s) n := by
  have e := cd_nxt hz h0
  refine ⟨fun h => by omega, fun _ => ⟨Nat.le_refl _, ?_⟩⟩
  rw [ht, cC_snoc, if_pos ⟨by omega, rfl⟩, Nat.sub_self, Nat.pow_zero, Nat.mul_one]
  omega

theorem NL.bd {zs : List Int} {n s nx la : Nat} (h : NL zs n s nx la) (hf : cF zs n ≤ 100000000) (hc : cC (zs.take s) n ≤ 288) : nx ≤ 100001000 := by
  by_cases c : la = 0
  · have := (h.1 c).1; omega
  · have h1 := (h.2 (by omega)).2
    have h2 : (nx + 1) * 1 ≤ (nx + 1) * 2 ^ (n - la) := Nat.mul_le_mul_left _ Nat.one_le_two_pow
    omega
def RodQ (w : World) (zs : List Int) (e : Ending) (w' : World) : Prop := ∃ b c, e = .returned (.tuple #[.slice b (cdsR zs).length c, .int .i64 (errC zs)]) ∧ w'.ownsRow w.heap.size 3 1 (.slice b (cdsR zs).length c) (cdsR zs).length ((cdsR zs).map (Value.int .i64)) ∧ Below w.heap.size w w'
end Go.Proofs.YtmddnmpldmdllaaDoor

namespace Go.Proofs.YtmddnmpldmdllaaDoor
open Go.RowKit
set_option linter.unusedVariables false

theorem run_conv_segS {P : Program} {w : World} {a : Option Addr} {zs : List Int} (cap : Nat) (h : Seg w a zs) (src e dst : TypeId) (hs : P.underlying src = some (.slice e)) (he : P.underlying e = some (.int .u8)) (hd : P.underlying dst = some .string) :
    (convert src dst (.slice a zs.length cap)).run P w = .ok (.string (strOfNums zs)) w := by
  by_cases hz : 0 < zs.length
  · obtain ⟨b, off, rfl, _⟩ := h.at_ 0 hz
    refine run_convert_bytes_arg w src e hs he b off zs.length cap zs rfl (fun i hi => ?_) dst hd
    obtain ⟨b', off', hb, hc⟩ := h.at_ i hi
    cases hb
    exact hc
  · have : zs = [] := List.eq_nil_of_length_eq_zero (by omega)
    subst this
    cases a with
    | none => exact run_convert_bytes_nil w src e hs he _ _ dst hd
    | some x =>
      rw [run_convert_bytes_string w src dst e _ _ cap hs he hd]
      have hl : (loadCells x 0).run P w = .ok (([] : List Int).map (Value.int .u8)).toArray w := by simp [loadCells, loadCellsFrom]
      have := run_bytesToString (P := P) w x 0 cap [] hl
      exact this

theorem str_injS {xs ys : List Int} (hx : ∀ z ∈ xs, 0 ≤ z ∧ z ≤ 255) (hy : ∀ z ∈ ys, 0 ≤ z ∧ z ≤ 255) : ((strOfNums xs).toList == (strOfNums ys).toList) = (xs == ys) := by
  rw [ByteArray.toList_eq, ByteArray.toList_eq, strOfNums_data, strOfNums_data]
  have key : ∀ (xs ys : List Int), (∀ z ∈ xs, 0 ≤ z ∧ z ≤ 255) → (∀ z ∈ ys, 0 ≤ z ∧ z ≤ 255) → (xs.map fun n => UInt8.ofNat n.toNat) = (ys.map fun n => UInt8.ofNat n.toNat) → xs = ys := by
    intro xs
    induction xs with
    | nil => intro ys _ _ h; cases ys with
      | nil => rfl
      | cons y r => simp at h
    | cons x r ih =>
      intro ys hx hy h
      cases ys with
      | nil => simp at h
      | cons y t =>
        simp only [List.map_cons, List.cons.injEq] at h
        have h1 := hx x (by simp)
        have h2 := hy y (by simp)
        have h3 := congrArg UInt8.toNat h.1
        simp at h3
        have h4 : x = y := by omega
        rw [h4, ih t (fun z hz => hx z (by simp [hz])) (fun z hz => hy z (by simp [hz])) h.2]
  rw [Bool.eq_iff_iff, beq_iff_eq, beq_iff_eq]
  exact ⟨key xs ys hx hy, fun h => by rw [h]⟩

end Go.Proofs.YtmddnmpldmdllaaDoor

namespace Go.Proofs.YtmddnmpldmdllaaDoor
open Go.RowKit
set_option linter.unusedVariables false

theorem own_less {w : World} {base n g cap : Nat} {e : TypeId} {xs : List Value} {y : Value} (h : w.ownsRow base e 1 (.slice (some ⟨g, 0, none⟩) (n + 1) cap) (n + 1) (xs ++ [y])) : w.ownsRow base e 1 (.slice (some ⟨g, 0, none⟩) n cap) n xs := by
  have hl : xs.length = n := by have := h.1; simp at this; omega
  refine ⟨by omega, ?_⟩
  rcases h.2 with ⟨h0, _⟩ | ⟨g', cap', cur, hv, hb, hg, hc, hm, hs, ht⟩
  · cases h0
  · simp only [Value.slice.injEq, Option.some.injEq, Addr.mk.injEq, and_true, true_and] at hv
    obtain ⟨rfl, rfl⟩ := hv
    refine .inr ⟨g, cap, cur, rfl, hb, hg, by omega, hm, hs, ?_⟩
    have h2 := congrArg (List.take n) ht
    rw [List.take_take, List.take_append_of_le_length (by omega), List.take_of_length_le (by omega : xs.length ≤ n)] at h2
    rw [Nat.mul_one] at h2 ⊢
    rw [Nat.min_eq_left (by omega)] at h2
    exact h2

theorem own_take {w : World} {base m l g cap : Nat} {e : TypeId} {xs : List Value} (h : w.ownsRow base e 1 (.slice (some ⟨g, 0, none⟩) m cap) m xs) (hl : l ≤ m) : w.ownsRow base e 1 (.slice (some ⟨g, 0, none⟩) l cap) l (xs.take l) := by
  have hx : xs.length = m := by have := h.1; simp at this; omega
  refine ⟨by simp; omega, ?_⟩
  rcases h.2 with ⟨h0, _⟩ | ⟨g', cap', cur, hv, hb, hg, hc, hm, hs, ht⟩
  · cases h0
  · simp only [Value.slice.injEq, Option.some.injEq, Addr.mk.injEq, and_true, true_and] at hv
    obtain ⟨rfl, rfl⟩ := hv
    refine .inr ⟨g, cap, cur, rfl, hb, hg, by omega, hm, hs, ?_⟩
    rw [← ht, List.take_take, Nat.mul_one, Nat.mul_one, Nat.min_eq_left hl]

/-- An append of one cell onto a row of the call's own: the row itself stays; the new one is at its place, or in a new block. -/
theorem run_push_st {P : Program} (t ty : TypeId) (base : Nat) (e : TypeId) (i : TypeInfo) (z : Value) (bytes : Nat) (ht : P.underlying t = some (.slice e)) (hi : P.info? e = some i) (hz : i.zero = some z)
    (hsize : i.size = 1) (hby : i.bytes = bytes) (hzs : z.cells.size = 1)
    (w0 : World) (y : Value) (hy : y.oneCell' = true) {v : Value} {n : Nat} {xs : List Value} (hown : w0.ownsRow base e 1 v n xs)
    (h63 : n + 1 ≤ 140737488355328) (hbytes : (n + 1) * bytes ≤ 140737488355328) (hbase : base ≤ w0.heap.size) :
    ∃ v' w', (Builtin.append_ #[t, t] ty #[v, .slice (some ⟨w0.heap.size, 0, none⟩) 1 1]).run P (w0.alloc (.cells #[y] e)) = .ok v' w' ∧ w'.ownsRow base e 1 v' (n + 1) (xs ++ [y]) ∧ w0.grownBy w' v.ownBlock ∧
      w'.ownsRow base e 1 v n xs ∧ ((∃ g c, v = .slice (some ⟨g, 0, none⟩) n c ∧ v' = .slice (some ⟨g, 0, none⟩) (n + 1) c) ∨ ∃ g, v'.ownBlock = some g ∧ w0.heap.size ≤ g) := by
  have hown1 := hown.alloc (.cells #[y] e)
  have hcell := cell_one_new w0 y e
  have h1c : ∀ u ∈ [y], u.oneCell' = true := by intro u hu; simp at hu; subst hu; exact hy
  obtain ⟨v', w', hr, h1, h2, _⟩ := run_append_own (P := P) (w0.alloc (.cells #[y] e)) base t ty e i z 1 bytes ht hi hz hsize hby hzs (by decide) v n xs hown1 ⟨w0.heap.size, 0, none⟩ 1 1 [y] rfl hcell h1c (by unfold maxLen; omega) hbytes (by simp; omega)
  refine ⟨v', w', hr, h1, grownBy_trans (World.grownBy_alloc w0 _ _) h2, ?_⟩
  subst hby
  rcases hown.2 with ⟨rfl, rfl⟩ | ⟨g, cap, cur, rfl, hbg, hg, hnc, hcm, hcs, htake⟩
  · have hx : xs = [] := List.eq_nil_of_length_eq_zero (by simpa using hown.1)
    subst hx
    have hr2 := run_append_nil (P := P) (w0.alloc (.cells #[y] e)) t ty e i z ht hi hz ⟨w0.heap.size, 0, none⟩ 1 1 [y] (by rw [hsize]; rfl) hcell (by decide) (by decide) (by simp only [Nat.zero_add] at hbytes; omega)
    rw [hr] at hr2
    simp only [Result.ok.injEq] at hr2
    obtain ⟨rfl, rfl⟩ := hr2
    exact ⟨World.ownsRow_nil _ _ _ _, .inr ⟨_, rfl, by simp⟩⟩
  · by_cases hroom : n + 1 ≤ cap
    · have hg1 : (w0.alloc (.cells #[y] e)).heap[g]? = some (.cells cur e (0, 0)) := by
        rw [Below.heap_alloc _ _ _ (Array.getElem?_eq_some_iff.1 hg).1]; exact hg
      have hr2 := run_append_room (P := P) (w0.alloc (.cells #[y] e)) t ty e i ht hi g n cap cur hg1 ⟨w0.heap.size, 0, none⟩ 1 1 [y] (by rw [hsize]; rfl) hcell h1c hroom (by rw [hsize]; simp; omega)
      rw [hr] at hr2
      simp only [Result.ok.injEq] at hr2
      obtain ⟨rfl, rfl⟩ := hr2
      exact ⟨own_less h1, .inl ⟨g, cap, rfl, rfl⟩⟩
    · have hr2 := run_append_grow (P := P) (w0.alloc (.cells #[y] e)) t ty e i z ht hi hz ⟨g, 0, none⟩ n cap xs (by rw [hsize]; exact hown.1) (hown1.cells (g := g) rfl) ⟨w0.heap.size, 0, none⟩ 1 1 [y] (by rw [hsize]; rfl) hcell (by omega) (by omega) (growslice_fits (by omega) hbytes)
      rw [hr] at hr2
      simp only [Result.ok.injEq] at hr2
      obtain ⟨rfl, rfl⟩ := hr2
      refine ⟨?_, .inr ⟨_, rfl, by simp⟩⟩
      exact World.ownsRow.alloc (w := (w0.alloc (.cells #[y] e)).drew) hown1 _

theorem wpList_push_st {P : Program} {ops : Array Oper} {rest : List Oper} {o : Oper} {a : Act} {Q : Exit → Act → World → Prop} (hgd : o.guard = none) (s x : Operand) (t : TypeId)
    (ho : o.op = .call { callee := .builtin .append, args := #[s, x], argTypes := #[t, t] })
    (base : Nat) (e : TypeId) (i : TypeInfo) (z : Value) (bytes : Nat) (ht : P.underlying t = some (.slice e)) (hi : P.info? e = some i) (hz : i.zero = some z)
    (hsize : i.size = 1) (hby : i.bytes = bytes) (hzs : z.cells.size = 1)
    (w0 : World) (y : Value) (hy : y.oneCell' = true) {v : Value} {n : Nat} {xs : List Value} (hown : w0.ownsRow base e 1 v n xs) (hs : a.eval s = v) (hx : a.eval x = .slice (some ⟨w0.heap.size, 0, none⟩) 1 1)
    (h63 : n + 1 ≤ 140737488355328) (hbytes : (n + 1) * bytes ≤ 140737488355328) (hbase : base ≤ w0.heap.size)
    (h : ∀ (g c : Nat) (w' : World), w'.ownsRow base e 1 (.slice (some ⟨g, 0, none⟩) (n + 1) c) (n + 1) (xs ++ [y]) → w0.grownBy w' v.ownBlock → w'.ownsRow base e 1 v n xs → (v = .slice (some ⟨g, 0, none⟩) n c ∨ w0.heap.size ≤ g) → wpList P ops Q rest (a.put o.dst (.slice (some ⟨g, 0, none⟩) (n + 1) c)) w') : wpList P ops Q (o :: rest) a (w0.alloc (.cells #[y] e)) := by
  obtain ⟨v', w', hr, h2, h3, h4, h5⟩ := run_push_st (P := P) t o.type base e i z bytes ht hi hz hsize hby hzs w0 y hy hown h63 hbytes hbase
  obtain ⟨g, c, rfl, _⟩ := own_shape h2 (by omega)
  refine wpList_plain hgd fun K hK => ?_
  unfold Oper.wp execOp
  simp only [ho, resolve, invoke, builtin, Sem.run_bind, Sem.run_pure, Result.andThen_ok, List.map_toArray, List.map_cons, List.map_nil, hs, hx, hr]
  refine hK _ _ (h g c w' h2 h3 h4 ?_)
  rcases h5 with ⟨g', c', e1, e2⟩ | ⟨g', e1, e2⟩
  · cases e2; exact .inl e1
  · cases e1; exact .inr e2
end Go.Proofs.YtmddnmpldmdllaaDoor
