
import Derived.Test.YtoeabfcnfofbiaaDoorCdK
namespace Go.Proofs.YtoeabfcnfofbiaaDoor
open Go.RowKit
set_option linter.unusedVariables false

/-- Many cells into the middle of a block. -/
theorem wpList_store_at {P : Program} {ops : Array Oper} {rest : List Oper} {o : Oper} {a : Act} {w : World} {Q : Exit → Act → World → Prop} (hgd : o.guard = none) (ty : TypeId) (x y : Operand) (ho : o.op = .store ty x y)
    (g off : Nat) (cells : Array Value) (hx : a.eval x = .pointer (some ⟨g, off, none⟩)) (hy : a.eval y = .agg cells)
    (t : TypeId) (old : Array Value) (hg : w.heap[g]? = some (.cells old t (0, 0))) (hi : (P.info? ty).map (·.size) = some cells.size)
    (hfit : off + cells.size ≤ old.size) (h1 : cells.all (·.oneCell') = true)
    (h : wpList P ops Q rest (a.put o.dst undef) (w.setRow g (old.toList.take off ++ cells.toList ++ old.toList.drop (off + cells.size)).toArray)) : wpList P ops Q (o :: rest) a w := by
  refine wpList_plain hgd fun K hK => ?_
  have hst := run_storeCells_at P g off t cells.toList 0 old w hg (by simpa using hfit) (fun v hv => (Array.all_eq_true_iff_forall_mem.1 h1) v (by simpa using hv))
  simp only [Nat.add_zero, Array.length_toList] at hst
  generalize w.setRow g (old.toList.take off ++ cells.toList ++ old.toList.drop (off + cells.size)).toArray = w2 at *
  cases hq : P.info? ty with
  | none => simp [hq] at hi
  | some i =>
    have hs : cells.size = i.size := by simp [hq] at hi; omega
    unfold Oper.wp execOp
    simp only [ho, hx, hy, Instr.storeAt, Instr.sureAddr, Sem.run_bind, Sem.run_pure, Result.andThen_ok]
    have hsv : (storeVar ty ⟨g, off, none⟩ (.agg cells)).run P w = .ok () w2 := by
      simp [storeVar, sizeOf, typeInfo, hq, Value.cells, hs, hst]
    simp only [hsv, Result.andThen_ok]
    exact hK _ _ h
theorem dl_load (m : Int) {T0 T : List Int} (h0 : T0.length = 305) (h : T.length = 305) : ((arr (m :: T0)).toList.take 1 ++ (arr T).toList ++ (arr (m :: T0)).toList.drop (1 + (arr T).size)).toArray = arr (m :: T) := by
  rw [arr_size, h]
  have e : (arr (m :: T0)).toList.drop (1 + 305) = [] := List.drop_of_length_le (by simp [arr, h0])
  rw [e]
  simp [arr]
def errD (most : Nat) (zs : List Int) : Int := if most < zs.length then 50 else errC zs
def LodQ (w : World) (b most : Nat) (zs0 zs : List Int) (e : Ending) (w' : World) : Prop := e = .returned (.int .i64 (errD most zs)) ∧ De w' b most (if errD most zs = 0 then zs else zs0) ∧ Kp (fun k => k = b) w w'

set_option maxRecDepth 100000 in
set_option maxHeartbeats 1000000 in
theorem load_any (b most : Nat) (zs0 : List Int) (a : Option Addr) (zs : List Int) (n cap : Nat) (hn : Hid (zs.length = n)) (w : World) (hD : De w b most zs0) (hs : SegZ w a zs) (hl : n ≤ 9223372036854775807) :
    Calls Tryd.prog 99 #[.pointer (some ⟨b, 0, none⟩), .slice a n cap] w fun e w' => LodQ w b most zs0 zs e w' := by
  obtain ⟨S0, hS0, hY0, hb0⟩ := hD.row
  have c0 := arr_cell hb0 (i := 0) (by simp [dl])
  have e0 : (dl most zs0 S0).getD 0 0 = (most : Int) := rfl
  rw [e0] at c0
  have hm := hD.mo
  have hm0 : ¬ (most : Int) = 0 := by omega
  clear e0
  have hbl := hD.lt
  by_cases hbig : most < n
  · have hbi : (most : Int) < (n : Int) := by omega
    have HE : Hid (errD most zs = 50) := by show _ = _; unfold errD; rw [hn.out, if_pos hbig]
    go_enter Tryd.func99, Tryd.ntmps99
    go_wp2_with fail
    go_ret
    exact ⟨by rw [HE.out]; rfl, by rw [HE.out]; exact hD, Kp.refl _ _⟩
  · have hbi : ¬ (most : Int) < (n : Int) := by omega
    have HE : Hid (errD most zs = errC zs) := by show _ = _; unfold errD; rw [hn.out, if_neg hbig]
    have HC := checked_any a zs n cap hn w hs hl
    have key : ∀ E : Int, E = 50 ∨ E = 51 ∨ E = 52 → errC zs = E → Calls Tryd.prog 99 #[.pointer (some ⟨b, 0, none⟩), .slice a n cap] w fun e w' => LodQ w b most zs0 zs e w' := by
      intro E hE hEE
      have HEE : Hid (errC zs = E) := hEE
      rw [hEE] at HC
      clear hEE
      rcases hE with rfl | rfl | rfl
      all_goals
        go_enter Tryd.func99, Tryd.ntmps99
        go_wp2_with fail
        refine HC.mono ?_
        rintro e W1 ⟨X, hX16, hXc, rfl, B1⟩
        have HX : Hid (X.length = 16) := hX16
        clear hXc hX16
        have B2 : Below w.heap.size w (W1.alloc (.cells (arr X) 83)) := B1.alloc B1.size _
        go_wp2_with (first
          | (refine wpList_store_row rfl 83 _ _ rfl W1.heap.size (arr X) rfl rfl _ zero16 (heap_alloc_new W1 _) (arr_info HX.out) (by rw [arr_size, HX.out]; rfl) (arr_one _) ?_; rw [World.setRow_alloc_new]))
        go_ret
        exact ⟨by rw [HE.out, HEE.out]; rfl, by rw [HE.out, HEE.out]; exact hD.keep (B2.block b hbl), Kp.of_below B2⟩
    rcases errC_cases zs with hok | h | h | h
    · have HOK : Hid (errC zs = 0) := hok
      rw [hok] at HC
      clear hok key
      have HLA : Hid (∀ W, Below w.heap.size w W → Calls Tryd.prog 114 #[.slice a n cap, .agg (arr (cnts zs))] W fun e w' => ∃ S : List Int, S.length = 288 ∧ SymOk zs S zs.length ∧ e = .returned (.agg (arr (tbl zs S))) ∧ Below W.heap.size W w') := fun W hW => laid_any a zs n cap hn W (hs.old hW) HOK
      go_enter Tryd.func99, Tryd.ntmps99
      go_wp2_with fail
      refine HC.mono ?_
      rintro e W1 ⟨X, hX16, hXc, rfl, B1⟩
      obtain rfl := hXc trivial
      clear hXc hX16
      have B2 : Below w.heap.size w (W1.alloc (.cells (arr (cnts zs)) 83)) := B1.alloc B1.size _
      have ho2 := new_arr (w := W1) (A := cnts zs) (t := 83)
      go_wp2_with (first
        | (refine wpList_store_row rfl 83 _ _ rfl W1.heap.size (arr (cnts zs)) rfl rfl _ zero16 (heap_alloc_new W1 _) (arr_info (cnts_len _)) (by rw [arr_size, cnts_len]; rfl) (arr_one _) ?_; rw [World.setRow_alloc_new])
        | (refine wpList_load_row rfl 83 _ rfl W1.heap.size rfl _ _ _ _ ho2 Tryd.underlying83 rfl (arr_info (cnts_len _)) ?_))
      generalize W1.alloc (.cells (arr (cnts zs)) 83) = W2 at *
      refine (HLA.out _ B2).mono ?_
      rintro e W3 ⟨S, hS, hY, rfl, B3⟩
      have HS : Hid (S.length = 288 ∧ SymOk zs S zs.length) := ⟨hS, hY⟩
      clear hS hY
      have B23 : Below w.heap.size w W3 := B2.trans (B3.mono B2.size)
      have hb3 := (B23.block b hbl).trans hb0
      go_wp2_with (first
        | (refine wpList_store_at rfl 86 _ _ rfl b 1 (arr (tbl zs S)) rfl rfl _ _ hb3 (info305 (tbl_len HS.out.1)) (by rw [arr_size, arr_size, tbl_len HS.out.1]; simp [dl, tbl_len hS0]) (arr_one _) ?_))
      have hdl : (List.take 1 (arr (dl most zs0 S0)).toList ++ ((arr (tbl zs S)).toList ++ List.drop (1 + (arr (tbl zs S)).size) (arr (dl most zs0 S0)).toList)).toArray = arr (dl most zs S) := by
        rw [← List.append_assoc]
        exact dl_load (most : Int) (tbl_len hS0) (tbl_len HS.out.1)
      rw [hdl]
      go_ret
      have hR : (W3.setRow b (arr (dl most zs S))).heap[b]? = some (.cells (arr (dl most zs S)) 88 (0, 0)) := setRow_heap W3 b _ _ _ _ hb3
      refine ⟨by rw [HE.out, HOK.out]; rfl, ?_, ?_⟩
      · rw [HE.out, HOK.out, if_pos rfl]
        exact ⟨HOK.out, hm, S, HS.out.1, HS.out.2, hR⟩
      · exact (Kp.of_below B23).trans (Kp.grown (S := fun k => k = b) (grown_setRow W3 b _) (fun i hi => by cases hi; rfl)) (fun _ _ h => h)
    · exact key 50 (.inl rfl) h
    · exact key 51 (.inr (.inl rfl)) h
    · exact key 52 (.inr (.inr rfl)) h
end Go.Proofs.YtoeabfcnfofbiaaDoor
