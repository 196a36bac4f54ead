import Derived.Test.YtmddnmpldmdllaaDoorPe
import Derived.Test.YtmddnmpldmdllaaDoorPd
import Derived.Test.YtmddnmpldmdllaaDoorPa
namespace Go.Proofs.YtmddnmpldmdllaaDoor
open Go.RowKit
set_option linter.unusedVariables false

/-- Many cells into the middle of a block. -/
theorem wpList_store_at {P : Program} {ops : Array Oper} {rest : List Oper} {o : Oper} {a : Act} {w : World} {Q : Exit → Act → World → Prop} (hgd : o.guard = none) (ty : TypeId) (x y : Operand) (ho : o.op = .store ty x y)
    (g off : Nat) (cells : Array Value) (hx : a.eval x = .pointer (some ⟨g, off, none⟩)) (hy : a.eval y = .agg cells)
    (t : TypeId) (old : Array Value) (hg : w.heap[g]? = some (.cells old t (0, 0))) (hi : (P.info? ty).map (·.size) = some cells.size)
    (hfit : off + cells.size ≤ old.size) (h1 : cells.all (·.oneCell') = true)
    (h : wpList P ops Q rest (a.put o.dst undef) (w.setRow g (old.toList.take off ++ cells.toList ++ old.toList.drop (off + cells.size)).toArray)) : wpList P ops Q (o :: rest) a w := by
  refine wpList_plain hgd fun K hK => ?_
  have hst := run_storeCells_at P g off t cells.toList 0 old w hg (by simpa using hfit) (fun v hv => (Array.all_eq_true_iff_forall_mem.1 h1) v (by simpa using hv))
  simp only [Nat.add_zero, Array.length_toList] at hst
  generalize w.setRow g (old.toList.take off ++ cells.toList ++ old.toList.drop (off + cells.size)).toArray = w2 at *
  cases hq : P.info? ty with
  | none => simp [hq] at hi
  | some i =>
    have hs : cells.size = i.size := by simp [hq] at hi; omega
    unfold Oper.wp execOp
    simp only [ho, hx, hy, Instr.storeAt, Instr.sureAddr, Sem.run_bind, Sem.run_pure, Result.andThen_ok]
    have hsv : (storeVar ty ⟨g, off, none⟩ (.agg cells)).run P w = .ok () w2 := by
      simp [storeVar, sizeOf, typeInfo, hq, Value.cells, hs, hst]
    simp only [hsv, Result.andThen_ok]
    exact hK _ _ h
theorem dl_load (m : Int) {T0 T : List Int} (h0 : T0.length = 305) (h : T.length = 305) : ((arr (m :: T0)).toList.take 1 ++ (arr T).toList ++ (arr (m :: T0)).toList.drop (1 + (arr T).size)).toArray = arr (m :: T) := by
  rw [arr_size, h]
  have e : (arr (m :: T0)).toList.drop (1 + 305) = [] := List.drop_of_length_le (by simp [arr, h0])
  rw [e]
  simp [arr]
def errD (most : Nat) (zs : List Int) : Int := if most < zs.length then 50 else errC zs
def LodQ (w : World) (b most : Nat) (zs0 zs : List Int) (e : Ending) (w' : World) : Prop := e = .returned (.int .i64 (errD most zs)) ∧ De w' b most (if errD most zs = 0 then zs else zs0) ∧ Kp (fun k => k = b) w w'

set_option maxRecDepth 100000 in
set_option maxHeartbeats 1000000 in
theorem load_any (b most : Nat) (zs0 : List Int) (a : Option Addr) (zs : List Int) (n cap : Nat) (hn : Hid (zs.length = n)) (w : World) (hD : De w b most zs0) (hs : SegZ w a zs) (hl : n ≤ 9223372036854775807) :
    Calls Tryd.prog 61 #[.pointer (some ⟨b, 0, none⟩), .slice a n cap] w fun e w' => LodQ w b most zs0 zs e w' := by
  obtain ⟨S0, hS0, hY0, hb0⟩ := hD.row
  have c0 := arr_cell hb0 (i := 0) (by simp [dl])
  have e0 : (dl most zs0 S0).getD 0 0 = (most : Int) := rfl
  rw [e0] at c0
  have hm := hD.mo
  have hm0 : ¬ (most : Int) = 0 := by omega
  clear e0
  have hbl := hD.lt
  by_cases hbig : most < n
  · have hbi : (most : Int) < (n : Int) := by omega
    have HE : Hid (errD most zs = 50) := by show _ = _; unfold errD; rw [hn.out, if_pos hbig]
    go_enter Tryd.func61, Tryd.ntmps61
    go_wp2_with fail
    go_ret
    exact ⟨by rw [HE.out]; rfl, by rw [HE.out]; exact hD, Kp.refl _ _⟩
  · have hbi : ¬ (most : Int) < (n : Int) := by omega
    have HE : Hid (errD most zs = errC zs) := by show _ = _; unfold errD; rw [hn.out, if_neg hbig]
    have HC := checked_any a zs n cap hn w hs hl
    have key : ∀ E : Int, E = 50 ∨ E = 51 ∨ E = 52 → errC zs = E → Calls Tryd.prog 61 #[.pointer (some ⟨b, 0, none⟩), .slice a n cap] w fun e w' => LodQ w b most zs0 zs e w' := by
      intro E hE hEE
      have HEE : Hid (errC zs = E) := hEE
      rw [hEE] at HC
      clear hEE
      rcases hE with rfl | rfl | rfl
      all_goals
        go_enter Tryd.func61, Tryd.ntmps61
        go_wp2_with fail
        refine HC.mono ?_
        rintro e W1 ⟨X, hX16, hXc, rfl, B1⟩
        have HX : Hid (X.length = 16) := hX16
        clear hXc hX16
        have B2 : Below w.heap.size w (W1.alloc (.cells (arr X) 65)) := B1.alloc B1.size _
        go_wp2_with (first
          | (refine wpList_store_row rfl 65 _ _ rfl W1.heap.size (arr X) rfl rfl _ zero16 (heap_alloc_new W1 _) (arr_info HX.out) (by rw [arr_size, HX.out]; rfl) (arr_one _) ?_; rw [World.setRow_alloc_new]))
        go_ret
        exact ⟨by rw [HE.out, HEE.out]; rfl, by rw [HE.out, HEE.out]; exact hD.keep (B2.block b hbl), Kp.of_below B2⟩
    rcases errC_cases zs with hok | h | h | h
    · have HOK : Hid (errC zs = 0) := hok
      rw [hok] at HC
      clear hok key
      have HLA : Hid (∀ W, Below w.heap.size w W → Calls Tryd.prog 75 #[.slice a n cap, .agg (arr (cnts zs))] W fun e w' => ∃ S : List Int, S.length = 288 ∧ SymOk zs S zs.length ∧ e = .returned (.agg (arr (tbl zs S))) ∧ Below W.heap.size W w') := fun W hW => laid_any a zs n cap hn W (hs.old hW) HOK
      go_enter Tryd.func61, Tryd.ntmps61
      go_wp2_with fail
      refine HC.mono ?_
      rintro e W1 ⟨X, hX16, hXc, rfl, B1⟩
      obtain rfl := hXc trivial
      clear hXc hX16
      have B2 : Below w.heap.size w (W1.alloc (.cells (arr (cnts zs)) 65)) := B1.alloc B1.size _
      have ho2 := new_arr (w := W1) (A := cnts zs) (t := 65)
      go_wp2_with (first
        | (refine wpList_store_row rfl 65 _ _ rfl W1.heap.size (arr (cnts zs)) rfl rfl _ zero16 (heap_alloc_new W1 _) (arr_info (cnts_len _)) (by rw [arr_size, cnts_len]; rfl) (arr_one _) ?_; rw [World.setRow_alloc_new])
        | (refine wpList_load_row rfl 65 _ rfl W1.heap.size rfl _ _ _ _ ho2 Tryd.underlying65 rfl (arr_info (cnts_len _)) ?_))
      generalize W1.alloc (.cells (arr (cnts zs)) 65) = W2 at *
      refine (HLA.out _ B2).mono ?_
      rintro e W3 ⟨S, hS, hY, rfl, B3⟩
      have HS : Hid (S.length = 288 ∧ SymOk zs S zs.length) := ⟨hS, hY⟩
      clear hS hY
      have B23 : Below w.heap.size w W3 := B2.trans (B3.mono B2.size)
      have hb3 := (B23.block b hbl).trans hb0
      go_wp2_with (first
        | (refine wpList_store_at rfl 68 _ _ rfl b 1 (arr (tbl zs S)) rfl rfl _ _ hb3 (info305 (tbl_len HS.out.1)) (by rw [arr_size, arr_size, tbl_len HS.out.1]; simp [dl, tbl_len hS0]) (arr_one _) ?_))
      have hdl : (List.take 1 (arr (dl most zs0 S0)).toList ++ ((arr (tbl zs S)).toList ++ List.drop (1 + (arr (tbl zs S)).size) (arr (dl most zs0 S0)).toList)).toArray = arr (dl most zs S) := by
        rw [← List.append_assoc]
        exact dl_load (most : Int) (tbl_len hS0) (tbl_len HS.out.1)
      rw [hdl]
      go_ret
      have hR : (W3.setRow b (arr (dl most zs S))).heap[b]? = some (.cells (arr (dl most zs S)) 70 (0, 0)) := setRow_heap W3 b _ _ _ _ hb3
      refine ⟨by rw [HE.out, HOK.out]; rfl, ?_, ?_⟩
      · rw [HE.out, HOK.out, if_pos rfl]
        exact ⟨HOK.out, hm, S, HS.out.1, HS.out.2, hR⟩
      · exact (Kp.of_below B23).trans (Kp.grown (S := fun k => k = b) (grown_setRow W3 b _) (fun i hi => by cases hi; rfl)) (fun _ _ h => h)
    · exact key 50 (.inl rfl) h
    · exact key 51 (.inr (.inl rfl)) h
    · exact key 52 (.inr (.inr rfl)) h
end Go.Proofs.YtmddnmpldmdllaaDoor

namespace Go.Proofs.YtmddnmpldmdllaaDoor
open Go.RowKit
set_option linter.unusedVariables false

/-- A Reader in a block of its own: the bits that it holds, and how many are gone. -/
structure Rd (w : World) (b : Nat) (H : List Bool) (t : Nat) : Prop where
  hp : w.heap[b]? = some (.cells #[.int .u64 (num H : Int), .int .i64 (H.length : Int), .int .i64 (t : Int)] 42 (0, 0))
  le : H.length ≤ 64
theorem Rd.b_lt {w : World} {b : Nat} {H : List Bool} {t : Nat} (h : Rd w b H t) : b < w.heap.size := (Array.getElem?_eq_some_iff.1 h.hp).1
theorem Rd.kp {w w' : World} {b : Nat} {H : List Bool} {t : Nat} {S : Nat → Prop} (h : Rd w b H t) (hk : Kp S w w') (hn : ¬ S b) : Rd w' b H t := ⟨hk.heap h.hp hn, h.le⟩
theorem Rd.fits {w : World} {b : Nat} {H : List Bool} {t : Nat} (h : Rd w b H t) : num H < 18446744073709551616 := Nat.lt_of_lt_of_le (num_lt H) (pow_le_64 h.le)
theorem Rd.new {w : World} {b : Nat} (h : w.heap[b]? = some (.cells #[.int .u64 0, .int .i64 0, .int .i64 0] 42 (0, 0))) : Rd w b [] 0 := ⟨h, by simp⟩

set_option maxRecDepth 100000 in
theorem space_any (b : Nat) (H : List Bool) (t : Nat) (w : World) (h : Rd w b H t) :
    Calls Tryd.prog 57 #[.pointer (some ⟨b, 0, none⟩)] w fun e w' => e = .returned (.int .i64 (((64 - H.length) / 8 : Nat) : Int)) ∧ w' = w := by
  have hc1 := three_cell1 h.hp
  have hle := h.le
  have HE : Hid ((((64 - H.length) / 8 : Nat) : Int) = (64 - (H.length : Int)) / 8) := by show _ = _; omega
  go_enter Tryd.func57, Tryd.ntmps57
  go_wp2
  go_ret
  exact ⟨by rw [HE.out]; rfl, rfl⟩
set_option maxRecDepth 100000 in
theorem has_any (b : Nat) (H : List Bool) (t : Nat) (w : World) (h : Rd w b H t) :
    Calls Tryd.prog 80 #[.pointer (some ⟨b, 0, none⟩)] w fun e w' => e = .returned (.int .i64 (H.length : Int)) ∧ w' = w := by
  have hc1 := three_cell1 h.hp
  go_enter Tryd.func80, Tryd.ntmps80
  go_wp2
  go_ret
  exact ⟨rfl, rfl⟩
/-- Are so many bits there, for one call? -/
def there (H : List Bool) (n : Int) : Bool := decide (0 ≤ n ∧ n ≤ 56 ∧ n ≤ H.length)
theorem there_yes {H : List Bool} {n : Int} (h : there H n = true) : ∃ k : Nat, n = k ∧ k ≤ 56 ∧ k ≤ H.length := by
  unfold there at h
  have h := of_decide_eq_true h
  exact ⟨n.toNat, by omega, by omega, by omega⟩
theorem there_no {H : List Bool} {n : Int} (h : there H n = false) : n < 0 ∨ (0 ≤ n ∧ 56 < n) ∨ (0 ≤ n ∧ n ≤ 56 ∧ (H.length : Int) < n) := by
  unfold there at h
  have h := of_decide_eq_false h
  omega
theorem there_of {H : List Bool} {k : Nat} (h1 : k ≤ 56) (h2 : k ≤ H.length) : there H k = true := by
  unfold there
  exact decide_eq_true (by omega)

set_option maxRecDepth 100000 in
set_option maxHeartbeats 400000 in
theorem peek_yes (b : Nat) (H : List Bool) (t k : Nat) (w : World) (h : Rd w b H t) (h1 : k ≤ 56) (h2 : k ≤ H.length) :
    Calls Tryd.prog 58 #[.pointer (some ⟨b, 0, none⟩), .int .i64 (k : Int)] w fun e w' => e = .returned (.tuple #[.int .u64 (num (H.take k) : Int), .bool true]) ∧ w' = w := by
  have hc0 := three_cell0 h.hp
  have hc1 := three_cell1 h.hp
  have C := low_any (num H) k w h.fits (by omega)
  rw [← num_take H k h2] at C
  have hk : (k : Int) ≤ (H.length : Int) := by omega
  go_enter Tryd.func58, Tryd.ntmps58
  go_wp2_with fail
  refine C.mono ?_
  rintro e w1 ⟨rfl, hw1⟩
  subst w1
  go_wp2
  go_ret2
  exact ⟨rfl, rfl⟩
set_option maxRecDepth 100000 in
set_option maxHeartbeats 400000 in
theorem peek_no (b : Nat) (H : List Bool) (t : Nat) (n : Int) (w : World) (h : Rd w b H t) (hn : there H n = false) :
    Calls Tryd.prog 58 #[.pointer (some ⟨b, 0, none⟩), .int .i64 n] w fun e w' => e = .returned (.tuple #[.int .u64 0, .bool false]) ∧ w' = w := by
  have hc0 := three_cell0 h.hp
  have hc1 := three_cell1 h.hp
  rcases there_no hn with hn | ⟨hn, hn2⟩ | ⟨hn, hn2, hn3⟩
  · go_enter Tryd.func58, Tryd.ntmps58
    go_wp2
    go_ret2
    exact ⟨rfl, rfl⟩
  · go_enter Tryd.func58, Tryd.ntmps58
    go_wp2
    go_ret2
    exact ⟨rfl, rfl⟩
  · go_enter Tryd.func58, Tryd.ntmps58
    go_wp2
    go_ret2
    exact ⟨rfl, rfl⟩

set_option maxRecDepth 100000 in
set_option maxHeartbeats 400000 in
theorem drop_any (b : Nat) (H : List Bool) (t k : Nat) (w : World) (h : Rd w b H t) (h2 : k ≤ H.length) (ht : t ≤ 4611686018427387904) :
    Calls Tryd.prog 59 #[.pointer (some ⟨b, 0, none⟩), .int .i64 (k : Int)] w fun e w' => e = .returned (.tuple #[]) ∧ Rd w' b (H.drop k) (t + k) ∧ w.grownBy w' (some b) := by
  have hc0 := three_cell0 h.hp
  have hc1 := three_cell1 h.hp
  have hc2 := three_cell2 h.hp
  have hf := three_free h.hp
  have hsh := shr_nat (num H) k
  have hle := h.le
  rw [← num_drop H k h2] at hsh
  have hp := h.hp
  have hnl := h.fits
  obtain ⟨q, hq⟩ : ∃ q, q = num (H.drop k) := ⟨_, rfl⟩
  rw [← hq] at hsh
  have HQ : Hid (q = num (H.drop k)) := hq
  clear hq
  go_enter Tryd.func59, Tryd.ntmps59
  go_wp2
  go_end0
  refine ⟨rfl, ⟨?_, by simp; omega⟩, grownBy_set (grownBy_set (grownBy_set (World.grownBy.refl _ _) _) _) _⟩
  rw [three_set2 (three_set1 (three_set0 hp _) _) _, HQ.out, List.length_drop]
  have e1 : ((H.length : Int) - (k : Int)) = ((H.length - k : Nat) : Int) := by omega
  have e2 : ((t : Int) + (k : Int)) = ((t + k : Nat) : Int) := by omega
  rw [e1, e2]

/-- What a Take leaves. -/
def takeL (H : List Bool) (n : Int) : List Bool := if there H n then H.drop n.toNat else H
def takeT (H : List Bool) (t : Nat) (n : Int) : Nat := if there H n then t + n.toNat else t
def takeV (H : List Bool) (n : Int) : Nat := if there H n then num (H.take n.toNat) else 0

theorem peek_any (b : Nat) (H : List Bool) (t : Nat) (n : Int) (w : World) (h : Rd w b H t) :
    Calls Tryd.prog 58 #[.pointer (some ⟨b, 0, none⟩), .int .i64 n] w fun e w' => e = .returned (.tuple #[.int .u64 (takeV H n : Int), .bool (there H n)]) ∧ w' = w := by
  unfold takeV
  cases hn : there H n
  · exact peek_no b H t n w h hn
  · obtain ⟨k, rfl, h1, h2⟩ := there_yes hn
    exact peek_yes b H t k w h h1 h2

set_option maxRecDepth 100000 in
set_option maxHeartbeats 400000 in
theorem take_any (b : Nat) (H : List Bool) (t : Nat) (n : Int) (w : World) (h : Rd w b H t) (ht : t ≤ 4611686018427387904) :
    Calls Tryd.prog 41 #[.pointer (some ⟨b, 0, none⟩), .int .i64 n] w fun e w' => e = .returned (.tuple #[.int .u64 (takeV H n : Int), .bool (there H n)]) ∧ Rd w' b (takeL H n) (takeT H t n) ∧ w.grownBy w' (some b) := by
  have C := peek_any b H t n w h
  have D : there H n = true → Calls Tryd.prog 59 #[.pointer (some ⟨b, 0, none⟩), .int .i64 n] w fun e w' => e = .returned (.tuple #[]) ∧ Rd w' b (takeL H n) (takeT H t n) ∧ w.grownBy w' (some b) := by
    intro hn
    unfold takeL takeT
    rw [hn]
    obtain ⟨k, rfl, h1, h2⟩ := there_yes hn
    exact drop_any b H t k w h h2 ht
  have HN : there H n = false → takeL H n = H ∧ takeT H t n = t := by
    intro hn
    unfold takeL takeT
    rw [hn]
    exact ⟨rfl, rfl⟩
  generalize takeL H n = H' at *
  generalize takeT H t n = t' at *
  generalize takeV H n = v at *
  cases hn : there H n
  · obtain ⟨rfl, rfl⟩ := HN hn
    rw [hn] at C
    clear D HN hn
    go_enter Tryd.func41, Tryd.ntmps41
    go_wp2_with fail
    refine C.mono ?_
    rintro e w1 ⟨rfl, hw1⟩
    subst w1
    go_wp2
    go_ret2
    exact ⟨rfl, h, World.grownBy.refl _ _⟩
  · have D := D hn
    rw [hn] at C
    clear HN hn
    go_enter Tryd.func41, Tryd.ntmps41
    go_wp2_with fail
    refine C.mono ?_
    rintro e w1 ⟨rfl, hw1⟩
    subst w1
    go_wp2_with fail
    refine D.mono ?_
    rintro e w1 ⟨rfl, h1, h2⟩
    go_wp2
    go_ret2
    exact ⟨rfl, h1, h2⟩

set_option maxRecDepth 100000 in
set_option maxHeartbeats 400000 in
theorem ralign_any (b : Nat) (H : List Bool) (t : Nat) (w : World) (h : Rd w b H t) (ht : t ≤ 4611686018427387904) :
    Calls Tryd.prog 42 #[.pointer (some ⟨b, 0, none⟩)] w fun e w' => e = .returned (.tuple #[.int .i64 ((H.length % 8 : Nat) : Int), .int .u64 (num (H.take (H.length % 8)) : Int)]) ∧ Rd w' b (H.drop (H.length % 8)) (t + H.length % 8) ∧ w.grownBy w' (some b) := by
  have hc0 := three_cell0 h.hp
  have hc1 := three_cell1 h.hp
  have hle := h.le
  have h8 : H.length % 8 ≤ H.length := Nat.mod_le _ _
  have C := low_any (num H) (H.length % 8) w h.fits (by omega)
  rw [← num_take H _ h8] at C
  have D := drop_any b H t (H.length % 8) w h h8 ht
  have hm : (H.length : Int) % 8 = ((H.length % 8 : Nat) : Int) := by omega
  generalize H.length % 8 = k at *
  generalize num (H.take k) = v at *
  go_enter Tryd.func42, Tryd.ntmps42
  go_wp2_with fail
  refine C.mono ?_
  rintro e w1 ⟨rfl, hw1⟩
  subst w1
  go_wp2_with fail
  refine D.mono ?_
  rintro e w1 ⟨rfl, h1, h2⟩
  go_wp2
  go_ret2
  exact ⟨rfl, h1, h2⟩

/-- How many bytes are taken. -/
def feedN (H : List Bool) (n : Nat) : Nat := min n ((64 - H.length) / 8)
theorem feed_step {H : List Bool} {z : Int} (hz0 : 0 ≤ z) (hz1 : z ≤ 255) (hl : H.length ≤ 56) : bits .or .u64 (num H : Int) (IntKind.u64.wrap (z * 2 ^ H.length)) = (num (H ++ bN z.toNat 8) : Int) ∧ num (H ++ bN z.toNat 8) < 18446744073709551616 := by
  have h1 := num_lt H
  have h2 : z.toNat < 2 ^ 8 := by omega
  have h3 : num H + z.toNat * 2 ^ H.length < 2 ^ (H.length + 8) := by
    have h1' : (z.toNat + 1) * 2 ^ H.length ≤ 2 ^ 8 * 2 ^ H.length := Nat.mul_le_mul_right _ h2
    rw [← Nat.pow_add, Nat.add_comm 8, Nat.add_mul, Nat.one_mul] at h1'
    omega
  have h4 := pow_le_64 (k := H.length + 8) (by omega)
  have e1 : IntKind.u64.wrap (z * 2 ^ H.length) = ((z.toNat * 2 ^ H.length : Nat) : Int) := by
    rw [show z * 2 ^ H.length = ((z.toNat * 2 ^ H.length : Nat) : Int) by rw [Int.natCast_mul, Int.toNat_of_nonneg hz0]; simp]
    generalize z.toNat * 2 ^ H.length = p at *
    rw [IntWalk.u64_in _ ⟨by omega, by omega⟩]
  have e2 : num (H ++ bN z.toNat 8) = num H + z.toNat * 2 ^ H.length := by rw [num_append, num_bN_lt h2, Nat.mul_comm]
  rw [e1, or_pow h1 (by omega), e2]
  exact ⟨rfl, by omega⟩

set_option maxRecDepth 100000 in
set_option maxHeartbeats 2000000 in
theorem feed_any (b : Nat) (H : List Bool) (t : Nat) (pa : Option Addr) (p : List Int) (pc : Nat) (w : World) (h : Rd w b H t) (hs : Seg w pa p) (hcap : p.length ≤ pc) (hfar : ∀ g off, pa = some ⟨g, off, none⟩ → 0 < p.length → g ≠ b) (hl : p.length ≤ 4611686018427387904) :
    Calls Tryd.prog 40 #[.pointer (some ⟨b, 0, none⟩), .slice pa p.length pc] w fun e w' => e = .returned (.int .i64 (feedN H p.length : Int)) ∧ Rd w' b (H ++ bB (p.take (feedN H p.length))) t ∧ (Kp (fun k => k = b) w w') := by
  have C := space_any b H t w h
  have hle := h.le
  obtain ⟨m, hm⟩ : ∃ m, m = feedN H p.length := ⟨_, rfl⟩
  rw [← hm]
  have hmp : m ≤ p.length := by rw [hm]; unfold feedN; omega
  have hm8 : H.length + 8 * m ≤ 64 := by rw [hm]; unfold feedN; omega
  have hmn : m = min p.length ((64 - H.length) / 8) := hm
  have hsl : (m : Int) ≤ (pc : Int) := by omega
  clear hm
  generalize (64 - H.length) / 8 = sp at *
  by_cases hsp : sp < p.length
  · obtain rfl : sp = m := by omega
    clear hmn
    go_enter Tryd.func40, Tryd.ntmps40
    go_wp2_with fail
    refine C.mono ?_
    rintro e w1 ⟨rfl, hw1⟩
    subst w1
    go_wp2
    go_loopw [19] (fun ti wr => ∃ i : Nat, i ≤ sp ∧ ti = .int .i64 (i : Int) ∧ Rd wr b (H ++ bB (p.take i)) t ∧ Kp (fun k => k = b) w wr) (fun ti _ => sp - (intOf ti).toNat)
    case atStart => exact ⟨0, Nat.zero_le _, rfl, by simpa [bB] using h, Kp.refl _ _⟩
    case round =>
      obtain ⟨i, hi, rfl, hr, hk⟩ := hrel
      by_cases hlt : i < sp
      · have hlt2 : (i : Int) < (sp : Int) := by omega
        have hsr : Seg wr pa p := hs.kp hk (fun g off e hp => hfar g off e hp)
        obtain ⟨g, off, rfl, hcell⟩ := hsr.at_ i (by omega)
        have hz := hs.bd i
        have HT : Hid (bB (p.take (i + 1)) = bB (p.take i) ++ bN (p.getD i 0).toNat 8) := by
          show _ = _
          rw [List.take_succ_eq_append_getElem (by omega), bB_append, bB_one]
          simp [List.getD, show i < p.length by omega]
        have hlen : (H ++ bB (p.take i)).length = H.length + 8 * i := by rw [List.length_append, bB_len, List.length_take]; omega
        have hst := feed_step (H := H ++ bB (p.take i)) hz.1 hz.2 (by omega)
        have hp := hr.hp
        have hc0 := three_cell0 hr.hp
        have hc1 := three_cell1 hr.hp
        have hf := three_free hr.hp
        have hfit := hr.fits
        have hh56 : (H ++ bB (p.take i)).length ≤ 56 := by omega
        have HL : Hid ((H ++ bB (p.take i)).length = H.length + 8 * i) := hlen
        clear hlen hsr
        generalize p.getD i 0 = z at *
        have HN : Hid (H ++ bB (p.take (i + 1)) = (H ++ bB (p.take i)) ++ bN z.toNat 8) := by show _ = _; rw [HT.out, List.append_assoc]
        generalize H ++ bB (p.take i) = G at *
        obtain ⟨y, hy⟩ : ∃ y, y = num (G ++ bN z.toNat 8) := ⟨_, rfl⟩
        rw [← hy] at hst
        have HY : Hid (y = num (G ++ bN z.toNat 8)) := hy
        have hor := hst.1
        have hy64 := hst.2
        clear hy hst
        go_wp2
        go_region
        have hp1 : ((wr.setCell ⟨b, 0, none⟩ (.int .u64 (y : Int))).drew).heap[b]? = some (.cells #[.int .u64 (y : Int), .int .i64 (G.length : Int), .int .i64 (t : Int)] 42 (0, 0)) := three_set0 hp _
        have hk1 : Kp (fun j => j = b) wr ((wr.setCell ⟨b, 0, none⟩ (.int .u64 (y : Int))).drew) := (Kp.set (S := fun j => j = b) rfl _).drew
        generalize (wr.setCell ⟨b, 0, none⟩ (.int .u64 (y : Int))).drew = w2 at *
        have hd1 := three_cell1 hp1
        have hdf := three_free hp1
        clear hc0 hc1 hf hp hor
        go_wp2
        go_roundw
        case rel =>
          refine ⟨i + 1, by omega, by go_num, ⟨?_, ?_⟩, hk.trans (hk1.trans (Kp.set (S := fun j => j = b) rfl _) (fun _ _ e => e)) (fun _ _ e => e)⟩
          · rw [three_set1 hp1 _, HN.out, ← HY.out]
            rw [show (G ++ bN z.toNat 8).length = G.length + 8 by rw [List.length_append, bN_len]]
            rfl
          · rw [HN.out, List.length_append, bN_len]; omega
        case measure => simp [intOf]; omega
      · have HI : Hid (i = sp) := by show _ = _; omega
        have hge : (sp : Int) ≤ (i : Int) := by omega
        clear hlt hi
        go_wp2
        go_ret
        rw [HI.out] at hr
        exact ⟨rfl, hr, hk⟩
  · obtain rfl : m = p.length := by omega
    clear hmn
    go_enter Tryd.func40, Tryd.ntmps40
    go_wp2_with fail
    refine C.mono ?_
    rintro e w1 ⟨rfl, hw1⟩
    subst w1
    go_wp2
    go_loopw [19] (fun ti wr => ∃ i : Nat, i ≤ p.length ∧ ti = .int .i64 (i : Int) ∧ Rd wr b (H ++ bB (p.take i)) t ∧ Kp (fun k => k = b) w wr) (fun ti _ => p.length - (intOf ti).toNat)
    case atStart => exact ⟨0, Nat.zero_le _, rfl, by simpa [bB] using h, Kp.refl _ _⟩
    case round =>
      obtain ⟨i, hi, rfl, hr, hk⟩ := hrel
      by_cases hlt : i < p.length
      · have hlt2 : (i : Int) < (p.length : Int) := by omega
        have hsr : Seg wr pa p := hs.kp hk (fun g off e hp => hfar g off e hp)
        obtain ⟨g, off, rfl, hcell⟩ := hsr.at_ i (by omega)
        have hz := hs.bd i
        have HT : Hid (bB (p.take (i + 1)) = bB (p.take i) ++ bN (p.getD i 0).toNat 8) := by
          show _ = _
          rw [List.take_succ_eq_append_getElem (by omega), bB_append, bB_one]
          simp [List.getD, show i < p.length by omega]
        have hlen : (H ++ bB (p.take i)).length = H.length + 8 * i := by rw [List.length_append, bB_len, List.length_take]; omega
        have hst := feed_step (H := H ++ bB (p.take i)) hz.1 hz.2 (by omega)
        have hp := hr.hp
        have hc0 := three_cell0 hr.hp
        have hc1 := three_cell1 hr.hp
        have hf := three_free hr.hp
        have hfit := hr.fits
        have hh56 : (H ++ bB (p.take i)).length ≤ 56 := by omega
        have HL : Hid ((H ++ bB (p.take i)).length = H.length + 8 * i) := hlen
        clear hlen hsr
        generalize p.getD i 0 = z at *
        have HN : Hid (H ++ bB (p.take (i + 1)) = (H ++ bB (p.take i)) ++ bN z.toNat 8) := by show _ = _; rw [HT.out, List.append_assoc]
        generalize H ++ bB (p.take i) = G at *
        obtain ⟨y, hy⟩ : ∃ y, y = num (G ++ bN z.toNat 8) := ⟨_, rfl⟩
        rw [← hy] at hst
        have HY : Hid (y = num (G ++ bN z.toNat 8)) := hy
        have hor := hst.1
        have hy64 := hst.2
        clear hy hst
        go_wp2
        go_region
        have hp1 : ((wr.setCell ⟨b, 0, none⟩ (.int .u64 (y : Int))).drew).heap[b]? = some (.cells #[.int .u64 (y : Int), .int .i64 (G.length : Int), .int .i64 (t : Int)] 42 (0, 0)) := three_set0 hp _
        have hk1 : Kp (fun j => j = b) wr ((wr.setCell ⟨b, 0, none⟩ (.int .u64 (y : Int))).drew) := (Kp.set (S := fun j => j = b) rfl _).drew
        generalize (wr.setCell ⟨b, 0, none⟩ (.int .u64 (y : Int))).drew = w2 at *
        have hd1 := three_cell1 hp1
        have hdf := three_free hp1
        clear hc0 hc1 hf hp hor
        go_wp2
        go_roundw
        case rel =>
          refine ⟨i + 1, by omega, by go_num, ⟨?_, ?_⟩, hk.trans (hk1.trans (Kp.set (S := fun j => j = b) rfl _) (fun _ _ e => e)) (fun _ _ e => e)⟩
          · rw [three_set1 hp1 _, HN.out, ← HY.out]
            rw [show (G ++ bN z.toNat 8).length = G.length + 8 by rw [List.length_append, bN_len]]
            rfl
          · rw [HN.out, List.length_append, bN_len]; omega
        case measure => simp [intOf]; omega
      · have HI : Hid (i = p.length) := by show _ = _; omega
        have hge : (p.length : Int) ≤ (i : Int) := by omega
        clear hlt hi
        go_wp2
        go_ret
        rw [HI.out] at hr
        exact ⟨rfl, hr, hk⟩
end Go.Proofs.YtmddnmpldmdllaaDoor

namespace Go.Proofs.YtmddnmpldmdllaaDoor
open Go.RowKit
set_option linter.unusedVariables false

/-- The first bits as a code: the first the highest. -/
def vB (H : List Bool) (l : Nat) : Nat := num (H.take l).reverse
theorem vB_zero (H : List Bool) : vB H 0 = 0 := by simp [vB, num]
theorem take_succ_b {H : List Bool} {l : Nat} (h : l < H.length) : H.take (l + 1) = H.take l ++ [H.getD l false] := by
  rw [List.take_add_one, List.getElem?_eq_getElem h]
  simp [List.getD, h]
theorem vB_succ {H : List Bool} {l : Nat} (h : l < H.length) : vB H (l + 1) = 2 * vB H l + (H.getD l false).toNat := by
  unfold vB
  rw [take_succ_b h, List.reverse_append, List.reverse_cons, List.reverse_nil, List.nil_append, List.singleton_append]
  simp only [num]
  omega
theorem vB_lt (H : List Bool) (l : Nat) : vB H l < 2 ^ l := by
  unfold vB
  have h1 := num_lt (H.take l).reverse
  have h2 : 2 ^ (H.take l).reverse.length ≤ 2 ^ l := Nat.pow_le_pow_right (by decide) (by simp; omega)
  omega
/-- The bits begin with this symbol's code. -/
def Beg (zs : List Int) (H : List Bool) (s : Nat) : Prop := s < zs.length ∧ zs.getD s 0 ≠ 0 ∧ ln zs s ≤ H.length ∧ vB H (ln zs s) = cd zs s
/-- The bits are the beginning of some code, and not the whole of it. -/
def May (zs : List Int) (H : List Bool) : Prop := ∃ s, s < zs.length ∧ zs.getD s 0 ≠ 0 ∧ H.length < ln zs s ∧ cd zs s / 2 ^ (ln zs s - H.length) = vB H H.length
theorem cd_top {zs : List Int} (h : LOk zs) {s : Nat} (hs : s < zs.length) (h0 : zs.getD s 0 ≠ 0) : cF zs (ln zs s) ≤ cd zs s ∧ cd zs s < cF zs (ln zs s) + cC zs (ln zs s) := by
  have := rk_lt_c h hs h0
  unfold cd
  rw [if_neg h0]
  omega
/-- A prefix of a prefix. -/
theorem vB_div (H : List Bool) {a b : Nat} (h : a ≤ b) (hb : b ≤ H.length) : vB H b / 2 ^ (b - a) = vB H a := by
  obtain ⟨d, rfl⟩ : ∃ d, b = a + d := ⟨b - a, by omega⟩
  clear h
  induction d with
  | zero => simp
  | succ d ih =>
    have h1 := ih (by omega)
    have h2 := vB_succ (H := H) (l := a + d) (by omega)
    have h3 : (H.getD (a + d) false).toNat < 2 := Bool.toNat_lt _
    rw [show a + (d + 1) = a + d + 1 by omega, h2, show a + d + 1 - a = d + 1 by omega, Nat.pow_succ, Nat.mul_comm (2 ^ d) 2, ← Nat.div_div_eq_div_mul]
    rw [show (2 * vB H (a + d) + (H.getD (a + d) false).toNat) / 2 = vB H (a + d) by omega]
    rw [show a + d - a = d by omega] at h1
    exact h1
theorem beg_one {zs : List Int} {H : List Bool} (h : LOk zs) {s t : Nat} (hs : Beg zs H s) (ht : Beg zs H t) : s = t := by
  obtain ⟨a1, a2, a3, a4⟩ := hs
  obtain ⟨b1, b2, b3, b4⟩ := ht
  rcases Nat.le_total (ln zs s) (ln zs t) with c | c
  · exact cd_apart h a1 b1 a2 c (by rw [← b4, vB_div H c b3, a4])
  · exact (cd_apart h b1 a1 b2 c (by rw [← a4, vB_div H c a3, b4])).symm
/-- Passed by up to and with length l. -/
def Past (zs : List Int) (H : List Bool) (l : Nat) : Prop := ∀ j, j ≤ l → cF zs j + cC zs j ≤ vB H j
theorem past_none {zs : List Int} {H : List Bool} {l : Nat} (h : LOk zs) (hp : Past zs H l) {s : Nat} (hb : Beg zs H s) : l < ln zs s := by
  rcases Nat.lt_or_ge l (ln zs s) with c | c
  · exact c
  · exfalso
    obtain ⟨a1, a2, a3, a4⟩ := hb
    have := hp (ln zs s) c
    have := (cd_top h a1 a2).2
    omega
theorem used_le {zs : List Int} (h : LOk zs) {s l : Nat} (hs : s < zs.length) (h0 : zs.getD s 0 ≠ 0) (ht : cS zs (l + 1) = tot zs) : ln zs s ≤ l := by
  rcases Nat.lt_or_ge l (ln zs s) with c | c
  · exfalso
    have h1 := cS_mono zs (a := l + 1) (b := ln zs s) c
    have h2 : cS zs (ln zs s + 1) ≤ cS zs 16 := cS_mono zs (by have := (h.ln s).2; omega)
    rw [cS_succ] at h2
    have h3 := rk_lt_c h hs h0
    unfold tot at ht
    omega
  · exact c
/-- All codes have been passed by: there is none. -/
theorem end_none {zs : List Int} {H : List Bool} {l : Nat} (h : LOk zs) (hl : l ≤ H.length) (hp : Past zs H l) (ht : cS zs (l + 1) = tot zs) : (∀ s, ¬ Beg zs H s) ∧ ¬ May zs H := by
  refine ⟨fun s hb => ?_, fun ⟨s, h1, h2, h3, _⟩ => ?_⟩
  · have h1 := past_none h hp hb
    have h2 := used_le h hb.1 hb.2.1 ht
    omega
  · have := used_le h h1 h2 ht
    omega
/-- All bits have been looked at, and codes are left: one begins so. -/
theorem end_may {zs : List Int} {H : List Bool} (h : LOk zs) (hw : spc zs = 32768 ∨ tot zs = 0 ∨ (tot zs = 1 ∧ cC zs 1 = 1)) (hl : H.length ≤ 15) (hp : Past zs H H.length) (ht : cS zs (H.length + 1) ≠ tot zs) : (∀ s, ¬ Beg zs H s) ∧ May zs H := by
  refine ⟨fun s hb => ?_, ?_⟩
  · have := past_none h hp hb
    have := hb.2.2.1
    omega
  · have hn15 : H.length < 15 := by
      rcases Nat.lt_or_ge H.length 15 with c | c
      · exact c
      · exfalso
        apply ht
        rw [show H.length = 15 by omega]
        rfl
    rcases hw with hw | hw | ⟨hw, h1⟩
    · have hv := vB_lt H H.length
      have e15 : (2 : Nat) ^ H.length * 2 ^ (15 - H.length) = 32768 := by
        rw [← Nat.pow_add, show H.length + (15 - H.length) = 15 by omega]
      have hlt : vB H H.length * 2 ^ (15 - H.length) < spc zs := by
        rw [hw, ← e15]
        exact Nat.mul_lt_mul_of_pos_right hv (Nat.two_pow_pos _)
      obtain ⟨s, hs, s0, hlo, hhi⟩ := cover h hlt
      have hgt : H.length < ln zs s := by
        rcases Nat.lt_or_ge H.length (ln zs s) with c | c
        · exact c
        · exfalso
          have h1 := hi_le h hs s0
          have h2 := cP_mono zs (a := ln zs s + 1) (b := H.length + 1) (by omega)
          have h3 : cP zs (H.length + 1) = (cF zs H.length + cC zs H.length) * 2 ^ (15 - H.length) := by
            rw [cP_succ, Nat.add_mul, cF_cP zs _ hl]
          have h4 := Nat.mul_le_mul_right (2 ^ (15 - H.length)) (hp H.length (Nat.le_refl _))
          omega
      refine ⟨s, hs, s0, hgt, ?_⟩
      have hsl := (h.ln s).2
      have e2 : vB H H.length * 2 ^ (15 - H.length) = vB H H.length * 2 ^ (ln zs s - H.length) * 2 ^ (15 - ln zs s) := by
        rw [Nat.mul_assoc, ← Nat.pow_add, show ln zs s - H.length + (15 - ln zs s) = 15 - H.length by omega]
      rw [e2] at hlo hhi
      have k1 := Nat.le_of_mul_le_mul_right hlo (Nat.two_pow_pos _)
      have k2 := Nat.lt_of_mul_lt_mul_right hhi
      have k3 : cd zs s = vB H H.length * 2 ^ (ln zs s - H.length) := by omega
      rw [k3, Nat.mul_div_cancel _ (Nat.two_pow_pos _)]
    · exfalso
      apply ht
      have h1 : cS zs (H.length + 1) ≤ cS zs 16 := cS_mono zs (by omega)
      unfold tot at hw ⊢
      omega
    · have hn0 : H.length = 0 := by
        rcases Nat.eq_zero_or_pos H.length with c | c
        · exact c
        · exfalso
          apply ht
          have h2 : cS zs 2 ≤ cS zs (H.length + 1) := cS_mono zs (by omega)
          have h3 : cS zs (H.length + 1) ≤ cS zs 16 := cS_mono zs (by omega)
          have h4 : cS zs 2 = cC zs 1 := by rw [cS_succ, cS_succ, cC_zero]; simp [cS]
          unfold tot at hw ⊢
          omega
      rw [cC_pos zs (by decide)] at h1
      obtain ⟨s, hs, e, er⟩ := rk_has zs ((1 : Nat) : Int) 0 (by omega)
      have hln : ln zs s = 1 := by unfold ln; rw [e]; rfl
      have s0 : zs.getD s 0 ≠ 0 := by rw [e]; decide
      refine ⟨s, hs, s0, by omega, ?_⟩
      have hcd : cd zs s = 0 := by
        unfold cd
        rw [if_neg s0, hln, er, cF_succ, cC_zero]
        rfl
      rw [hcd, hn0, vB_zero]
      simp
/-- What looking a code up tells. -/
def FindQ (zs : List Int) (H : List Bool) (sy le er : Int) : Prop :=
  (∃ s, Beg zs H s ∧ sy = (s : Int) ∧ le = (ln zs s : Int) ∧ er = 0) ∨ ((∀ s, ¬ Beg zs H s) ∧ May zs H ∧ sy = 0 ∧ le = 0 ∧ er = 0) ∨ ((∀ s, ¬ Beg zs H s) ∧ ¬ May zs H ∧ sy = 0 ∧ le = 0 ∧ er = 54)
end Go.Proofs.YtmddnmpldmdllaaDoor
