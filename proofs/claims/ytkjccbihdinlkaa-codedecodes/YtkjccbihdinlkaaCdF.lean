
import Derived.Test.YtkjccbihdinlkaaCdE
namespace Go.Proofs.Ytkjccbihdinlkaa
open Go.RowKit
set_option linter.unusedVariables false

theorem errC_cases (zs : List Int) : errC zs = 0 ∨ errC zs = 50 ∨ errC zs = 51 ∨ errC zs = 52 := by
  unfold errC
  split
  · unfold errR
    split
    · exact .inr (.inr (.inl rfl))
    · split
      · exact .inl rfl
      · exact .inr (.inr (.inr rfl))
  · rename_i h
    rcases errS_two zs with h1 | h1
    · exact absurd h1 h
    · exact .inr (.inl h1)

set_option maxRecDepth 100000 in
set_option maxHeartbeats 400000 in
theorem check_any (a : Option Addr) (zs : List Int) (n cap : Nat) (hn : Hid (zs.length = n)) (w : World) (hs : SegZ w a zs) (hl : n ≤ 9223372036854775807) :
    Calls Try.prog 15 #[.slice a n cap] w fun e w' => e = .returned (.int .i64 (errC zs)) ∧ Below w.heap.size w w' := by
  have HC := checked_any a zs n cap hn w hs hl
  go_enter Try.func15, Try.ntmps15
  go_wp2_with fail
  refine HC.mono ?_
  rintro e W1 ⟨X, hX16, hXc, rfl, B1⟩
  have HX : Hid (X.length = 16) := hX16
  clear hX16 hXc
  have B2 : Below w.heap.size w (W1.alloc (.cells (arr X) 80)) := B1.alloc B1.size _
  go_wp2_with (first
      | (refine wpList_store_row rfl 80 _ _ rfl W1.heap.size (arr X) rfl rfl _ zero16 (heap_alloc_new W1 _) (arr_info HX.out) (by rw [arr_size, HX.out]; rfl) (arr_one _) ?_; rw [World.setRow_alloc_new]))
  go_ret
  exact ⟨rfl, B2⟩
def spcR (zs : List Int) : Nat := if errS zs = 0 then spc zs else 0

set_option maxRecDepth 100000 in
set_option maxHeartbeats 400000 in
theorem spaceF_any (a : Option Addr) (zs : List Int) (n cap : Nat) (hn : Hid (zs.length = n)) (w : World) (hs : SegZ w a zs) (hl : n ≤ 9223372036854775807) :
    Calls Try.prog 11 #[.slice a n cap] w fun e w' => e = .returned (.tuple #[.int .i64 (spcR zs : Int), .int .i64 (errS zs)]) ∧ Below w.heap.size w w' := by
  have HC := counted_any a zs n cap hn w hs hl
  rcases errS_two zs with he | he
  · have HE : Hid (errS zs = 0) := he
    have HSP : Hid (spcR zs = spc zs) := by show _ = _; unfold spcR; rw [if_pos he]
    rw [he] at HC ⊢
    clear he
    go_enter Try.func11, Try.ntmps11
    go_wp2_with fail
    refine HC.mono ?_
    rintro e W1 ⟨X, hX16, hXc, rfl, B1⟩
    obtain rfl := hXc trivial
    clear hXc hX16
    have HCS : Hid (∀ W, Calls Try.prog 40 #[.agg (arr (cnts zs))] W fun e w' => e = .returned (.int .i64 (spc zs : Int)) ∧ Below W.heap.size W w') := fun W => pspace_any zs (cC_288 HE.out) W
    have B2 : Below w.heap.size w (W1.alloc (.cells (arr (cnts zs)) 80)) := B1.alloc B1.size _
    have ho2 := new_arr (w := W1) (A := cnts zs) (t := 80)
    go_wp2_with (first
      | (refine wpList_store_row rfl 80 _ _ rfl W1.heap.size (arr (cnts zs)) rfl rfl _ zero16 (heap_alloc_new W1 _) (arr_info (cnts_len _)) (by rw [arr_size, cnts_len]; rfl) (arr_one _) ?_; rw [World.setRow_alloc_new])
      | (refine wpList_load_row rfl 80 _ rfl W1.heap.size rfl _ _ _ _ ho2 Try.underlying80 rfl (arr_info (cnts_len _)) ?_)
      | (go_at_call 40; refine (HCS.out _).mono ?_; rintro e W3 ⟨rfl, B3⟩))
    go_ret2
    exact ⟨by rw [HSP.out]; rfl, B2.trans (B3.mono B2.size)⟩
  · have HE : Hid (errS zs = 50) := he
    have HSP : Hid (spcR zs = 0) := by show _ = _; unfold spcR; rw [he, if_neg (by decide)]
    rw [he] at HC ⊢
    clear he
    go_enter Try.func11, Try.ntmps11
    go_wp2_with fail
    refine HC.mono ?_
    rintro e W1 ⟨X, hX16, hXc, rfl, B1⟩
    have HX : Hid (X.length = 16) := hX16
    clear hXc hX16
    have B2 : Below w.heap.size w (W1.alloc (.cells (arr X) 80)) := B1.alloc B1.size _
    go_wp2_with (first
      | (refine wpList_store_row rfl 80 _ _ rfl W1.heap.size (arr X) rfl rfl _ zero16 (heap_alloc_new W1 _) (arr_info HX.out) (by rw [arr_size, HX.out]; rfl) (arr_one _) ?_; rw [World.setRow_alloc_new]))
    go_ret2
    exact ⟨by rw [HSP.out]; rfl, B2⟩
end Go.Proofs.Ytkjccbihdinlkaa
