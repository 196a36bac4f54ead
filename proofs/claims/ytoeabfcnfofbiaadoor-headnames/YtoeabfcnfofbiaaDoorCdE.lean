
import Derived.Test.YtoeabfcnfofbiaaDoorCdD
namespace Go.Proofs.YtoeabfcnfofbiaaDoor
open Go.RowKit
set_option linter.unusedVariables false

theorem errS_two (zs : List Int) : errS zs = 0 ∨ errS zs = 50 := by
  unfold errS
  split
  · exact .inr rfl
  · split
    · exact .inl rfl
    · exact .inr rfl
theorem new_arr {w : World} {A : List Int} {t : TypeId} : (w.alloc (.cells (arr A) t)).heap[w.heap.size]? = some (.cells (arr A) t (0, 0)) := heap_alloc_new w _

set_option maxRecDepth 100000 in
set_option maxHeartbeats 1000000 in
theorem checked_any (a : Option Addr) (zs : List Int) (n cap : Nat) (hn : Hid (zs.length = n)) (w : World) (hs : SegZ w a zs) (hl : n ≤ 9223372036854775807) :
    Calls Tryd.prog 93 #[.slice a n cap] w fun e w' => ∃ X : List Int, X.length = 16 ∧ (errC zs = 0 → X = cnts zs) ∧ e = .returned (.tuple #[.agg (arr X), .int .i64 (errC zs)]) ∧ Below w.heap.size w w' := by
  have HC : Hid (∀ W, Below w.heap.size w W → Calls Tryd.prog 111 #[.slice a n cap] W fun e w' => ∃ X : List Int, X.length = 16 ∧ (errS zs = 0 → X = cnts zs) ∧ e = .returned (.tuple #[.agg (arr X), .int .i64 (errS zs)]) ∧ Below W.heap.size W w') := fun W hW => counted_any a zs n cap hn W (hs.old hW) hl
  go_enter Tryd.func93, Tryd.ntmps93
  have hr0 : (w.alloc (.cells zero16 83)).heap[w.heap.size]? = some (.cells zero16 83 (0, 0)) := heap_alloc_new w _
  have B0 : Below w.heap.size w (w.alloc (.cells zero16 83)) := (Below.refl _ _).alloc (Nat.le_refl _) _
  have hz0 : w.heap.size < (w.alloc (.cells zero16 83)).heap.size := by simp
  go_wp2_with fail
  change Calls _ _ _ (w.alloc (.cells zero16 83)) _
  generalize w.alloc (.cells zero16 83) = W0 at *
  obtain ⟨r, er⟩ : ∃ r, r = w.heap.size := ⟨_, rfl⟩
  have HR : Hid (r = w.heap.size) := er
  rw [← er] at hr0 hz0
  rw [← er]
  clear er
  refine (HC.out _ B0).mono ?_
  rintro e W1 ⟨X, hX16, hXc, rfl, B1⟩
  have HX : Hid (X.length = 16 ∧ (errS zs = 0 → X = cnts zs)) := ⟨hX16, hXc⟩
  clear hX16 hXc
  have hr1 := (B1.block r hz0).trans hr0
  have hz1 : r < W1.heap.size := Nat.lt_of_lt_of_le hz0 B1.size
  have B01 : Below w.heap.size w W1 := B0.trans (B1.mono B0.size)
  have hr2 : (W1.alloc (.cells (arr X) 83)).heap[r]? = some (.cells zero16 83 (0, 0)) := (((Below.refl _ W1).alloc (Nat.le_refl _) _).block r hz1).trans hr1
  have B2 : Below w.heap.size w (W1.alloc (.cells (arr X) 83)) := B01.alloc B01.size _
  have hz2 : r < (W1.alloc (.cells (arr X) 83)).heap.size := by simp; omega
  have ho2 := new_arr (w := W1) (A := X) (t := 83)
  obtain ⟨o, eo⟩ : ∃ o, o = W1.heap.size := ⟨_, rfl⟩
  have HO : Hid (o = W1.heap.size) := eo
  rw [← eo] at ho2
  have hro : r ≠ o := by omega
  have hoz : o < (W1.alloc (.cells (arr X) 83)).heap.size := by simp; omega
  clear eo
  rcases errS_two zs with he | he
  · have HE : Hid (errS zs = 0) := he
    rw [he]
    clear he
    have HXc : Hid (X = cnts zs) := HX.out.2 HE.out
    have HCR : Hid (∀ W, Calls Tryd.prog 112 #[.agg (arr X)] W fun e w' => e = .returned (.int .i64 (errR zs)) ∧ Below W.heap.size W w') := fun W => by
      rw [HXc.out]
      exact refusal5_any zs (cC_288 HE.out) W
    go_wp2_with (first
      | (refine wpList_store_row rfl 83 _ _ rfl W1.heap.size (arr X) rfl rfl _ zero16 (heap_alloc_new W1 _) (arr_info HX.out.1) (by rw [arr_size, HX.out.1]; rfl) (arr_one _) ?_; rw [World.setRow_alloc_new, ← HO.out]; generalize W1.alloc (.cells (arr X) 83) = W2 at *)
      | (refine wpList_load_row rfl 83 _ rfl o rfl _ _ _ _ ho2 Tryd.underlying83 rfl (arr_info HX.out.1) ?_))
    refine (HCR.out _).mono ?_
    rintro e W3 ⟨rfl, B3⟩
    have hr3 := (B3.block r hz2).trans hr2
    have ho3 := (B3.block o hoz).trans ho2
    have Bw : Below w.heap.size w W3 := B2.trans (B3.mono B2.size)
    go_wp2_with (first
      | (refine wpList_load_row rfl 83 _ rfl o rfl _ _ _ _ ho3 Tryd.underlying83 rfl (arr_info HX.out.1) ?_)
      | (refine wpList_store_row rfl 83 _ _ rfl r (arr X) rfl rfl _ _ hr3 (arr_info HX.out.1) (by rw [arr_size, HX.out.1]; rfl) (arr_one _) ?_))
    have hR := setRow_heap W3 r _ (arr X) _ _ hr3
    refine bodyPost_ret (v := .tuple #[.agg (arr X), .int .i64 (errR zs)]) (results_ct (fn := Tryd.f93) (p := 2) (u := 3) (ty := 83) rfl _ _ r _ _ _ _ rfl hR Tryd.underlying83 rfl (arr_info HX.out.1)) rfl ⟨X, HX.out.1, fun _ => HXc.out, ?_, Bw.grown (grown_setRow _ r _) Bw.size (fun k hk => by cases hk; exact Nat.le_of_eq HR.out.symm)⟩
    unfold errC
    rw [if_pos HE.out]
  · have HE : Hid (errS zs = 50) := he
    rw [he]
    clear he
    go_wp2_with (first
      | (refine wpList_store_row rfl 83 _ _ rfl W1.heap.size (arr X) rfl rfl _ zero16 (heap_alloc_new W1 _) (arr_info HX.out.1) (by rw [arr_size, HX.out.1]; rfl) (arr_one _) ?_; rw [World.setRow_alloc_new, ← HO.out]; generalize W1.alloc (.cells (arr X) 83) = W2 at *)
      | (refine wpList_load_row rfl 83 _ rfl o rfl _ _ _ _ ho2 Tryd.underlying83 rfl (arr_info HX.out.1) ?_)
      | (refine wpList_store_row rfl 83 _ _ rfl r (arr X) rfl rfl _ _ hr2 (arr_info HX.out.1) (by rw [arr_size, HX.out.1]; rfl) (arr_one _) ?_))
    have hR := setRow_heap _ r _ (arr X) _ _ hr2
    refine bodyPost_ret (v := .tuple #[.agg (arr X), .int .i64 50]) (results_ct (fn := Tryd.f93) (p := 2) (u := 3) (ty := 83) rfl _ _ r _ _ _ _ rfl hR Tryd.underlying83 rfl (arr_info HX.out.1)) rfl ⟨X, HX.out.1, ?_, ?_, B2.grown (grown_setRow _ r _) B2.size (fun k hk => by cases hk; exact Nat.le_of_eq HR.out.symm)⟩
    · intro h
      have := (errC_zero h).1
      rw [HE.out] at this
      cases this
    · unfold errC
      rw [HE.out, if_neg (by decide)]
end Go.Proofs.YtoeabfcnfofbiaaDoor
