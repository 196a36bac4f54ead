import Derived.Test.YtmpbaabmpcejdabProg
import Derived.Test.YtmpbaabmpcejdabTk
import Derived.Test.YtmpbaabmpcejdabVal
import Derived.Test.YtmpbaabmpcejdabPush
import Derived.Test.YtmpbaabmpcejdabOwnSeg
namespace Go.Proofs.Ytmpbaabmpcejdab
open Go.RowKit
set_option linter.unusedVariables false

theorem grown_of_below {w w' : World} {row : Option Nat} (h : Below w.heap.size w w') : w.grownBy w' row := ⟨h.os, h.tape, h.output, h.size, fun k hk _ => h.block k hk⟩

/-- A Taker of the document's in a block of its own; its bytes lie elsewhere. -/
structure RT (w : World) (b B : Nat) (bs : List Int) : Prop where
  ex : ∃ a cap, w.heap[b]? = some (.cells #[.slice a bs.length cap] 28 (0, 0)) ∧ Seg w a bs ∧ (a = none → cap = 0) ∧ ∀ g off, a = some ⟨g, off, none⟩ → 0 < bs.length → B ≤ g

theorem RT.kept {w w' : World} {b B c : Nat} {bs : List Int} (h : RT w b B bs) (hg : w.grownBy w' (some c)) (hc : c < B) (hb : b ≠ c) : RT w' b B bs := by
  obtain ⟨a, cap, h1, h2, h3, h4⟩ := h.ex
  refine ⟨a, cap, ?_, h2.grown hg (fun g off ha hl => ?_), h3, h4⟩
  · rw [hg.block b (Array.getElem?_eq_some_iff.1 h1).1 (by intro e; cases e; exact hb rfl)]; exact h1
  · have := h4 g off ha hl
    intro e; cases e; omega
theorem RT.old {w w' : World} {b B : Nat} {bs : List Int} (h : RT w b B bs) (hb : Below w.heap.size w w') : RT w' b B bs := by
  obtain ⟨a, cap, h1, h2, h3, h4⟩ := h.ex
  exact ⟨a, cap, by rw [hb.block b (Array.getElem?_eq_some_iff.1 h1).1]; exact h1, h2.old hb, h3, h4⟩
theorem RT.nil {w : World} {b B : Nat} (h : w.heap[b]? = some (.cells #[.slice none 0 0] 28 (0, 0))) : RT w b B [] := ⟨none, 0, h, SegK.nil (by decide) _ _, fun _ => rfl, fun g off ha => by cases ha⟩

theorem info_u8t : (Try.prog.info? 5).map (fun i => (i.zero, i.size, i.bytes)) = some (some (.int .u8 0), 1, 1) := by kernel_rfl

set_option maxHeartbeats 1000000 in
theorem rtake_all (b B : Nat) (bs : List Int) (x : Int) (w : World) (h : RT w b B bs) (hbB : b < B) (hB : B ≤ w.heap.size) (hx0 : 0 ≤ x) (hx1 : x ≤ 255) (hc9 : bs.length ≤ 9)  :
    Calls Try.prog 8 #[.pointer (some ⟨b, 0, none⟩), .int .u8 x] w fun e w' => w.grownBy w' (some b) ∧
      ((tkErr bs.length x ≠ 0 ∧ e = .returned (.tuple #[.int .u64 0, .bool false, .int .i64 (tkErr bs.length x)]) ∧ RT w' b B []) ∨
       (tkErr bs.length x = 0 ∧ 128 ≤ x ∧ e = .returned (.tuple #[.int .u64 0, .bool false, .int .i64 0]) ∧ RT w' b B (bs ++ [x])) ∨
       (tkErr bs.length x = 0 ∧ x < 128 ∧ e = .returned (.tuple #[.int .u64 (tkVal (valL bs) bs.length x), .bool true, .int .i64 0]) ∧ RT w' b B [])) := by
  obtain ⟨a, cap, h1, hs, hnil, hfar⟩ := h.ex
  obtain ⟨i0, hi, hz0, hz1, hz2⟩ := info_parts info_u8t
  have hm0 : (w.alloc (.cells #[] 5)).ownsRow w.heap.size 5 1 (.slice (some ⟨w.heap.size, 0, none⟩) 0 0) 0 [] := World.ownsRow_made w #[] 0 (Nat.le_refl _) (by decide) rfl
  have hb0 : Below w.heap.size w (w.alloc (.cells #[] 5)) := (Below.refl _ _).alloc (Nat.le_refl _) _
  have hc := cell_of_one h1
  have hf := free_of_one h1
  have hlt : b < w.heap.size := (Array.getElem?_eq_some_iff.1 h1).1
  go_enter Try.func8, Try.ntmps8
  go_wp2_with (first
    | (at_builtin; refine wpList_append_seg rfl (.tmp 10) (.tmp 14) 26 rfl w.heap.size 5 i0 (.int .u8 0) 1 Try.underlying26 hi hz0 hz1 hz2 rfl hm0 (hs.alloc _) hnil rfl rfl (by omega) (by omega) (by simp) ?_; intro v1 w1 hown1 hg1 hb1)
    | (at_builtin; refine wpList_push rfl (.tmp 15) (.tmp 17) 26 rfl w.heap.size 5 i0 (.int .u8 0) 1 Try.underlying26 hi hz0 hz1 hz2 rfl w1 (.int .u8 x) rfl hown1 rfl rfl (by omega) (by omega) (by have := hb1.size; simp at this; omega) ?_; intro v2 w2 hown2 hg2 hb2; obtain ⟨g, gc, hv2, hc2, hg, hgs⟩ := own_shape hown2 (by simp); rw [hv2]; have hbb := hb0.trans (hb1.trans hb2); have hcell := (hbb.cell (p := ⟨b, 0, none⟩) hlt).trans hc; have hfrz := (hbb.frozen (p := ⟨b, 0, none⟩) hlt).trans hf))
  have hown3 : w2.ownsRow w.heap.size 5 1 (.slice (some ⟨g, 0, none⟩) (bs.length + 1) gc) (bs.length + 1) ((bs ++ [x]).map (Value.int .u8)) := by
    rw [hv2] at hown2
    simpa using hown2
  have hbd : ∀ z ∈ bs ++ [x], 0 ≤ z ∧ z ≤ (255 : Int) := by
    intro z hz
    rw [List.mem_append] at hz
    rcases hz with hz | hz
    · exact hs.mem z hz
    · simp at hz; omega
  have hseg2 : Seg w2 (some ⟨g, 0, none⟩) (bs ++ [x]) := by
    obtain ⟨_, a3, c3, hv, hsg, _⟩ := own_seg hown3 (M := 255) (by decide) hbd
    cases hv
    exact hsg
  have hgw : w2.grownBy (w2.setCell ⟨b, 0, none⟩ (.slice (some ⟨g, 0, none⟩) (bs.length + 1) gc)) (some b) := grownBy_set (World.grownBy.refl _ _) _
  have hh2 : w2.heap[b]? = some (.cells #[.slice a bs.length cap] 28 (0, 0)) := by rw [hbb.block b hlt]; exact h1
  have hh3 : (w2.setCell ⟨b, 0, none⟩ (.slice (some ⟨g, 0, none⟩) (bs.length + 1) gc)).heap[b]? = some (.cells #[.slice (some ⟨g, 0, none⟩) (bs.length + 1) gc] 28 (0, 0)) := one_setCell hh2
  have hgr : w.grownBy (w2.setCell ⟨b, 0, none⟩ (.slice (some ⟨g, 0, none⟩) (bs.length + 1) gc)) (some b) := grownBy_trans (grown_of_below hbb) hgw
  have hseg3 : Seg (w2.setCell ⟨b, 0, none⟩ (.slice (some ⟨g, 0, none⟩) (bs.length + 1) gc)) (some ⟨g, 0, none⟩) (bs ++ [x]) := hseg2.grown hgw (by intro g' off e _; cases e; intro e2; cases e2; omega)
  have hcx : (w2.setCell ⟨b, 0, none⟩ (.slice (some ⟨g, 0, none⟩) (bs.length + 1) gc)).cell? ⟨g, 0 + bs.length, none⟩ = some (.int .u8 x) := by
    obtain ⟨g', off', e, hc'⟩ := hseg3.at_ bs.length (by simp)
    cases e
    rw [hc']
    simp [List.getD]
  have hVs := valL_snoc bs x
  have hVl := valL_lt bs
  have hVp := valL_pos bs
  clear hown2 hown3 hown1 hg1 hg2 hb1 hb2 hseg2 hgw hm0 hb0 hv2 hc hf hbb hcell hfrz hh2
  generalize w2.setCell ⟨b, 0, none⟩ (.slice (some ⟨g, 0, none⟩) (bs.length + 1) gc) = w3 at *
  have hc3 := cell_of_one hh3
  have hf3 := free_of_one hh3
  by_cases he : tkErr bs.length x = 0
  · have hne : (tkErr bs.length x != 0) = false := by simp [he]
    have H9 := tk_fits bs.length x hc9 hx0 (tkErr_nine he)
    by_cases h7 : x < 128
    · have HV : Hid (valL (bs ++ [x]) = tkVal (valL bs) bs.length x) := by show valL _ = _; rw [hVs]; rfl
      have hfit : valL (bs ++ [x]) ≤ 18446744073709551615 := by rw [hVs]; omega
      clear hVs hVl hVp H9
      refine (wrong_any g 0 bs.length gc x _ hcx hx0 (by omega)).mono ?_
      rintro e w4 ⟨rfl, hw4⟩
      subst w4
      go_wp2_with fail
      refine (value_at _ (bs ++ [x]) _ gc _ hseg3 (by simp) (by omega) hfit).mono ?_
      rintro e w4 ⟨rfl, hw4⟩
      subst w4
      go_wp2
      go_ret3
      refine ⟨grownBy_set hgr _, Or.inr (Or.inr ⟨he, h7, by rw [← HV.out]; rfl, RT.nil (one_setCell hh3)⟩)⟩
    · have h8 : 128 ≤ x := by omega
      clear hVs hVl hVp H9 h7
      refine (wrong_any g 0 bs.length gc x _ hcx hx0 (by omega)).mono ?_
      rintro e w4 ⟨rfl, hw4⟩
      subst w4
      go_wp2
      go_ret3
      exact ⟨hgr, Or.inr (Or.inl ⟨he, h8, rfl, ⟨some ⟨g, 0, none⟩, gc, by simpa using hh3, hseg3, (by intro e; cases e), (by intro g' off e _; cases e; omega)⟩⟩)⟩
  · have hne : (tkErr bs.length x != 0) = true := by simp [he]
    clear hVs hVl hVp
    refine (wrong_any g 0 bs.length gc x _ hcx hx0 (by omega)).mono ?_
    rintro e w4 ⟨rfl, hw4⟩
    subst w4
    go_wp2
    go_ret3
    exact ⟨grownBy_set hgr _, Or.inl ⟨he, rfl, RT.nil (one_setCell hh3)⟩⟩
end Go.Proofs.Ytmpbaabmpcejdab
