
import Derived.Test.YtboangeopbblnaaPuG
namespace Go.Proofs.Ytboangeopbblnaa
open Go.RowKit Go.Maps Go.WideMaps Go.MuLone Go.Shelf
set_option linter.unusedVariables false
set_option linter.unusedSimpArgs false
set_option maxRecDepth 100000

theorem gn23_len {S : Pu23} (h : Ok23 S) (lf : ByteArray → Bool) {acc : List ByteArray} (hp : acc.Perm ((gn23 S.L lf).map Ho23.nm)) : acc.length ≤ 1024 := by
  have h1 := hp.length_eq
  have h2 : (gn23 S.L lf).length ≤ S.L.length := List.length_filter_le _ _
  have h3 := h.ln
  simp at h1
  omega
set_option maxRecDepth 100000 in
set_option maxHeartbeats 4000000 in
theorem pnms23 {w : World} {l m : Nat} {S : Pu23} (h : Lg23 w l m 0 S) :
    Calls Try.prog 33 #[.pointer (some ⟨l, 0, none⟩)] w (NmQ23 w l m S) := by
  obtain ⟨w1, hw1⟩ : ∃ w1, w1 = w.setCell ⟨l, 0, none⟩ (.int .i32 1) := ⟨_, rfl⟩
  have HLk : Hid (Calls Try.prog 43 #[.pointer (some ⟨l, 0, none⟩)] w fun e w' => e = .returned (.tuple #[]) ∧ w' = w1) := by
    rw [hw1]; exact lock_free mulib23 ⟨l, 0, none⟩ w (led_c h.hl).1 (led_free h.hl 0)
  have h1 : Lg23 w1 l m 1 S := by rw [hw1]; exact h.lock 1
  have k1 : Hid (Kp (fun k => k = l) w w1) := by rw [hw1]; exact Kp.set (S := fun k => k = l) rfl _
  have z1 : Hid (w1.heap.size = w.heap.size) := (by rw [hw1]; simp [World.setCell] : w1.heap.size = w.heap.size)
  have HS : Hid (Lg23 w1 l m 1 S) := h1
  obtain ⟨-, -, c2, -⟩ := led_c h1.hl
  have hlen := fun ty => h1.hm.len ty
  have HO : Hid (Ok23 S) := h.ok
  have hL : S.L.length ≤ 1024 := h.ok.ln
  obtain ⟨i0, hi, hz0, hz1, hz2⟩ := info_parts info_s23
  have hz3 : i0.bytes * S.L.length ≤ 281474976710656 := by rw [hz2]; omega
  clear hw1 h h1
  go_enter_defers Try.func33, Try.ntmps33
  go_wp2_with (first
    | (go_at_call 43; refine HLk.out.mono ?_; rintro e w' ⟨rfl, hw⟩; subst w')
    | (at_range; refine wpList_range23 rfl _ rfl m S.L (fun h hh => (HO.out.bd h hh).2.2.2) HO.out.so rfl HS2.out.hm ?_; intro w3 lf0 cnt0 hrg0 hl0 hg0 hs0)
    | (refine wpList_make_own _ rfl _ _ 35 rfl w1.heap.size 9 i0 (.string ByteArray.empty) 1 Try.underlying35 hi hz0 hz1 .i64 .i64 _ S.L.length rfl rfl rfl hz3 (by unfold maxLen; omega) (Nat.le_refl _) ?_; intro w2 hown2 hg2; have B2 : Hid (Below w1.heap.size w1 w2) := (Below.refl _ _).grown hg2 (Nat.le_refl _) (fun j hj => by cases hj); have HS2 : Hid (Lg23 w2 l m 1 S) := HS.out.below B2.out; obtain ⟨-, -, d2, -⟩ := led_c HS2.out.hl; have OW2 : Hid (w2.ownsRow w1.heap.size 9 1 (.slice (some ⟨w1.heap.size, 0, none⟩) 0 S.L.length) 0 []) := hown2; clear hown2 hg2))
  go_frame
  have zz : Hid (w1.heap.size < w2.heap.size) := by
    rcases OW2.out.2 with ⟨h1, _⟩ | ⟨g, cp, cur, h1, h2, h3, _⟩
    · cases h1
    · simp only [Value.slice.injEq, Option.some.injEq, Addr.mk.injEq] at h1
      obtain ⟨⟨rfl, _⟩, _⟩ := h1
      exact (Array.getElem?_eq_some_iff.1 h3).1
  go_loopw [3] (fun t3 wr => ∃ (lf : ByteArray → Bool) (cnt : Nat) (acc : List ByteArray) (g c n : Nat), Rg23 wr m w2.heap.size S.L lf cnt ∧ t3 = .slice (some ⟨g, 0, none⟩) n c ∧ acc.length = n ∧ wr.ownsRow w1.heap.size 9 1 (.slice (some ⟨g, 0, none⟩) n c) n (acc.map Value.string) ∧ acc.Perm ((gn23 S.L lf).map Ho23.nm) ∧ g ≠ w2.heap.size ∧ w1.heap.size ≤ g ∧ Below w1.heap.size w1 wr ∧ w2.heap.size < wr.heap.size) (fun _ wr => wr.rangeLeft m w2.heap.size)
  case atStart =>
    refine ⟨lf0, cnt0, [], w1.heap.size, S.L.length, 0, hrg0, rfl, rfl, ?_, by rw [gn23_none hl0]; exact List.Perm.refl _, by have := zz.out; omega, Nat.le_refl _, B2.out.trans ((Below.refl _ _).grown hg0 B2.out.size (fun j hj => by cases hj)), by omega⟩
    exact own_kp OW2.out (Kp.grown (S := fun _ => False) hg0 (fun i e => by cases e)) (fun _ _ h => h)
  case round =>
    obtain ⟨lf, cnt, acc, g, c, n, hrg, rfl, hn, hown, hpm, hgr, hgl, hB, hsz⟩ := hrel
    have hrgH : Hid (Rg23 wr m w2.heap.size S.L lf cnt) := hrg
    have HB : Hid (Below w1.heap.size w1 wr ∧ w2.heap.size < wr.heap.size ∧ g ≠ w2.heap.size ∧ w1.heap.size ≤ g) := ⟨hB, hsz, hgr, hgl⟩
    have HW : Hid (acc.length = n ∧ wr.ownsRow w1.heap.size 9 1 (.slice (some ⟨g, 0, none⟩) n c) n (acc.map Value.string) ∧ acc.Perm ((gn23 S.L lf).map Ho23.nm)) := ⟨hn, hown, hpm⟩
    have hn24 : n ≤ 1024 := by rw [← hn]; exact gn23_len HO.out lf hpm
    clear hrg hB hrg0 hl0 hg0 hs0 hown hpm hgr hgl hsz hn
    go_wp2_with (at_next; refine wpList_next23 rfl _ rfl m w2.heap.size S.L lf cnt rfl hrgH.out ?_ ?_)
    · intro hl
      have hpm := HW.out.2.2
      rw [gn23_all hl] at hpm
      have hln : n = S.L.length := by rw [← HW.out.1, hpm.length_eq]; simp
      have HF : Hid (srt23 acc = S.L.map Ho23.nm ∧ n = S.L.length) := ⟨srt23_is HO.out.so hpm, hln⟩
      clear hpm hln
      have HC := psort23 HW.out.2.1 HW.out.1 (by omega)
      go_wp2_with fail
      refine HC.mono ?_
      rintro e w6 ⟨rfl, hr6, k6⟩
      have HR : Hid (w6.ownsRow w1.heap.size 9 1 (.slice (some ⟨g, 0, none⟩) n c) n ((srt23 acc).map Value.string)) := hr6
      have hB6 : Below w1.heap.size w1 w6 := HB.out.1.trans (k6.below (B := w1.heap.size) (fun i e => by simp only [Value.ownBlock, Option.some.injEq] at e; have := HB.out.2.2.2; omega) HB.out.1.size)
      have HS6 : Hid (Lg23 w6 l m 1 S ∧ Below w1.heap.size w1 w6) := ⟨HS.out.below hB6, hB6⟩
      clear hr6 k6 hB6 HC
      go_wp2_with fail
      refine leaves_cons (f := 44) (args := #[.pointer (some ⟨l, 0, none⟩)]) (by simp) (by simp [go_sem]) ?_
      refine (unlock_deferred mulib23 ⟨l, 0, none⟩ .returning _ (led_c HS6.out.1.hl).1 (led_free HS6.out.1.hl 0)).mono ?_
      rintro e u' w'' ⟨rfl, rfl, rfl⟩
      refine ⟨_, results_tmp rfl _ _ _, some ⟨g, 0, none⟩, n, c, rfl, HF.out.2, ?_, HS6.out.1.lock 0, (k1.out.trans (Kp.of_below (S := fun k => k = l) HS6.out.2) (fun _ _ h => h)).trans (Kp.set (S := fun k => k = l) rfl _) (fun _ _ h => h)⟩
      rw [← HF.out.1, ← z1.out]
      refine own_kp HR.out (Kp.set (S := fun k => k = l) rfl _) (fun k e => ?_)
      simp only [Value.ownBlock, Option.some.injEq] at e
      have := HB.out.2.2.2
      have := HS.out.lt.1
      omega
    · intro y w4 lf1 cnt1 hy hly hl1 hrg1 hlt1 hg1 hs1 hen
      have hstep := (gn23_step HO.out.so.ne hy hly hl1).map Ho23.nm
      have hpm1 : (acc ++ [y.nm]).Perm ((gn23 S.L lf1).map Ho23.nm) := by
        refine (HW.out.2.2.append_right [y.nm]).trans ?_
        simpa using hstep.symm
      have hown4 : w4.ownsRow w1.heap.size 9 1 (.slice (some ⟨g, 0, none⟩) n c) n (acc.map Value.string) := own_kp HW.out.2.1 (Kp.grown (S := fun k => k = w2.heap.size) hg1 (fun i e => by cases e; rfl)) (fun k e => by simp only [Value.ownBlock, Option.some.injEq] at e; have := HB.out.2.2.1; omega)
      have HG : Hid (Rg23 w4 m w2.heap.size S.L lf1 cnt1 ∧ w4.heap.size = wr.heap.size ∧ cnt1 < cnt ∧ Below w1.heap.size w1 w4) := ⟨hrg1, hs1, hlt1, HB.out.1.grown hg1 HB.out.1.size (fun j hj => by cases hj; exact Nat.le_of_lt zz.out)⟩
      have HP : Hid ((acc ++ [y.nm]).Perm ((gn23 S.L lf1).map Ho23.nm) ∧ w4.ownsRow w1.heap.size 9 1 (.slice (some ⟨g, 0, none⟩) n c) n (acc.map Value.string)) := ⟨hpm1, hown4⟩
      have hb4 : w1.heap.size ≤ w4.heap.size := HG.out.2.2.2.size
      clear hrg1 hs1 hlt1 hg1 hly hl1 hstep hpm1 hown4
      go_wp2_with (at_builtin; refine wpList_app1 rfl (.tmp 27) (.tmp 29) 35 rfl w1.heap.size 9 i0 (.string ByteArray.empty) 16 Try.underlying35 hi hz0 hz1 hz2 rfl w4 (.string y.nm) rfl HP.out.2 rfl rfl (by omega) (by omega) hb4 ?_; intro g2 c3 w5 hown5 hg5 hf5)
      have hg2 : g2 = g ∨ w4.heap.size ≤ g2 := by
        have := hf5 g2 rfl
        simpa [Value.ownBlock, eq_comm] using this
      have hrg5 : Rg23 w5 m w2.heap.size S.L lf1 cnt1 := HG.out.1.kept hg5 (fun e => by simp only [Value.ownBlock, Option.some.injEq] at e; have := HB.out.2.2.2; have := HS.out.lt.2; omega) (fun e => by simp only [Value.ownBlock, Option.some.injEq] at e; have := HB.out.2.2.1; omega)
      have hB5 : Below w1.heap.size w1 w5 := HG.out.2.2.2.grown hg5 hb4 (fun j hj => by simp only [Value.ownBlock, Option.some.injEq] at hj; have := HB.out.2.2.2; omega)
      have hS5 := hg5.size
      go_wp2_with fail
      go_roundw
      case rel =>
        refine ⟨lf1, cnt1, acc ++ [y.nm], g2, c3, n + 1, hrg5, rfl, by simp [HW.out.1], by simpa using hown5, HP.out.1, ?_, ?_, hB5, ?_⟩
        · have := HB.out.2; have := HG.out.2.1; omega
        · have := HB.out.2; omega
        · have := HB.out.2; have := HG.out.2.1; omega
      case measure =>
        rw [hrg5.left, hrgH.out.left]
        exact HG.out.2.2.1
end Go.Proofs.Ytboangeopbblnaa
