import Derived.Test.YtmfpdchfofffeaaGreatDoorSa16
import Derived.Test.YtmfpdchfofffeaaGreatDoorSuM1
import Derived.Lib.SliceRun
namespace Go.Proofs.YtmfpdchfofffeaaGreatDoor
open Go.RowKit
set_option linter.unusedVariables false
theorem info_y13 : (Tryz.prog.info? 5).map (fun i => (i.zero, i.size, i.bytes)) = some (some (.int .u8 0), 1, 1) := by kernel_rfl
theorem own_le13 {w : World} {base n : Nat} {e : TypeId} {a : Option Addr} {cap : Nat} {xs : List Value} (h : w.ownsRow base e 1 (.slice a n cap) n xs) : n ≤ cap := by
  rcases h.2 with ⟨h1, h2⟩ | ⟨g, cp, cur, hv, hg, hh, hc, _⟩
  · omega
  · simp only [Value.slice.injEq] at hv
    omega
set_option maxRecDepth 100000 in
set_option maxHeartbeats 1000000 in
theorem pclb13 (a : Option Addr) (zs : List Int) (n cap : Nat) (w : World) (hs : Seg w a zs) (hn : Hid (zs.length = n)) (hnil : a = none → cap = 0) (hl : n ≤ 140737488351232) :
    Calls Tryz.prog 74 #[.slice a n cap] w fun e w' => ∃ ra rc, e = .returned (.slice ra n rc) ∧ (ra = none → rc = 0 ∧ a = none) ∧ w'.ownsRow w.heap.size 5 1 (.slice ra n rc) n (zs.map (Value.int .u8)) ∧ Below w.heap.size w w' := by
  obtain ⟨i0, hi, hz0, hz1, hz2⟩ := info_parts info_y13
  cases a with
  | none =>
    have h0 : zs = [] := by
      cases zs with
      | nil => rfl
      | cons z r => obtain ⟨b, off, hx, _⟩ := hs.at_ 0 (by simp); cases hx
    subst h0
    obtain rfl : n = 0 := hn.out.symm
    obtain rfl := hnil rfl
    clear hnil hn hs
    have HE := Go.Lib.run_eql_slice_nil (P := Tryz.prog) w 36 5 none 0 0 0 0 Tryz.underlying36
    go_enter Tryz.func74, Tryz.ntmps74
    go_wp2_with fail
    go_ret
    exact ⟨none, 0, rfl, fun _ => ⟨rfl, by first | trivial | rfl⟩, World.ownsRow_nil _ _ _ _, Below.refl _ _⟩
  | some ad =>
    have hm0 : (w.alloc (.cells #[] 5)).ownsRow w.heap.size 5 1 (.slice (some ⟨w.heap.size, 0, none⟩) 0 0) 0 [] := World.ownsRow_made w #[] 0 (Nat.le_refl _) (by decide) rfl
    have hb0 : Below w.heap.size w (w.alloc (.cells #[] 5)) := (Below.refl _ _).alloc (Nat.le_refl _) _
    have hs1 := hs.alloc (.cells #[] 5)
    have e0 := hn.out
    subst e0
    clear hn hnil hs
    have HE := fun c => Go.Lib.run_eql_slice_nil (P := Tryz.prog) w 36 5 (some ad) zs.length c 0 0 Tryz.underlying36
    go_enter Tryz.func74, Tryz.ntmps74
    go_wp2_with (first
      | (at_builtin; refine wpList_appS rfl (.tmp 5) (.tmp 6) 36 rfl w.heap.size 5 i0 (.int .u8 0) 1 Tryz.underlying36 hi hz0 hz1 hz2 rfl hm0 hs1 (by intro h; cases h) rfl rfl (by omega) (by omega) (by have := hb0.size; omega) ?_; intro a1 c1 w1 hown1 hg1 hf1 hn1; have hb1 := hb0.trans (below_own hm0 hg1 (by have := hb0.size; omega)); clear hf1 hg1; rw [Nat.zero_add, List.nil_append] at hown1))
    go_ret
    refine ⟨a1, c1, by simp, fun h => ?_, hown1, hb1⟩
    subst h
    rcases hown1.2 with ⟨h1, h2⟩ | ⟨g, cp, cur, hv, _⟩
    · rw [Nat.zero_add] at hn1
      have := hn1.1 h1
      simp at this
    · simp at hv
theorem seg_bd13 {w : World} {a : Option Addr} {z : List Int} (hs : Seg w a z) : ∀ y ∈ z, 0 ≤ y ∧ y ≤ 255 := hs.mem
theorem bd13 {z : List Int} (h : ∀ y ∈ z, 0 ≤ y ∧ y ≤ 255) : ∀ y ∈ z, -9223372036854775808 ≤ y ∧ y ≤ 9223372036854775807 := fun y hy => by have := h y hy; omega
theorem own_seg13 {w : World} {base n : Nat} {a : Option Addr} {cap : Nat} {zs : List Int} (h : w.ownsRow base 5 1 (.slice a n cap) n (zs.map (Value.int .u8))) (hb : ∀ y ∈ zs, 0 ≤ y ∧ y ≤ 255) : Seg w a zs := by
  have hl : zs.length = n := by simpa using h.1
  have bd : ∀ i, 0 ≤ zs.getD i 0 ∧ zs.getD i 0 ≤ 255 := fun i => by
    by_cases hi : i < zs.length
    · have := hb zs[i] (List.getElem_mem hi)
      simpa [List.getD, hi] using this
    · have : zs[i]? = none := List.getElem?_eq_none (by omega)
      simp [List.getD, this]
  rcases h.2 with ⟨h1, hn⟩ | ⟨g, cap', cur, hv, hg, hh, hc, _, _, ht⟩
  · have : zs = [] := List.eq_nil_of_length_eq_zero (by omega)
    subst this
    exact SegK.nil (by decide) _ _
  · simp only [Value.slice.injEq] at hv
    obtain ⟨rfl, _, rfl⟩ := hv
    refine ⟨fun i hi => ⟨g, 0, rfl, ?_⟩, by decide, bd⟩
    have := h.cells (g := g) rfl i (.int .u8 (zs.getD i 0)) (by simp [List.getD, hi])
    have hadd : (⟨g, 0, none⟩ : Addr).add i = ⟨g, 0 + i, none⟩ := by unfold Addr.add; split <;> simp_all
    rw [hadd] at this
    exact this
def wds13 (z : List Int) (k : Nat) : List Int := (z.take k) ++ List.replicate (z.length - k) 0
theorem wds13_len (z : List Int) (k : Nat) (h : k ≤ z.length) : (wds13 z k).length = z.length := by simp [wds13]; omega
theorem wds13_zero (z : List Int) : wds13 z 0 = List.replicate z.length 0 := by simp [wds13]
theorem wds13_all (z : List Int) : wds13 z z.length = z := by simp [wds13]
theorem wds13_set (z : List Int) (k : Nat) (h : k < z.length) : (wds13 z k).set k (z.getD k 0) = wds13 z (k + 1) := by
  unfold wds13
  have e : z.length - k = (z.length - (k + 1)) + 1 := by omega
  rw [e, List.replicate_succ, List.set_append_right _ _ (by simp; omega), take_snocZ h]
  have : k - (z.take k).length = 0 := by simp; omega
  rw [this, List.set_cons_zero, List.append_assoc]
  rfl
set_option maxRecDepth 100000 in
set_option maxHeartbeats 2000000 in
theorem pnum13 (a : Option Addr) (z : List Int) (n cap : Nat) (w : World) (hs : Seg w a z) (hn : Hid (z.length = n)) (hb : n ≤ 16777216000) :
    Calls Tryz.prog 83 #[.slice a n cap] w fun e w' => e = .returned (.slice (some ⟨w.heap.size, 0, none⟩) n n) ∧ Rz12 w' w.heap.size z ∧ Below w.heap.size w w' := by
  have HM := run_make_i12 n (by omega) w
  have hal : Below w.heap.size w (w.alloc (.cells (vi12 (List.replicate n 0)) 3)) := (Below.refl _ _).alloc (Nat.le_refl _) _
  have hr0 := Rz12.new w (List.replicate n 0)
  have HZ : Hid (List.replicate n (0 : Int) = wds13 z 0) := by show _ = _; rw [wds13_zero, hn.out]
  have HWA : Hid (wds13 z n = z) := by show _ = _; rw [← hn.out]; exact wds13_all z
  rw [HZ.out] at hal hr0 HM
  have HSD : Hid (∀ w', Below w.heap.size w w' → Seg w' a z) := fun w' b => hs.old b
  have HVB : Hid (∀ i, 0 ≤ z.getD i 0 ∧ z.getD i 0 ≤ 255) := hs.bd
  clear hs
  generalize hg : w.heap.size = g at *
  generalize hw1 : w.alloc (.cells (vi12 (wds13 z 0)) 3) = w1 at *
  have HG : Hid (w.heap.size = g) := hg
  clear hg hw1
  go_enter Tryz.func83, Tryz.ntmps83
  go_wp2_with fail
  go_loopw [11] (fun ti wr => ∃ i : Nat, i ≤ n ∧ ti = .int .i64 i ∧ Rz12 wr g (wds13 z i) ∧ Below g w wr) (fun ti _ => n - (intOf ti).toNat)
  case atStart => exact ⟨0, Nat.zero_le _, rfl, hr0, hal⟩
  case round =>
    obtain ⟨i, hi, rfl, hR, hb2⟩ := hrel
    by_cases h1 : i < n
    · have h1i : (i : Int) < (n : Int) := by omega
      obtain ⟨bb, off, rfl, c1⟩ := (HSD.out wr hb2).at_ i (by rw [hn.out]; exact h1)
      have hv := HVB.out i
      have k1 := hR.cell (i := i) (by rw [wds13_len z i (by rw [hn.out]; omega), hn.out]; exact h1)
      have k2 := hR.free i
      have HS1 : Hid (Rz12 (wr.setCell ⟨g, i, none⟩ (.int .i64 (z.getD i 0))) g (wds13 z (i + 1))) := by
        have := hR.set i (z.getD i 0)
        rw [wds13_set z i (by rw [hn.out]; exact h1)] at this
        exact this
      have HS4 : Hid (Below g w (wr.setCell ⟨g, i, none⟩ (.int .i64 (z.getD i 0)))) := hb2.trans ((Kp.set (S := fun j => j = g) rfl _).below (fun j h => by omega) (by have := hR.lt; omega))
      clear hR
      generalize (wds13 z i).getD i 0 = y at *
      generalize z.getD i 0 = v at *
      go_wp2_with fail
      go_roundw
      case rel => exact ⟨i + 1, by omega, by go_num, HS1.out, HS4.out⟩
      case measure => simp [intOf]; omega
    · have h1i : ¬ (i : Int) < (n : Int) := by omega
      obtain rfl : i = n := by omega
      rw [HWA.out] at hR
      go_wp2_with fail
      go_ret
      exact ⟨rfl, hR, hb2⟩
theorem ref13 {z : List Int} {n : Nat} (hn : z.length = n) (h24 : n ≤ 16777216) (hv : ∀ y ∈ z, 0 ≤ y ∧ y ≤ 255) : ref12 256 z = 0 := by
  unfold ref12
  rw [if_neg (by omega), hn, if_neg (by omega)]
  have h2 : vals12 256 z = true := by
    unfold vals12
    rw [List.all_eq_true]
    intro y hy
    have := hv y hy
    simp only [Bool.and_eq_true, decide_eq_true_eq]
    omega
  unfold rv12
  rw [h2]
  rfl
def SoQ13 (w : World) (z : List Int) (n : Nat) (e : Ending) (w' : World) : Prop := ∃ g A, e = .returned (.tuple #[.slice (some ⟨g, 0, none⟩) n n, .int .i64 0]) ∧ Rz12 w' g (nz12 A) ∧ w.heap.size ≤ g ∧ Ar12 n (S12 z) A ∧ Below w.heap.size w w'
set_option maxRecDepth 100000 in
set_option maxHeartbeats 2000000 in
theorem psort13 (a : Option Addr) (z : List Int) (n cap : Nat) (w : World) (hs : Seg w a z) (hn : Hid (z.length = n)) (hb : n ≤ 16777216) :
    Calls Tryz.prog 50 #[.slice a n cap] w (SoQ13 w z n) := by
  have HN := pnum13 a z n cap w hs hn (by omega)
  have hv := seg_bd13 hs
  have HA : Hid (∀ w1 g, Rz12 w1 g z → Calls Tryz.prog 82 #[.int .i64 256, .slice (some ⟨g, 0, none⟩) n n] w1 (ArrQ12 w1 z n)) := fun w1 g R => parr12 256 (some ⟨g, 0, none⟩) z n n w1 (R.seg (bd13 hv)) hn (by omega) (ref13 hn.out hb hv)
  have h24 : ¬ (16777216 : Int) < (n : Int) := by omega
  clear hv hs
  go_enter Tryz.func50, Tryz.ntmps50
  go_wp2_with (first
    | (go_at_call 83; refine HN.mono ?_; rintro e1 w1 ⟨rfl, R1, B1⟩)
    | (go_at_call 82; refine (HA.out w1 _ R1).mono ?_; rintro e2 w2 ⟨g, A, rfl, RA, hg, hA, B2⟩))
  refine bodyPost_ret (results_tmp2 rfl _ _ _) rfl ?_
  exact ⟨g, A, rfl, RA, Nat.le_trans B1.size hg, hA, B1.trans (B2.mono B1.size)⟩
end Go.Proofs.YtmfpdchfofffeaaGreatDoor
