import Derived.Test.YtbgnlbgoeogbaaaPat
import Derived.Test.YtbgnlbgoeogbaaaPaq
import Derived.Laws.CopyOwn
import Derived.Laws.BitsAllLaws
import Derived.WalkKit
namespace Go.Proofs.Ytbgnlbgoeogbaaa
open Go.RowKit
set_option linter.unusedVariables false

/-! The document's wrong. -/
set_option maxRecDepth 100000 in
set_option maxHeartbeats 1000000 in
theorem rwrg12 (k : Int) (a : Option Addr) (s : List Int) (n cap : Nat) (w : World) (hs : SegZ w a s) (hn : Hid (s.length = n)) (hb : n ≤ 9223372036854775807) (hk : -9223372036854775808 ≤ k ∧ k ≤ 9223372036854775807) :
    Calls Try.prog 32 #[.int .i64 k, .slice a n cap] w fun e w' => e = .returned (.int .i64 (ref12 k s)) ∧ Below w.heap.size w w' := by
  have HR : Hid (ref12 k s = if k < 0 ∨ 33554432 < k then 1 else if 16777216 < n then 120 else rv12 k s) := by show _ = _; unfold ref12; rw [hn.out]
  rw [HR.out]
  by_cases k1 : k < 0
  · rw [if_pos (Or.inl k1)]
    go_enter Try.func32, Try.ntmps32
    go_wp2
    go_ret
    exact ⟨rfl, Below.refl _ _⟩
  by_cases k2 : 33554432 < k
  · rw [if_pos (Or.inr k2)]
    go_enter Try.func32, Try.ntmps32
    go_wp2
    go_ret
    exact ⟨rfl, Below.refl _ _⟩
  rw [if_neg (by omega)]
  by_cases k3 : 16777216 < n
  · rw [if_pos k3]
    have k3i : (16777216 : Int) < (n : Int) := by omega
    go_enter Try.func32, Try.ntmps32
    go_wp2
    go_ret
    exact ⟨rfl, Below.refl _ _⟩
  rw [if_neg k3]
  have k3i : ¬ (16777216 : Int) < (n : Int) := by omega
  go_enter Try.func32, Try.ntmps32
  go_wp2
  go_loopw [5] (fun ti wr => ∃ i : Nat, i ≤ n ∧ ti = .int .i64 i ∧ Hid (vals12 k (s.take i) = true) ∧ Below w.heap.size w wr) (fun ti _ => n - (intOf ti).toNat)
  case atStart => exact ⟨0, Nat.zero_le _, rfl, (by simp [vals12] : _ = _), Below.refl _ _⟩
  case round =>
    obtain ⟨i, hi, rfl, HV, hb2⟩ := hrel
    by_cases h1 : i < n
    · have h1i : (i : Int) < (n : Int) := by omega
      have hs2 := hs.old hb2
      obtain ⟨b, off, rfl, c1⟩ := hs2.at_ i (by rw [hn.out]; exact h1)
      have bd := hs2.bd i
      have HS : Hid (vals12 k (s.take (i + 1)) = (vals12 k (s.take i) && (decide (0 ≤ s.getD i 0) && decide (s.getD i 0 < k)))) := vals12_take k s i (by rw [hn.out]; exact h1)
      have HN : Hid (¬ (0 ≤ s.getD i 0 ∧ s.getD i 0 < k) → vals12 k s = false) := vals12_no (by rw [hn.out]; exact h1)
      clear hs2
      generalize s.getD i 0 = v at *
      by_cases v1 : v < 0
      · go_wp2
        go_ret
        exact ⟨by unfold rv12; rw [HN.out (by omega)]; rfl, hb2⟩
      · by_cases v2 : k ≤ v
        · go_wp2
          go_ret
          exact ⟨by unfold rv12; rw [HN.out (by omega)]; rfl, hb2⟩
        · have v3 : 0 ≤ v := by omega
          have v4 : v < k := by omega
          go_wp2
          go_roundw
          case rel => exact ⟨i + 1, by omega, by go_num, (by rw [HS.out, HV.out]; simp; omega : _ = _), hb2⟩
          case measure => simp [intOf]; omega
    · have h1i : ¬ (i : Int) < (n : Int) := by omega
      go_wp2
      go_ret
      refine ⟨?_, hb2⟩
      have e : s.take i = s := List.take_of_length_le (by rw [hn.out]; omega)
      have := HV.out
      rw [e] at this
      unfold rv12
      rw [this]; rfl
end Go.Proofs.Ytbgnlbgoeogbaaa

namespace Go.Proofs.Ytbgnlbgoeogbaaa
open Go.RowKit
set_option linter.unusedVariables false

/-! The law's own: two rows that are alike, each in memory of its own. -/
set_option maxRecDepth 100000 in
set_option maxHeartbeats 2000000 in
theorem pownK12 (base : Nat) (ra ba wa : Option Addr) (xs : List Int) (n rc bc wc : Nat) (w : World) (hbs : base ≤ w.heap.size) (hn : Hid (xs.length = n)) (hl : n * 8 ≤ 140737488351232) (ho : w.ownsRow base 3 1 (.slice ra n rc) n (xs.map (Value.int .i64))) (hv : ∀ z ∈ xs, -9223372036854775808 ≤ z ∧ z ≤ 9223372036854775807) (hb : SegZ w ba xs) (hw : SegZ w wa xs)
    (nb : ∀ x off, ba = some ⟨x, off, none⟩ → 0 < xs.length → (Value.slice ra n rc).ownBlock ≠ some x) (nw : ∀ x off, wa = some ⟨x, off, none⟩ → 0 < xs.length → (Value.slice ra n rc).ownBlock ≠ some x) :
    Calls Try.prog 13 #[.slice ra n rc, .slice ba n bc, .slice wa n wc] w fun e w' => e = .returned (.bool true) ∧ Kp (fun k => (Value.slice ra n rc).ownBlock = some k) w w' := by
  obtain ⟨i0, hi, hz0, hz1, hz2⟩ := info_parts info_i12
  have HS1 : Calls Try.prog 14 #[.slice ra n rc, .slice wa n wc] w fun e w' => e = .returned (.bool true) ∧ Below w.heap.size w w' := by
    have := same12 ra wa xs xs rc wc w (own_segZ ho hv) hw (by rw [hn.out]; omega) (by rw [hn.out]; omega)
    rw [hn.out] at this
    exact this.mono (fun e w' ⟨he, hB⟩ => ⟨by rw [he]; simp, hB⟩)
  have HS2 : Hid (∀ w1, Kp (fun k => (Value.slice ra n rc).ownBlock = some k) w w1 → Calls Try.prog 14 #[.slice ba n bc, .slice wa n wc] w1 fun e w' => e = .returned (.bool true) ∧ Below w1.heap.size w1 w') := fun w1 k => by
    have := same12 ba wa xs xs bc wc w1 (hb.kp k nb) (hw.kp k nw) (by rw [hn.out]; omega) (by rw [hn.out]; omega)
    rw [hn.out] at this
    exact this.mono (fun e w' ⟨he, hB⟩ => ⟨by rw [he]; simp, hB⟩)
  have HOB : Hid (∀ k, (Value.slice ra n rc).ownBlock = some k → base ≤ k) := fun k hk => (ho.lt k hk).1
  clear hb hw nb nw hv
  go_enter Try.func13, Try.ntmps13
  go_wp2_with (first
    | (go_at_call 14; refine HS1.mono ?_; rintro e1 w1 ⟨rfl, B1⟩; clear HS1)
    | (go_at_call 14; refine (HS2.out w1 (Kp.of_below B1)).mono ?_; rintro e2 w2 ⟨rfl, B2⟩))
  have o2 : w2.ownsRow base 3 1 (.slice ra n rc) n (xs.map (Value.int .i64)) := own_below (own_below ho B1) B2
  have K2 : Kp (fun k => (Value.slice ra n rc).ownBlock = some k) w w2 := Kp.of_below (B1.trans (B2.mono B1.size))
  clear ho B1 B2
  go_loopw [7] (fun ti wr => ∃ (k : Nat) (L : List Int), k ≤ n ∧ ti = .int .i64 k ∧ L.length = n ∧ wr.ownsRow base 3 1 (.slice ra n rc) n (L.map (Value.int .i64)) ∧ Kp (fun k => (Value.slice ra n rc).ownBlock = some k) w wr) (fun ti _ => n - (intOf ti).toNat)
  case atStart => exact ⟨0, xs, Nat.zero_le _, rfl, hn.out, o2, K2⟩
  case round =>
    obtain ⟨k, L, hk, rfl, hL, oL, KL⟩ := hrel
    by_cases h1 : k < n
    · have h1i : (k : Int) < (n : Int) := by omega
      obtain ⟨g, cap', hsh, _, _, _⟩ := own_shape oL (by omega)
      simp only [Value.slice.injEq] at hsh
      obtain ⟨rfl, _, rfl⟩ := hsh
      have c1 := oL.cells (g := g) rfl k (.int .i64 (L.getD k 0)) (by simp [List.getD, hL, h1])
      have hadd : (⟨g, 0, none⟩ : Addr).add k = ⟨g, k, none⟩ := by unfold Addr.add; split <;> simp_all
      rw [hadd] at c1
      have fz : wr.frozen? ⟨g, k, none⟩ = false := by
        rcases oL.2 with ⟨h5, _⟩ | ⟨g', cap'', cur, hv', _, hh, _⟩
        · cases h5
        · simp only [Value.slice.injEq, Option.some.injEq, Addr.mk.injEq] at hv'
          obtain ⟨⟨rfl, _⟩, _⟩ := hv'
          simp [World.frozen?, hh]
      have HST := oL.stored k (.int .i64 81)
      rw [← List.map_set] at HST
      have HS : Hid _ := HST.1
      have HG : Hid _ := HST.2
      generalize L.getD k 0 = y at c1
      clear oL HST
      go_wp2_with fail
      go_roundw
      case rel => exact ⟨k + 1, L.set k 81, by omega, by go_num, by rw [List.length_set]; exact hL, HS.out, KL.trans (Kp.grown HG.out (fun i e => e)) (fun _ _ e => e)⟩
      case measure => simp [intOf]; omega
    · have h1i : ¬ (k : Int) < (n : Int) := by omega
      go_wp2_with fail
      go_loopw [0, 8] (fun ta ti wr => ∃ (k m c : Nat) (r : Option Addr) (L : List Int), k ≤ 40 ∧ ti = .int .i64 k ∧ ta = .slice r m c ∧ Hid (m = n + k) ∧ L.length = m ∧ wr.ownsRow base 3 1 (.slice r m c) m (L.map (Value.int .i64)) ∧ Kp (fun k => (Value.slice ra n rc).ownBlock = some k) w wr ∧ Hid (∀ q, (Value.slice r m c).ownBlock = some q → q < w.heap.size → (Value.slice ra n rc).ownBlock = some q)) (fun _ ti _ => 40 - (intOf ti).toNat)
      case atStart => exact ⟨0, n, rc, ra, L, by omega, rfl, rfl, (rfl : _ = _), hL, oL, KL, (fun q hq _ => hq : ∀ q, _ → _ → _)⟩
      case round =>
        obtain ⟨k2, m, c, r, L2, hk2, rfl, rfl, hm, hL2, o3, K3, HO3⟩ := hrel
        have hsz : base ≤ wr.heap.size := Nat.le_trans hbs K3.size
        by_cases h2 : k2 < 40
        · have h2i : (k2 : Int) < 40 := by omega
          have hmb : m ≤ 17592186044000 := by have := hm.out; omega
          go_wp2_with (first
            | (at_builtin; refine wpList_ap12 rfl (.tmp 32) (.tmp 33) 22 rfl base 3 i0 (.int .i64 0) 8 Try.underlying22 hi hz0 hz1 hz2 rfl wr _ o3 rfl rfl (by omega) (by omega) hsz ?_; intro ga gc w3 own3 hk3 hat3))
          have HN : Hid (∀ q, (Value.slice (some ⟨ga, 0, none⟩) (m + 1) gc).ownBlock = some q → q < w.heap.size → (Value.slice ra n rc).ownBlock = some q) := by
            intro q hq hlt
            have hq2 : ga = q := by simpa [Value.ownBlock] using hq
            subst hq2
            rcases hat3 with h3 | h3
            · exact HO3.out ga h3 hlt
            · have := K3.size; omega
          have K4 := K3.trans hk3 (fun i hi e => HO3.out i e hi)
          clear hk3 hat3 HO3 o3
          go_roundw
          case rel => exact ⟨k2 + 1, m + 1, gc, some ⟨ga, 0, none⟩, L2 ++ [82], by omega, by go_num, rfl, (by have := hm.out; omega : _ = _), by simp [hL2], own3, K4, HN.out⟩
          case measure => simp [intOf]; omega
        · have h2i : ¬ (k2 : Int) < 40 := by omega
          obtain rfl : k2 = 40 := by omega
          have hm9 := hm.out
          subst hm9
          go_wp2_with (first
            | (go_at_call 14; refine (HS2.out wr K3).mono ?_; rintro e4 w4 ⟨rfl, B4⟩))
          go_ret
          exact ⟨rfl, K3.trans (Kp.of_below (S := fun k => (Value.slice ra n rc).ownBlock = some k) B4) (fun _ _ e => e)⟩
theorem pown12 (base : Nat) (ra ba wa : Option Addr) (xs : List Int) (n rc bc wc : Nat) (w : World) (hbs : base ≤ w.heap.size) (hn : Hid (xs.length = n)) (hl : n * 8 ≤ 140737488351232) (ho : w.ownsRow base 3 1 (.slice ra n rc) n (xs.map (Value.int .i64))) (hv : ∀ z ∈ xs, -9223372036854775808 ≤ z ∧ z ≤ 9223372036854775807) (hb : SegZ w ba xs) (hw : SegZ w wa xs)
    (nb : ∀ x off, ba = some ⟨x, off, none⟩ → 0 < xs.length → (Value.slice ra n rc).ownBlock ≠ some x) (nw : ∀ x off, wa = some ⟨x, off, none⟩ → 0 < xs.length → (Value.slice ra n rc).ownBlock ≠ some x) :
    Calls Try.prog 13 #[.slice ra n rc, .slice ba n bc, .slice wa n wc] w fun e w' => e = .returned (.bool true) ∧ Below base w w' :=
  (pownK12 base ra ba wa xs n rc bc wc w hbs hn hl ho hv hb hw nb nw).mono fun e w' ⟨he, hk⟩ => ⟨he, hk.below (fun k hk => (ho.lt k hk).1) hbs⟩
end Go.Proofs.Ytbgnlbgoeogbaaa

namespace Go.Proofs.Ytbgnlbgoeogbaaa
open Go.RowKit
set_option linter.unusedVariables false

/-! The landed Buckets, where it may be. -/
theorem size_b12 : (Try.prog.info? 3).map (·.size) = some 1 := by kernel_rfl
def fr12 (K : Nat) (s : List Int) : List Int := (List.range K).map (fun u : Nat => ((cnt12 s (u : Int) : Nat) : Int))
def to12 (K : Nat) (s : List Int) : List Int := (List.range K).map (fun u : Nat => ((cnt12 s ((u : Int) + 1) : Nat) : Int))
theorem fr12_len (K : Nat) (s : List Int) : (fr12 K s).length = K := by simp [fr12]
theorem to12_len (K : Nat) (s : List Int) : (to12 K s).length = K := by simp [to12]
theorem fr12_get {K : Nat} {s : List Int} {u : Nat} (h : u < K) : (fr12 K s).getD u 0 = ((cnt12 s (u : Int) : Nat) : Int) := by simp [fr12, List.getD, h]
theorem to12_get {K : Nat} {s : List Int} {u : Nat} (h : u < K) : (to12 K s).getD u 0 = ((cnt12 s ((u : Int) + 1) : Nat) : Int) := by simp [to12, List.getD, h]
theorem bnd12_take (K : Nat) (s : List Int) : (bnd12 K s).take K = fr12 K s := by
  refine ext12 (d := 0) (by simp [bnd12, fr12]) fun i hi => ?_
  have hk : i < K := by simp [bnd12] at hi; omega
  rw [fr12_get hk]
  simp [bnd12, List.getD, hk]
theorem bnd12_drop (K : Nat) (s : List Int) : (bnd12 K s).drop 1 = to12 K s := by
  refine List.ext_getElem (by simp [bnd12, to12]) fun i h1 h2 => ?_
  simp only [bnd12, to12, List.getElem_drop, List.getElem_map, List.getElem_range]
  rw [show ((1 + i : Nat) : Int) = (i : Int) + 1 by omega]
theorem fr12_bd {K : Nat} {s : List Int} (h : s.length ≤ 16777216) : ∀ z ∈ fr12 K s, -9223372036854775808 ≤ z ∧ z ≤ 9223372036854775807 := by
  intro z hz
  unfold fr12 at hz
  rw [List.mem_map] at hz
  obtain ⟨u, _, rfl⟩ := hz
  have := cnt12_le s (u : Int)
  omega
theorem to12_bd {K : Nat} {s : List Int} (h : s.length ≤ 16777216) : ∀ z ∈ to12 K s, -9223372036854775808 ≤ z ∧ z ≤ 9223372036854775807 := by
  intro z hz
  unfold to12 at hz
  rw [List.mem_map] at hz
  obtain ⟨u, _, rfl⟩ := hz
  have := cnt12_le s ((u : Int) + 1)
  omega
theorem bnd13_bd {K : Nat} {s : List Int} (h : s.length ≤ 16777216) : ∀ z ∈ bnd12 K s, -9223372036854775808 ≤ z ∧ z ≤ 9223372036854775807 := by
  intro z hz
  unfold bnd12 at hz
  rw [List.mem_map] at hz
  obtain ⟨u, _, rfl⟩ := hz
  have := cnt12_le s (u : Int)
  omega
/-- A made row, of which the first numbers are handed out. -/
theorem Rz12.own_take {w : World} {g base : Nat} {A : List Int} {n : Nat} (h : Rz12 w g A) (hb : base ≤ g) (hn : n ≤ A.length) (hl : A.length ≤ 140737488355328) : w.ownsRow base 3 1 (.slice (some ⟨g, 0, none⟩) n A.length) n ((A.take n).map (Value.int .i64)) :=
  ⟨by simp; omega, .inr ⟨g, A.length, _, rfl, hb, h.hp, hn, by unfold maxLen; omega, by simp [vi12], by simp [vi12, List.map_take]⟩⟩
def BkQ12 (w : World) (K : Nat) (s : List Int) (e : Ending) (w' : World) : Prop := ∃ gf gt, e = .returned (.tuple #[.slice (some ⟨gf, 0, none⟩) K (K + 1), .slice (some ⟨gt, 0, none⟩) K K, .int .i64 0]) ∧ Rz12 w' gf (bnd12 K s) ∧ Rz12 w' gt (to12 K s) ∧ w.heap.size ≤ gf ∧ gf < gt ∧ Below w.heap.size w w'
set_option maxRecDepth 100000 in
set_option maxHeartbeats 2000000 in
theorem pbks12 (K : Nat) (a : Option Addr) (s : List Int) (n cap : Nat) (w : World) (hs : SegZ w a s) (hn : Hid (s.length = n)) (hr : Hid (ref12 (K : Int) s = 0)) :
    Calls Try.prog 11 #[.int .i64 (K : Int), .slice a n cap] w (BkQ12 w K s) := by
  have hW := ref12_ok hn.out hr.out
  have hK : K ≤ 33554432 := by
    have := hr.out
    unfold ref12 at this
    split at this
    · omega
    · omega
  have hn24 : n ≤ 16777216 := hW.n24
  have HR := pref12 (K : Int) a s n cap w hs hn (by omega) (by omega)
  rw [hr.out] at HR
  have HB : Hid (∀ w1, Below w.heap.size w w1 → Calls Try.prog 34 #[.int .i64 (K : Int), .slice a n cap] w1 fun e w' => e = .returned (.slice (some ⟨w1.heap.size, 0, none⟩) (K + 1) (K + 1)) ∧ Rz12 w' w1.heap.size (bnd12 K s) ∧ Below w1.heap.size w1 w') := fun w1 b1 => pbnd12 K a s n cap w1 (hs.old b1) hn hn24 hK (fun i hi => by have := hW.val i hi; simpa using this)
  have HM := fun w' => run_make_i12 K (by omega) w'
  have hsl : s.length ≤ 16777216 := by rw [hn.out]; exact hn24
  have HDR : Hid ((bnd12 K s).drop 1 = to12 K s) := bnd12_drop K s
  have HTL : Hid ((to12 K s).length = K) := to12_len K s
  have HBL : Hid ((bnd12 K s).length = K + 1) := bnd12_len K s
  have HBD : Hid (∀ z ∈ bnd12 K s, -9223372036854775808 ≤ z ∧ z ≤ 9223372036854775807) := bnd13_bd hsl
  clear hs hW hr hsl
  have HCO : Hid (∀ (w2 : World) gf, Rz12 w2 gf (bnd12 K s) → (w2.alloc (.cells (vi12 (List.replicate K 0)) 3)).heap[w2.heap.size]? = some (.cells (List.replicate K (Value.int .i64 0)).toArray 3 (0, 0)) ∧ (∀ j v, ((to12 K s).map (Value.int .i64))[j]? = some v → (w2.alloc (.cells (vi12 (List.replicate K 0)) 3)).cell? ((⟨gf, 1, none⟩ : Addr).add j) = some v)) := by
    intro w2 gf R
    refine ⟨?_, fun j v hv => ?_⟩
    · have := heap_alloc_new w2 (.cells (vi12 (List.replicate K 0)) 3)
      rw [this]
      simp [vi12]
    · have hb : Below w2.heap.size w2 (w2.alloc (.cells (vi12 (List.replicate K 0)) 3)) := (Below.refl _ _).alloc (Nat.le_refl _) _
      have hj : j < K := by
        rcases Nat.lt_or_ge j K with h | h
        · exact h
        · rw [List.getElem?_eq_none (by rw [List.length_map, HTL.out]; exact h)] at hv; cases hv
      have hadd : (⟨gf, 1, none⟩ : Addr).add j = ⟨gf, 1 + j, none⟩ := by unfold Addr.add; split <;> simp_all
      rw [hadd, (R.old hb).cell (by rw [HBL.out]; omega)]
      have hj2 : j < (to12 K s).length := by rw [HTL.out]; exact hj
      rw [← hv, List.getElem?_map, ← HDR.out]
      simp only [List.getElem?_drop]
      have hj3 : 1 + j < (bnd12 K s).length := by rw [HBL.out]; omega
      simp [List.getD, hj3]
  have HSPL : Hid (∀ (L : List Value), L.length = K → splice (List.replicate K (Value.int .i64 0)) 0 L = L) := by
    intro L hL
    unfold splice
    rw [List.take_zero, List.nil_append, List.drop_eq_nil_of_le (by simp; omega), List.append_nil]
  have HFIN : Hid (∀ (W : World) gt, W.heap[gt]? = some (.cells (splice (List.replicate K (Value.int .i64 0)) 0 ((to12 K s).map (Value.int .i64))).toArray 3 (0, 0)) → Rz12 W gt (to12 K s)) := by
    intro W gt h
    rw [HSPL.out _ (by rw [List.length_map, HTL.out])] at h
    exact ⟨h⟩
  by_cases hK0 : K = 0
  · subst hK0
    have HT0 : Hid (to12 0 s = []) := rfl
    have HM0 : ∀ w' : World, (Instr.makeSlice 22 (.int .i64 0) (.int .i64 0)).run Try.prog w' = .ok (.slice (some ⟨w'.heap.size, 0, none⟩) 0 0) (w'.alloc (.cells (vi12 (List.replicate 0 0)) 3)) := fun w' => run_make_i12 0 (by omega) w'
    go_enter Try.func11, Try.ntmps11
    go_wp2_with (first
      | (go_at_call 33; refine HR.mono ?_; rintro e1 w1 ⟨rfl, B1⟩; clear HR)
      | (go_at_call 34; refine (HB.out w1 B1).mono ?_; rintro e2 w2 ⟨rfl, R2, B2⟩; clear HB)
      | (refine wpList_copy_nothing rfl (.tmp 21) (.tmp 23) 22 22 rfl 3 Try.underlying22 size_b12 _ _ 0 0 0 0 rfl rfl (by simp) ?_))
    trace_state
    refine bodyPost_ret (results_tmp3 rfl _ _ _) rfl ?_
    have S1 := B1.size
    have S2 := B2.size
    have hlt := R2.lt
    have b3 : Below w2.heap.size w2 (w2.alloc (.cells (vi12 (List.replicate 0 0)) 3)) := (Below.refl _ _).alloc (Nat.le_refl _) _
    refine ⟨w1.heap.size, w2.heap.size, rfl, R2.old b3, ?_, by omega, by omega, (B1.trans (B2.mono S1)).trans (b3.mono (by omega))⟩
    rw [HT0.out]
    exact Rz12.new w2 []
  · have k1 : (1 : Int) ≤ (K : Int) + 1 := by omega
    have k2 : ¬ K + 1 = 1 := by omega
    have k3 : ¬ K = 0 := hK0
    have k4 : (K : Int) ≤ (K : Int) + 1 := by omega
    go_enter Try.func11, Try.ntmps11
    go_wp2_with (first
      | (go_at_call 33; refine HR.mono ?_; rintro e1 w1 ⟨rfl, B1⟩; clear HR)
      | (go_at_call 34; refine (HB.out w1 B1).mono ?_; rintro e2 w2 ⟨rfl, R2, B2⟩; clear HB; have hlt := R2.lt)
      | (refine wpList_copy_splice rfl (.tmp 21) (.tmp 23) 22 22 rfl 3 Try.underlying22 size_b12 (some ⟨w2.heap.size, 0, none⟩) (some ⟨w1.heap.size, 1, none⟩) K K K K rfl rfl w2.heap.size 0 (List.replicate K (Value.int .i64 0)) 3 (HCO.out w2 _ R2).1 ((to12 K s).map (Value.int .i64)) (by rw [List.length_map, HTL.out]; simp) (fun _ => ⟨rfl, _, rfl, (HCO.out w2 _ R2).2⟩) (by rw [List.length_map, HTL.out]; simp) (ints_oneCell _ _) w2.heap.size w2 ((Below.refl _ _).alloc (Nat.le_refl _) _) (Nat.le_refl _) ?_; intro w4 H4 B4))
    refine bodyPost_ret (results_tmp3 rfl _ _ _) rfl ?_
    have S1 := B1.size
    have S2 := B2.size
    exact ⟨w1.heap.size, w2.heap.size, rfl, R2.old B4, HFIN.out w4 _ H4.out, by omega, by omega, (B1.trans (B2.mono S1)).trans (B4.mono (by omega))⟩
end Go.Proofs.Ytbgnlbgoeogbaaa

namespace Go.Proofs.Ytbgnlbgoeogbaaa
open Go.RowKit
set_option linter.unusedVariables false
set_option linter.unusedSimpArgs false

/-! Words of 32 bits; the register's move by one bit, many moves, and the way over bytes. -/
abbrev W32 := BitVec 32
def genW : W32 := 3988292384#32
def on (w : W32) : W32 := (w >>> 1) ^^^ (if w.getLsbD 0 then genW else 0#32)
def onN : Nat → W32 → W32
  | 0, w => w
  | k + 1, w => on (onN k w)

theorem bxor_left_comm (a b c : W32) : a ^^^ (b ^^^ c) = b ^^^ (a ^^^ c) := by rw [← BitVec.xor_assoc, BitVec.xor_comm a b, BitVec.xor_assoc]
theorem bxor_cancel (a b : W32) : a ^^^ (a ^^^ b) = b := by rw [← BitVec.xor_assoc, BitVec.xor_self, BitVec.zero_xor]
theorem on_xor (a b : W32) : on (a ^^^ b) = on a ^^^ on b := by
  unfold on
  rw [BitVec.ushiftRight_xor_distrib, BitVec.getLsbD_xor]
  cases a.getLsbD 0 <;> cases b.getLsbD 0 <;> simp [BitVec.xor_assoc, BitVec.xor_comm, bxor_left_comm, bxor_cancel]
theorem on_zero : on 0#32 = 0#32 := by decide
theorem onN_xor (k : Nat) (a b : W32) : onN k (a ^^^ b) = onN k a ^^^ onN k b := by
  induction k with
  | zero => rfl
  | succ k ih => simp only [onN, ih, on_xor]
theorem onN_zero (k : Nat) : onN k 0#32 = 0#32 := by
  induction k with
  | zero => rfl
  | succ k ih => simp only [onN, ih, on_zero]
theorem onN_add (a b : Nat) (w : W32) : onN (a + b) w = onN a (onN b w) := by
  induction a with
  | zero => simp [onN]
  | succ a ih => rw [Nat.succ_add]; simp only [onN, ih]
theorem onN_comm (a b : Nat) (w : W32) : onN a (onN b w) = onN b (onN a w) := by
  rw [← onN_add, ← onN_add, Nat.add_comm]

def back (w : W32) : W32 := if w.getLsbD 31 then ((w ^^^ genW) <<< 1) ||| 1#32 else w <<< 1
def backN : Nat → W32 → W32
  | 0, w => w
  | k + 1, w => back (backN k w)
theorem gen31 : genW.getLsbD 31 = true := by decide
theorem on31 (w : W32) : (on w).getLsbD 31 = w.getLsbD 0 := by
  unfold on
  cases h : w.getLsbD 0 <;> simp [-BitVec.getLsbD_eq_getElem, gen31, h]
theorem back_on (w : W32) : back (on w) = w := by
  unfold back
  rw [on31]
  unfold on
  cases h : w.getLsbD 0
  · simp only [Bool.false_eq_true, if_false, BitVec.xor_zero]
    apply BitVec.eq_of_getLsbD_eq
    intro i hi
    rcases i with _ | i
    · simp [-BitVec.getLsbD_eq_getElem, h]
    · simp [-BitVec.getLsbD_eq_getElem, hi, Nat.add_comm]
  · simp only [if_true, BitVec.xor_assoc, BitVec.xor_self, BitVec.xor_zero]
    apply BitVec.eq_of_getLsbD_eq
    intro i hi
    rcases i with _ | i
    · simp [-BitVec.getLsbD_eq_getElem, h]
    · simp [-BitVec.getLsbD_eq_getElem, hi, Nat.add_comm]
theorem on_inj {a b : W32} (h : on a = on b) : a = b := by rw [← back_on a, ← back_on b, h]
theorem onN_inj (k : Nat) {a b : W32} (h : onN k a = onN k b) : a = b := by
  induction k with
  | zero => exact h
  | succ k ih => exact ih (on_inj h)
theorem on_back (w : W32) : on (back w) = w := by
  unfold back on
  cases h : w.getLsbD 31
  · simp only [Bool.false_eq_true, if_false]
    have e0 : (w <<< 1).getLsbD 0 = false := by simp
    rw [e0]
    simp only [Bool.false_eq_true, if_false, BitVec.xor_zero]
    apply BitVec.eq_of_getLsbD_eq
    intro i hi
    by_cases e : i = 31
    · subst e; simp [-BitVec.getLsbD_eq_getElem, h]
    · have : 1 + i < 32 := by omega
      simp [-BitVec.getLsbD_eq_getElem, this, hi]
  · simp only [if_true]
    have e0 : ((w ^^^ genW) <<< 1 ||| 1#32).getLsbD 0 = true := by simp
    rw [e0]
    simp only [if_true]
    apply BitVec.eq_of_getLsbD_eq
    intro i hi
    by_cases e : i = 31
    · subst e; simp [-BitVec.getLsbD_eq_getElem, h, gen31]
    · have : 1 + i < 32 := by omega
      simp [-BitVec.getLsbD_eq_getElem, this, hi, Bool.xor_assoc]
theorem onN_backN (k : Nat) (w : W32) : onN k (backN k w) = w := by
  have key : ∀ (j k : Nat) (w : W32), onN j (back (backN k w)) = onN j (backN k (back w)) := by
    intro j k
    induction k with
    | zero => intro w; rfl
    | succ k ih =>
      intro w
      have e : ∀ k w, backN k (back w) = back (backN k w) := by
        intro k
        induction k with
        | zero => intro w; rfl
        | succ k ih => intro w; simp only [backN, ih]
      rw [e]
  induction k generalizing w with
  | zero => rfl
  | succ k ih =>
    show on (onN k (back (backN k w))) = w
    rw [key, ih, on_back]

theorem on_double (y : W32) (h : y.toNat < 2 ^ 31) : on (y <<< 1) = y := by
  unfold on
  have e0 : (y <<< 1).getLsbD 0 = false := by simp
  rw [e0]
  simp only [Bool.false_eq_true, if_false, BitVec.xor_zero]
  apply BitVec.eq_of_toNat_eq
  simp [Nat.shiftLeft_eq, Nat.shiftRight_eq_div_pow]
  omega
theorem onN_shl (k : Nat) (y : W32) (h : y.toNat < 2 ^ (32 - k)) (hk : k ≤ 32) : onN k (y <<< k) = y := by
  induction k with
  | zero => simp [onN]
  | succ k ih =>
    have e : onN (k + 1) (y <<< (k + 1)) = onN k (on (y <<< (k + 1))) := by
      rw [onN_add k 1]; rfl
    have hp : y.toNat < 2 ^ (32 - k) := Nat.lt_of_lt_of_le h (Nat.pow_le_pow_right (by decide) (by omega))
    have e2 : (y <<< k).toNat < 2 ^ 31 := by
      rw [BitVec.toNat_shiftLeft, Nat.shiftLeft_eq]
      refine Nat.lt_of_le_of_lt (Nat.mod_le _ _) ?_
      have : y.toNat * 2 ^ k < 2 ^ (32 - (k + 1)) * 2 ^ k := Nat.mul_lt_mul_of_pos_right h (Nat.pow_pos (by decide))
      rw [← Nat.pow_add] at this
      rw [show 32 - (k + 1) + k = 31 by omega] at this
      exact this
    rw [e, BitVec.shiftLeft_add, on_double _ e2, ih hp (by omega)]

/-! The table of sixteen words. -/
def halfL : List Int := [0, 498536548, 997073096, 651767980, 1994146192, 1802195444, 1303535960, 1342533948, 3988292384, 4027552580, 3604390888, 3412177804, 2607071920, 2262029012, 2685067896, 3183342108]
theorem half_split (r : W32) : r = ((r >>> 4) <<< 4) ^^^ (r &&& 15#32) := by
  apply BitVec.eq_of_getLsbD_eq
  intro i hi
  by_cases h : i < 4
  · rcases i with _ | _ | _ | _ | i <;> simp_all <;> first | (exfalso; omega) | skip
  · have e : 4 + (i - 4) = i := by omega
    have e2 : (15#32).getLsbD i = false := by
      have : ∀ j : Fin 32, 4 ≤ j.val → (15#32).getLsbD j.val = false := by decide
      exact this ⟨i, hi⟩ (Nat.le_of_not_lt h)
    simp [-BitVec.getLsbD_eq_getElem, h, hi, e, e2]
theorem half_tab : ∀ i : Fin 16, (((onN 4 (BitVec.ofNat 32 i.val)).toNat : Nat) : Int) = halfL.getD i.val 0 := by decide
theorem onN4 (r : W32) : onN 4 r = (r >>> 4) ^^^ onN 4 (r &&& 15#32) := by
  have h : (r >>> 4).toNat < 2 ^ (32 - 4) := by
    rw [BitVec.toNat_ushiftRight, Nat.shiftRight_eq_div_pow]
    have := r.isLt
    omega
  conv => lhs; rw [half_split r]
  rw [onN_xor, onN_shl 4 _ h (by decide)]
theorem and15 (r : W32) : r &&& 15#32 = BitVec.ofNat 32 (r.toNat % 16) := by
  apply BitVec.eq_of_toNat_eq
  have : r.toNat &&& 15 = r.toNat % 16 := Nat.and_two_pow_sub_one_eq_mod _ 4
  simp [this]
  omega
end Go.Proofs.Ytbgnlbgoeogbaaa
