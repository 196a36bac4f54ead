import Derived.Test.YtmjlpfmacblcpaaDoorPj
import Derived.Test.YtmjlpfmacblcpaaDoorPf
import Derived.Test.YtmjlpfmacblcpaaDoorPe
import Derived.Deep.OwnRows
import Derived.Deep.RegionHeld3
import Derived.Test.YtmjlpfmacblcpaaDoorPa
import Derived.Test.YtmjlpfmacblcpaaDoorProg
import Derived.Test.YtmjlpfmacblcpaaDoorPg
import Derived.WalkKit
import Derived.WalkSpells
import Derived.WalkLawsBesides
import Derived.Laws.BitsAllLaws
namespace Go.Proofs.YtmjlpfmacblcpaaDoor
open Go.RowKit Go.Shelf
set_option linter.unusedVariables false
set_option linter.unusedSimpArgs false
/-- The inner loop: i pages of area a are laid, their bytes in block B. -/
def Nk21 (w W : World) (b p q : Nat) (ac : Int) (sl : Array Value) (S : Fs21) (a : Nat) (g c : Nat → Nat) (A : Nat → List Pd21) (B i : Nat) (D : List Int) : Prop :=
  ∃ (ra : Option Addr) (rc : Nat) (L : List Pd21), Nd21 w W b p q ac sl S a g c A (.slice ra i rc) ∧ L.length = i ∧ W.ownsRow w.heap.size 110 3 (.slice ra i rc) i (pdl21 L) ∧ (∀ y d, L[y]? = some d → Pk21 w.heap.size W S a y d) ∧ (∀ x k, x < a → (Value.slice ra i rc).ownBlock = some k → k ≠ g x) ∧ W.heap[B]? = some (.cells (D.map (Value.int .u8)).toArray 5 (0, 0)) ∧ w.heap.size ≤ B
set_option maxRecDepth 100000 in
set_option maxHeartbeats 32000000 in
theorem rnew21 {w : World} (p q : Nat) (ac : Int) (hp : 64 ≤ p ∧ p ≤ 4096) (hq : 1 ≤ q ∧ q ≤ 4096) (hac : ac = 0 ∨ ac = 1) (a0 a1 : Option Addr) (L0 L1 : List Int) (n0 n1 k0 k1 : Nat) (s0 : Seg w a0 L0) (s1 : Seg w a1 L1) (e0 : Hid (L0.length = n0)) (e1 : Hid (L1.length = n1)) (z0 : n0 ≤ p * q) (z1 : n1 ≤ p * q) :
    Calls Tryd.prog 18 #[.int .i64 (p : Int), .int .i64 (q : Int), .int .i64 ac, .agg #[.slice a0 n0 k0, .slice a1 n1 k1]] w fun e w' => ∃ b G, e = .returned (.tuple #[.pointer (some ⟨b, 0, none⟩), .int .i64 0]) ∧ Rl21d w' b G (nw21 p q ac L0 L1) ∧ (∀ k, G k → w.heap.size ≤ k) ∧ Below w.heap.size w w' := by
  obtain ⟨PQ, hPQ⟩ : ∃ PQ, PQ = p * q := ⟨_, rfl⟩
  have hpq : PQ ≤ 16777216 := by rw [hPQ]; exact Nat.mul_le_mul hp.2 hq.2
  rw [← hPQ] at z0 z1
  have hmul : IntKind.i64.wrap ((p : Int) * (q : Int)) = (PQ : Int) := by
    have e : (p : Int) * (q : Int) = (PQ : Int) := by rw [hPQ]; exact (Int.natCast_mul _ _).symm
    rw [e, IntWalk.i64_in _ (by omega)]
  obtain ⟨S, hS⟩ : ∃ S, S = nw21 p q ac L0 L1 := ⟨_, rfl⟩
  rw [← hS]
  obtain ⟨sl, hsl⟩ : ∃ sl : Array Value, sl = #[.slice a0 n0 k0, .slice a1 n1 k1] := ⟨_, rfl⟩
  obtain ⟨gs, hgs⟩ : ∃ gs, gs = w.heap.size := ⟨_, rfl⟩
  have HG : Hid (w.heap.size = gs) := hgs.symm
  obtain ⟨w2, hw2⟩ : ∃ w2, w2 = (w.alloc (.cells #[.slice a0 n0 k0, .slice a1 n1 k1] 46)).alloc (.cells #[.int .i64 (p : Int), .int .i64 (q : Int), .int .i64 ac, .slice none 0 0, .slice none 0 0, .slice none 0 0, .slice none 0 0, .bool false, .int .i64 0, .slice none 0 0, .int .i64 0] 107) := ⟨_, rfl⟩
  have HW2 : Hid ((w.alloc (.cells #[.slice a0 n0 k0, .slice a1 n1 k1] 46)).alloc (.cells #[.int .i64 (p : Int), .int .i64 (q : Int), .int .i64 ac, .slice none 0 0, .slice none 0 0, .slice none 0 0, .slice none 0 0, .bool false, .int .i64 0, .slice none 0 0, .int .i64 0] 107) = w2) := hw2.symm
  have b2 : Below w.heap.size w w2 := by rw [hw2]; exact ((Below.refl _ _).alloc (Nat.le_refl _) _).alloc (by simp) _
  have HN0 : Hid (Nd21 w w2 (gs + 1) p q ac sl S 0 (fun _ => 0) (fun _ => 0) (fun _ => []) (.slice none 0 0)) := by
    refine ⟨b2, ?_, ?_, fun x hx => by omega, fun x y hx => by omega, by omega⟩
    · rw [hw2, heap_alloc_old _ _ (by simp), hsl]; exact heap_alloc_new _ _
    · rw [hw2, hgs]; simpa using heap_alloc2_new w (.cells #[.slice a0 n0 k0, .slice a1 n1 k1] 46) (.cells #[.int .i64 (p : Int), .int .i64 (q : Int), .int .i64 ac, .slice none 0 0, .slice none 0 0, .slice none 0 0, .slice none 0 0, .bool false, .int .i64 0, .slice none 0 0, .int .i64 0] 107)
  have HSL : Hid (∀ a : Nat, a < 2 → ∃ (aa : Option Addr) (n k : Nat) (L : List Int), (∀ W : World, W.heap[gs]? = some (.cells sl 46 (0, 0)) → W.cell? ⟨gs, a, none⟩ = some (.slice aa n k)) ∧ Seg w aa L ∧ L.length = n ∧ n ≤ PQ ∧ L = Ls21 L0 L1 (a : Int)) := fun a ha => by
    rcases (show a = 0 ∨ a = 1 by omega) with rfl | rfl
    · exact ⟨a0, n0, k0, L0, fun W h => by rw [hsl] at h; exact two_cell0 h, s0, e0.out, z0, rfl⟩
    · exact ⟨a1, n1, k1, L1, fun W h => by rw [hsl] at h; exact two_cell1 h, s1, e1.out, z1, rfl⟩
  have c0 : (w.alloc (.cells #[.slice a0 n0 k0, .slice a1 n1 k1] 46)).cell? ⟨gs, 0, none⟩ = some (.slice a0 n0 k0) := by rw [hgs]; exact two_cell0 (heap_alloc_new w _)
  have c1 : (w.alloc (.cells #[.slice a0 n0 k0, .slice a1 n1 k1] 46)).cell? ⟨gs, 1, none⟩ = some (.slice a1 n1 k1) := by rw [hgs]; exact two_cell1 (heap_alloc_new w _)
  have i1 : ¬ (p : Int) < 64 := by omega
  have i2 : ¬ (4096 : Int) < (p : Int) := by omega
  have i3 : ¬ (q : Int) < 1 := by omega
  have i4 : ¬ (4096 : Int) < (q : Int) := by omega
  have i5 : ¬ ac < 0 := by omega
  have i6 : ¬ (1 : Int) < ac := by omega
  have i7 : ¬ (PQ : Int) < (n0 : Int) := by omega
  have i8 : ¬ (PQ : Int) < (n1 : Int) := by omega
  have HPP : Hid (PQ = p * q ∧ PQ ≤ 16777216 ∧ S = nw21 p q ac L0 L1 ∧ 64 ≤ p ∧ p ≤ 4096 ∧ 1 ≤ q ∧ q ≤ 4096 ∧ (ac = 0 ∨ ac = 1)) := ⟨hPQ, hpq, hS, hp.1, hp.2, hq.1, hq.2, hac⟩
  have HSPS : Hid (S.ps = q ∧ S.pg = p) := by rw [hS]; exact ⟨rfl, rfl⟩
  clear hPQ hS hsl hgs hw2 b2 s0 s1 hac e0 e1
  go_enter Tryd.func18, Tryd.ntmps18
  go_upto_region 4 with fail
  rw [HG.out, HW2.out]
  clear c0 c1 i1 i2 i3 i4 i5 i6 i7 i8 z0 z1
  go_wp2_with fail
  go_loopw [11] (fun ti wr => ∃ (a : Nat), a ≤ 2 ∧ ti = .int .i64 (a : Int) ∧ ∃ (g c : Nat → Nat) (A : Nat → List Pd21), Nd21 w wr (gs + 1) p q ac sl S a g c A (.slice none 0 0)) (fun ti _ => 2 - (intOf ti).toNat)
  case atStart => exact ⟨0, by omega, rfl, _, _, _, HN0.out⟩
  case round =>
    obtain ⟨a, ha2, rfl, g, c, A, hN⟩ := hrel
    by_cases ha : a < 2
    · have hai : (a : Int) < 2 := by omega
      obtain ⟨aa, n, k, L, hcel, hseg, hln, hnP, hLL⟩ := HSL.out a ha
      have hBK := rblk21 PQ hpq wr
      have HN : Hid (Nd21 w wr (gs + 1) p q ac sl S a g c A (.slice none 0 0)) := hN
      have HLN : Hid (L.length = n) := hln
      have HLL : Hid (L = Ls21 L0 L1 (a : Int)) := hLL
      have HSG : Hid (Seg w aa L) := hseg
      have HCEL : Hid (∀ W : World, W.heap[gs]? = some (.cells sl 46 (0, 0)) → W.cell? ⟨gs, a, none⟩ = some (.slice aa n k)) := hcel
      have HNM : Hid (n = Nat.min n PQ) := by show n = min n PQ; omega
      have HFT : Hid (0 + n ≤ (List.replicate PQ (255 : Int)).length) := by show _ ≤ _; simp; omega
      clear hN hln hLL hseg hcel
      go_wp2_with fail
      refine hBK.mono ?_
      rintro e w3 ⟨rfl, hh3, hb3⟩
      obtain ⟨B, hB⟩ : ∃ B, B = wr.heap.size := ⟨_, rfl⟩
      have HB : Hid (wr.heap.size = B) := hB.symm
      have hN3 := HN.out.old hb3
      have cs := HCEL.out w3 (by have := hN3.gs; rw [HG.out] at this; exact this)
      have HH3 : Hid (w3.heap[B]? = some (.cells ((List.replicate PQ (255 : Int)).map (Value.int .u8)).toArray 5 (0, 0))) := by show _ = _; rw [hB]; exact hh3
      have HN3 : Hid (Nd21 w w3 (gs + 1) p q ac sl S a g c A (.slice none 0 0)) := hN3
      have HSG3 : Hid (Seg w3 aa L) := HSG.out.old hN3.bl
      have HBB : Hid (B = wr.heap.size ∧ Below wr.heap.size wr w3) := ⟨hB, hb3⟩
      rw [HB.out]
      clear hBK hh3 hb3 hN3 hB
      go_upto_region 9 with (first
        | (refine wpList_copy21 rfl (.tmp 67) (.tmp 70) 22 22 rfl 5 Tryd.underlying22 size_y21 rfl rfl B 0 (List.replicate PQ 255) 5 HH3.out L n HLN.out HNM.out (fun _ => ⟨rfl, HSG3.out⟩) HFT.out ?_; intro w4 h4 k4))
      obtain ⟨D, hD⟩ : ∃ D, D = sp21 (List.replicate PQ (255 : Int)) 0 L := ⟨_, rfl⟩
      have HD : Hid (D = sp21 (List.replicate PQ (255 : Int)) 0 L) := hD
      have HK0 : Hid (Nk21 w w4 (gs + 1) p q ac sl S a g c A B 0 D) := by
        obtain ⟨hBe, hBb⟩ := HBB.out
        have hN := HN.out
        have hwr := hN.bl.size
        have hb4 : Below wr.heap.size wr w4 := hBb.trans (k4.below (fun i e => by omega) hBb.size)
        refine ⟨none, 0, [], hN.old hb4, rfl, World.ownsRow_nil _ _ _ _, fun y d e => by simp at e, fun x k hx e => by simp [Value.ownBlock] at e, ?_, by omega⟩
        rw [hD]; exact h4.out
      clear h4 k4 hD
      go_wp2_with fail
      go_loopw [13] (fun tj wq => ∃ (i : Nat), i ≤ q ∧ tj = .int .i64 (i : Int) ∧ Nk21 w wq (gs + 1) p q ac sl S a g c A B i D) (fun tj _ => q - (intOf tj).toNat)
      case atStart => exact ⟨0, by omega, rfl, HK0.out⟩
      case round =>
        obtain ⟨i, hiq, rfl, hK⟩ := hrel
        by_cases hi : i < q
        · have hii : (i : Int) < (q : Int) := by omega
          obtain ⟨ra, rc, LL, hNd, hLl, hown, hpk, hne, hBh, hBw⟩ := hK
          obtain ⟨IP, hIP⟩ : ∃ IP, IP = i * p := ⟨_, rfl⟩
          obtain ⟨JP, hJP⟩ : ∃ JP, JP = (i + 1) * p := ⟨_, rfl⟩
          have hJI : JP = IP + p := by rw [hJP, hIP, Nat.succ_mul]
          have hJPQ : JP ≤ PQ := by rw [hJP, HPP.out.1, Nat.mul_comm p q]; exact Nat.mul_le_mul_right p hi
          have hm1 : IntKind.i64.wrap ((i : Int) * (p : Int)) = (IP : Int) := by
            have e : (i : Int) * (p : Int) = (IP : Int) := by rw [hIP]; exact (Int.natCast_mul _ _).symm
            rw [e, IntWalk.i64_in _ (by omega)]
          have hiw : IntKind.i64.wrap ((i : Int) + 1) = ((i + 1 : Nat) : Int) := by rw [IntWalk.i64_in _ (by omega)]; omega
          have hm2 : IntKind.i64.wrap (((i + 1 : Nat) : Int) * (p : Int)) = (JP : Int) := by
            have e : ((i + 1 : Nat) : Int) * (p : Int) = (JP : Int) := by rw [hJP]; exact (Int.natCast_mul _ _).symm
            rw [e, IntWalk.i64_in _ (by omega)]
          have hm2' : IntKind.i64.wrap (((i : Int) + 1) * (p : Int)) = (JP : Int) := by rw [← hm2]; congr 2
          have l1 : (IP : Int) ≤ (JP : Int) := by omega
          have ha3 : (a : Int) < 3 := by omega
          have l2 : (JP : Int) ≤ (PQ : Int) := by omega
          have l3 : ¬ PQ = IP := by have := HPP.out; omega
          have hDl : D.length = PQ := by rw [HD.out, sp21_len _ _ _ (by simp; have := HLN.out; omega)]; simp
          have hDm : ∀ z ∈ D, 0 ≤ z ∧ z ≤ 255 := fun z hz => by
            rw [HD.out, sp21_rep0] at hz
            rcases List.mem_append.1 hz with e | e
            · exact HSG.out.mem z e
            · rw [(List.mem_replicate.1 e).2]; decide
          have hch : ((D.drop IP).take p).length = JP - IP := by simp; omega
          obtain ⟨r, cap, w5, hrun, hown5, hk5, hr5⟩ := run_pg21 w.heap.size wr.drew (by have := hNd.bl.size; exact this) ra i rc LL hLl ⟨B, IP, PQ - IP, (D.drop IP).take p, false, 0⟩ (JP - IP) hch (by exact ⟨hown.1, hown.2⟩) (by omega) 103
          have HAPP : Hid ((Builtin.append_ #[103, 103] 103 #[.slice ra i rc, .slice (some ⟨wr.heap.size, 0, none⟩) 1 1]).run Tryd.prog (wr.drew.alloc (.cells #[.slice (some ⟨B, IP, none⟩) (JP - IP) (PQ - IP), .bool false, .int .i64 0] 110)) = .ok (.slice (some ⟨r, 0, none⟩) (i + 1) cap) w5) := hrun
          have hlt := hNd.lt
          have d3 : wr.cell? ⟨gs + 1, 3 + a, none⟩ = some (.slice ra i rc) := hNd.cel ha
          have hca : ∀ o, (wr.alloc o).cell? ⟨gs + 1, 3 + a, none⟩ = some (.slice ra i rc) := fun o => (((Below.refl wr.heap.size wr).alloc (Nat.le_refl _) o).cell (p := ⟨gs + 1, 3 + a, none⟩) hlt).trans d3
          have hrb : ∀ k, (Value.slice ra i rc).ownBlock = some k → w.heap.size ≤ k ∧ k ≠ gs + 1 ∧ (∀ cur : Array Value, wr.heap[k]? ≠ some (Obj.cells cur 5 (0, 0))) ∧ (∀ cur : Array Value, wr.heap[k]? ≠ some (Obj.cells cur 46 (0, 0))) := fun k e => by
            rcases hown.2 with ⟨h1, h2⟩ | ⟨q', cp, cu, h1, h2, h3, h4⟩
            · rw [h1] at e; cases e
            · rw [h1] at e
              simp [Value.ownBlock] at e
              subst e
              refine ⟨h2, fun e => ?_, fun cur e => ?_, fun cur e => ?_⟩
              · have := hNd.hp; rw [← e, h3] at this; injection this with e; injection e with _ e _; exact absurd e (by decide)
              · rw [h3] at e; injection e with e; injection e with _ e _; exact absurd e (by decide)
              · rw [h3] at e; injection e with e; injection e with _ e _; exact absurd e (by decide)
          have hk5' : Kp (fun j => (Value.slice ra i rc).ownBlock = some j) wr w5 := ⟨hk5.os, hk5.tape, hk5.output, hk5.size, hk5.block⟩
          have hb5 : w5.heap[gs + 1]? = wr.heap[gs + 1]? := hk5'.block _ hlt (fun e => (hrb _ e).2.1 rfl)
          have x3 : w5.cell? ⟨gs + 1, 3 + a, none⟩ = some (.slice ra i rc) := (World.cell?_of_block (a := ⟨gs + 1, 3 + a, none⟩) hb5).trans d3
          have f3 : w5.frozen? ⟨gs + 1, 3 + a, none⟩ = false := (World.frozen?_of_block (a := ⟨gs + 1, 3 + a, none⟩) hb5).trans (hNd.fr _)
          have HNX : Hid (Nk21 w (w5.setCell ⟨gs + 1, 3 + a, none⟩ (.slice (some ⟨r, 0, none⟩) (i + 1) cap)) (gs + 1) p q ac sl S a g c A B (i + 1) D) := by
            have hnd := hNd.put ha hk5' (fun k e => ⟨(hrb k e).1, fun x hx => hne x k hx e, (hrb k e).2.1, (hrb k e).2.2.1, (hrb k e).2.2.2⟩) (.slice (some ⟨r, 0, none⟩) (i + 1) cap)
            have hks : Kp (fun k => k = gs + 1) w5 (w5.setCell ⟨gs + 1, 3 + a, none⟩ (.slice (some ⟨r, 0, none⟩) (i + 1) cap)) := Kp.set (S := fun k => k = gs + 1) rfl _
            have hrn : r ≠ gs + 1 := by
              rcases hr5 with e | e
              · exact (hrb r e).2.1
              · have : wr.heap.size ≤ r := e; omega
            have hkb : KB21 wr (w5.setCell ⟨gs + 1, 3 + a, none⟩ (.slice (some ⟨r, 0, none⟩) (i + 1) cap)) := fun k cur e => by
              have hlk := (Array.getElem?_eq_some_iff.1 e).1
              have hk1 : k ≠ gs + 1 := fun q => by subst q; rw [hNd.hp] at e; injection e with e; injection e with _ e _; exact absurd e (by decide)
              rw [hks.block k (Nat.lt_of_lt_of_le hlk hk5'.size) hk1]
              exact hk5'.block k hlk (fun q => (hrb k q).2.2.1 cur e)
            have hown6 : (w5.setCell ⟨gs + 1, 3 + a, none⟩ (.slice (some ⟨r, 0, none⟩) (i + 1) cap)).ownsRow w.heap.size 110 3 (.slice (some ⟨r, 0, none⟩) (i + 1) cap) (i + 1) (pdl21 (LL ++ [⟨B, IP, PQ - IP, (D.drop IP).take p, false, 0⟩])) := by
              refine ⟨hown5.1, ?_⟩
              rcases hown5.2 with q0 | ⟨g', cap', cur, q1, q2, q3, q4⟩
              · exact .inl q0
              · simp only [Value.slice.injEq, Option.some.injEq, Addr.mk.injEq] at q1
                obtain ⟨⟨rfl, -⟩, -, rfl⟩ := q1
                exact .inr ⟨r, cap, cur, rfl, q2, (hks.block r (Array.getElem?_eq_some_iff.1 q3).1 hrn).trans q3, q4⟩
            have hBh' := (hkb B _ hBh).trans hBh
            refine ⟨some ⟨r, 0, none⟩, cap, LL ++ [⟨B, IP, PQ - IP, (D.drop IP).take p, false, 0⟩], hnd, by simp [hLl], hown6, fun y d e => ?_, fun x k hx e => ?_, hBh', hBw⟩
            · by_cases hy : y < LL.length
              · rw [List.getElem?_append_left hy] at e
                exact (hpk y d e).kb hkb
              · rw [List.getElem?_append_right (by omega)] at e
                have hy0 : y - LL.length = 0 := by
                  rcases Nat.eq_zero_or_pos (y - LL.length) with h | h
                  · exact h
                  · rw [List.getElem?_eq_none (by simp; omega)] at e; cases e
                rw [hy0] at e
                have hyi : y = i := by omega
                subst hyi
                simp at e
                subst e
                have hfb := nw21_fb p q ac L0 L1 a y ha hi (by rw [← HLL.out, HLN.out, ← HPP.out.1]; exact hnP) (by omega)
                rw [← HPP.out.2.2.1, ← HLL.out, ← HPP.out.1, ← HD.out, ← hIP] at hfb
                refine ⟨?_, ⟨hBw, _, hBh'⟩, hfb.1.symm, hfb.2.1.symm, hfb.2.2.symm, ?_⟩
                · have := ((seg_row21 hBh' hDm).drop IP).take p
                  simpa using this
                · show ((D.drop IP).take p).length ≤ PQ - IP; rw [hch]; omega
            · simp [Value.ownBlock] at e
              subst e
              rcases hr5 with e | e
              · exact hne x r hx e
              · obtain ⟨X, hX⟩ := (hNd.ar x hx).1
                have := (Array.getElem?_eq_some_iff.1 hX).1
                have : wr.heap.size ≤ r := e
                omega
          clear hNd hLl hown hpk hne hBh hBw hIP hJP hJI hJPQ hDl hDm hch hrun hown5 hk5 hr5 hrb hk5' hb5
          go_wp2_with fail
          go_region_law
            (refine step_apr21 rfl (.tmp 84) (.tmp 95) 103 rfl rfl rfl (by exact HAPP.out) ?_)
          all_goals
            go_wp2_with fail
            go_roundw
            case rel => exact ⟨i + 1, by omega, by go_num, HNX.out⟩
            case measure => simp [intOf]; omega
        · obtain rfl : i = q := by omega
          have hii : ¬ (i : Int) < (i : Int) := by omega
          have haw : IntKind.i64.wrap ((a : Int) + 1) = ((a + 1 : Nat) : Int) := by rw [IntWalk.i64_in _ (by omega)]; omega
          have HNX : Hid (∃ (g c : Nat → Nat) (A : Nat → List Pd21), Nd21 w wr (gs + 1) p i ac sl S (a + 1) g c A (.slice none 0 0)) := by
            obtain ⟨ra, rc, LL, hNd, hLl, hown, hpk, hne, hBh, hBw⟩ := hK
            have hi0 : 0 < i := by have := HPP.out; omega
            obtain ⟨r, rfl⟩ : ∃ r, ra = some ⟨r, 0, none⟩ := by
              rcases hown.2 with ⟨_, h2⟩ | ⟨q', cp, cu, h1, _⟩
              · omega
              · simp only [Value.slice.injEq] at h1; exact ⟨q', h1.1⟩
            exact hNd.next ha hLl (ac21_own hown hLl (by rw [HSPS.out.1]; unfold pn21; rw [if_neg (by omega), if_neg (by omega)]) hpk) (fun x hx => hne x r hx rfl)
          clear hK
          go_wp2_with fail
          go_roundw
          case rel => exact ⟨a + 1, by omega, by go_num, HNX.out⟩
          case measure => simp [intOf]; omega
    · obtain rfl : a = 2 := by omega
      have hai : ¬ ((2 : Nat) : Int) < 2 := by omega
      have HN : Hid (Nd21 w wr (gs + 1) p q ac sl S 2 g c A (.slice none 0 0)) := hN
      have HBK : Hid (∀ W : World, Calls Tryd.prog 43 #[.int .i64 (p : Int)] W fun e w' => Bk21 W W.heap.size p e w') := fun W => rblk21 p (by omega) W
      have HB1 : Hid (Calls Tryd.prog 43 #[.int .i64 (p : Int)] wr.drew fun e w' => Bk21 wr wr.heap.size p e w') := (rblk21 p (by omega) wr.drew).mono (fun e w' q => ⟨q.1, q.2.1, (Below.refl _ _).drew.trans (a := wr) q.2.2⟩)
      have HC5 : Hid (∀ (W : World) (o : Obj), Below wr.heap.size wr W → (W.alloc o).cell? ⟨gs + 1, 5, none⟩ = some (.slice none 0 0) ∧ (W.alloc o).frozen? ⟨gs + 1, 5, none⟩ = false) := fun W o hb => by
        have h := (hN.old hb).old ((Below.refl _ _).alloc (Nat.le_refl _) o)
        exact ⟨by simp [World.cell?, h.hp], h.fr 5⟩
      have HFIN : Hid (∀ (W3 W : World) (B1 B2 : Nat), Below wr.heap.size wr W → W.heap[B1]? = some (.cells ((List.replicate p (255 : Int)).map (Value.int .u8)).toArray 5 (0, 0)) → W.heap[B2]? = some (.cells ((List.replicate p (255 : Int)).map (Value.int .u8)).toArray 5 (0, 0)) → wr.heap.size ≤ B1 → wr.heap.size ≤ B2 →
          ∃ G, Rl21d ((W.alloc (.cells #[.slice (some ⟨B1, 0, none⟩) p p, .bool true, .int .i64 0, .slice (some ⟨B2, 0, none⟩) p p, .bool true, .int .i64 0] 110)).setCell ⟨gs + 1, 5, none⟩ (.slice (some ⟨W.heap.size, 0, none⟩) 2 2)) (gs + 1) G S ∧ (∀ k, G k → w.heap.size ≤ k) ∧ Below w.heap.size w ((W.alloc (.cells #[.slice (some ⟨B1, 0, none⟩) p p, .bool true, .int .i64 0, .slice (some ⟨B2, 0, none⟩) p p, .bool true, .int .i64 0] 110)).setCell ⟨gs + 1, 5, none⟩ (.slice (some ⟨W.heap.size, 0, none⟩) 2 2))) := fun W3 W B1 B2 hb h1 h2 hB1 hB2 => by
        obtain ⟨o6, ho6⟩ : ∃ o6 : Obj, o6 = .cells #[.slice (some ⟨B1, 0, none⟩) p p, .bool true, .int .i64 0, .slice (some ⟨B2, 0, none⟩) p p, .bool true, .int .i64 0] 110 := ⟨_, rfl⟩
        rw [← ho6]
        have hba : Below W.heap.size W (W.alloc o6) := (Below.refl _ _).alloc (Nat.le_refl _) _
        have hNw := hN.old hb
        have hNa := hNw.old hba
        have hr : (W.alloc o6).heap[W.heap.size]? = some (.cells #[.slice (some ⟨B1, 0, none⟩) p p, .bool true, .int .i64 0, .slice (some ⟨B2, 0, none⟩) p p, .bool true, .int .i64 0] 110 (0, 0)) := by rw [ho6]; exact heap_alloc_new _ _
        have ha1 : (W.alloc o6).heap[B1]? = _ := (hba.block B1 (Array.getElem?_eq_some_iff.1 h1).1).trans h1
        have ha2 : (W.alloc o6).heap[B2]? = _ := (hba.block B2 (Array.getElem?_eq_some_iff.1 h2).1).trans h2
        obtain ⟨Wf, hWf⟩ : ∃ Wf, Wf = (W.alloc o6).setCell ⟨gs + 1, 5, none⟩ (.slice (some ⟨W.heap.size, 0, none⟩) 2 2) := ⟨_, rfl⟩
        rw [← hWf]
        have hks : Kp (fun k => k = gs + 1) (W.alloc o6) Wf := by rw [hWf]; exact Kp.set (S := fun k => k = gs + 1) rfl _
        have hty : ∀ (k : Nat) (cur : Array Value) (t : TypeId), (W.alloc o6).heap[k]? = some (Obj.cells cur t (0, 0)) → t ≠ 107 → k ≠ gs + 1 := fun k cur t e ht q => by
          rw [q, hNa.hp] at e; injection e with e; injection e with _ e _; exact ht e.symm
        have hkb : KB21 (W.alloc o6) Wf := fun k cur e => hks.block k (Array.getElem?_eq_some_iff.1 e).1 (hty k cur _ e (by decide))
        have hrow : Wf.heap[W.heap.size]? = _ := (hks.block _ (Array.getElem?_eq_some_iff.1 hr).1 (hty _ _ _ hr (by decide))).trans hr
        have hf1 : Wf.heap[B1]? = _ := (hkb B1 _ ha1).trans ha1
        have hf2 : Wf.heap[B2]? = _ := (hkb B2 _ ha2).trans ha2
        have hbl : Below w.heap.size w Wf := hNa.bl.trans (hks.below (fun i e => by rw [e]; exact hN.bN) hNa.bl.size)
        have hwr := hN.bl.size
        have hWs := hb.size
        have har : ∀ x, x < 2 → Ac21 w.heap.size Wf S x (g x) (c x) (A x) := fun x hx => by
          obtain ⟨X, hX⟩ := (hNa.ar x hx).1
          exact (hNa.ar x hx).kb hkb (hks.block _ (Array.getElem?_eq_some_iff.1 hX).1 (hty _ _ _ hX (by decide)))
        have hgl : ∀ x, x < 2 → g x < W.heap.size := fun x hx => by
          obtain ⟨X, hX⟩ := (hNw.ar x hx).1
          exact (Array.getElem?_eq_some_iff.1 hX).1
        have hseg255 : ∀ Bk, Wf.heap[Bk]? = some (.cells ((List.replicate p (255 : Int)).map (Value.int .u8)).toArray 5 (0, 0)) → Seg Wf (some ⟨Bk, 0, none⟩) (List.replicate p 255) := fun Bk h => seg_row21 h (fun y hy => by rw [(List.mem_replicate.1 hy).2]; decide)
        obtain ⟨A2, hA2⟩ : ∃ A2 : List Pd21, A2 = [⟨B1, 0, p, List.replicate p 255, true, 0⟩, ⟨B2, 0, p, List.replicate p 255, true, 0⟩] := ⟨_, rfl⟩
        have hac2 : Ac21 w.heap.size Wf S 2 W.heap.size 2 A2 := by
          refine ⟨⟨[], ?_⟩, by rw [hA2]; rfl, by rw [hA2]; simp, by omega, fun y d e => ?_⟩
          · rw [hrow, hA2]; simp [pdl21, pdc21]
          · rw [hA2] at e
            have hrec := nw21_rec p q ac L0 L1 y
            rw [← HPP.out.2.2.1] at hrec
            rcases (show y = 0 ∨ y = 1 ∨ 2 ≤ y by omega) with rfl | rfl | h
            · simp at e; subst e
              exact ⟨hseg255 B1 hf1, ⟨Nat.le_trans hwr hB1, _, hf1⟩, hrec.1.symm, hrec.2.1.symm, hrec.2.2.symm, by simp⟩
            · simp at e; subst e
              exact ⟨hseg255 B2 hf2, ⟨Nat.le_trans hwr hB2, _, hf2⟩, hrec.1.symm, hrec.2.1.symm, hrec.2.2.symm, by simp⟩
            · rw [List.getElem?_eq_none (by simp; omega)] at e; cases e
        have hall : ∀ x, x < 3 → Ac21 w.heap.size Wf S x (if x = 2 then W.heap.size else g x) (if x = 2 then 2 else c x) (if x = 2 then A2 else A x) := fun x hx => by
          by_cases e : x = 2
          · subst e; simpa using hac2
          · simpa [e] using har x (by omega)
        refine ⟨fun k => w.heap.size ≤ k ∧ k < Wf.heap.size, ⟨fun x => if x = 2 then W.heap.size else g x, fun x => if x = 2 then 2 else c x, fun x => if x = 2 then A2 else A x, [], none, 0, none, 0, V21 w.heap.size Wf, ⟨?_, fun x hx => (hall x hx).1, fun x hx => ⟨(hall x hx).2.1, (hall x hx).2.2.1⟩, fun x y d hx hy => (hall x hx).2.2.2.2 y d hy, ⟨fun e => by rw [HPP.out.2.2.1] at e; exact absurd rfl e, SegK.nil (by decide) _ _, .inl rfl, fun _ => rfl, by simp⟩, ?_, ?_, ?_, fun x hx => ?_, fun k e => by simp [Value.ownBlock] at e, fun k e => ?_⟩, ⟨hN.bN, ?_⟩, fun x hx => ⟨(hall x hx).2.2.2.1, ?_⟩, fun k e => by simp [Value.ownBlock] at e, fun k e => ⟨e.1, ?_⟩, fun k e => e.2⟩, fun k e => e.1, hbl⟩
        · have := hNa.hp
          have hl2 : A2.length = 2 := by rw [hA2]; rfl
          rw [hWf]
          rw [HPP.out.2.2.1]
          simp at this
          simp [World.setCell, Array.getElem?_modify, this, nw21, hl2]
        · rw [HPP.out.2.2.1]; exact World.ownsRow_nil _ _ _ _
        · refine ⟨by simpa using hN.gi 0 1 (by omega) (by omega) (by omega), ?_, ?_⟩
          · have := hgl 0 (by omega); simp; omega
          · have := hgl 1 (by omega); simp; omega
        · rintro ⟨_, cur, e⟩
          have hbf : ∃ cs' : Array Value, Wf.heap[gs + 1]? = some (Obj.cells cs' 107 (0, 0)) := by
            rw [hWf]
            have := hNa.hp
            simp at this
            exact ⟨_, by simp only [World.setCell, Array.getElem?_modify, this]; rfl⟩
          obtain ⟨cs', hbf⟩ := hbf
          rw [hbf] at e
          injection e with e; injection e with _ e _; exact absurd e (by decide)
        · rintro ⟨_, cur, e⟩
          obtain ⟨X, hX⟩ := (hall x hx).1
          rw [hX] at e
          injection e with e; injection e with _ e _; exact absurd e (by decide)
        · obtain ⟨_, cur, e⟩ := e
          exact (Array.getElem?_eq_some_iff.1 e).1
        · have := hNa.lt; exact Nat.lt_of_lt_of_le this hks.size
        · obtain ⟨X, hX⟩ := (hall x hx).1
          exact (Array.getElem?_eq_some_iff.1 hX).1
        · obtain ⟨_, cur, e⟩ := e
          exact (Array.getElem?_eq_some_iff.1 e).1
      clear hN
      go_wp2_with fail
      go_region_held3 (fun _ => True) (trivial)
        (first | (go_at_call 43; refine HB1.out.mono ?_; rintro e3 w3 ⟨rfl, hh3, hb3⟩) | (go_at_call 43; refine (HBK.out w3).mono ?_; rintro e4 w4 ⟨rfl, hh4, hb4⟩; have hbw : Below wr.heap.size wr w4 := hb3.trans (hb4.mono hb3.size); have hx5 : ∀ o, (w4.alloc o).cell? ⟨gs + 1, 5, none⟩ = some (.slice none 0 0) := fun o => (HC5.out w4 o hbw).1; have hf5 : ∀ o, (w4.alloc o).frozen? ⟨gs + 1, 5, none⟩ = false := fun o => (HC5.out w4 o hbw).2))
      have hfin := HFIN.out w3 w4 wr.heap.size w3.heap.size hbw ((hb4.block _ (Array.getElem?_eq_some_iff.1 hh3).1).trans hh3) hh4 (Nat.le_refl _) hb3.size
      have HF : Hid (∃ G, Rl21d ((w4.alloc (.cells #[.slice (some ⟨wr.heap.size, 0, none⟩) p p, .bool true, .int .i64 0, .slice (some ⟨w3.heap.size, 0, none⟩) p p, .bool true, .int .i64 0] 110)).setCell ⟨gs + 1, 5, none⟩ (.slice (some ⟨w4.heap.size, 0, none⟩) 2 2)) (gs + 1) G S ∧ (∀ k, G k → w.heap.size ≤ k) ∧ Below w.heap.size w ((w4.alloc (.cells #[.slice (some ⟨wr.heap.size, 0, none⟩) p p, .bool true, .int .i64 0, .slice (some ⟨w3.heap.size, 0, none⟩) p p, .bool true, .int .i64 0] 110)).setCell ⟨gs + 1, 5, none⟩ (.slice (some ⟨w4.heap.size, 0, none⟩) 2 2))) := hfin
      clear hfin hh3 hb3 hh4 hb4 hbw hx5 hf5
      go_wp2_with fail
      go_ret2
      obtain ⟨G, f1, f2, f3⟩ := HF.out
      exact ⟨gs + 1, G, rfl, f1, f2, f3⟩
end Go.Proofs.YtmjlpfmacblcpaaDoor

namespace Go.Proofs.YtmjlpfmacblcpaaDoor
open Go.RowKit Go.Shelf
set_option linter.unusedVariables false
set_option linter.unusedSimpArgs false
structure Pw22 where
  ar : Int
  bf : List Int
  pn : Nat
  wn : Nat
  cl : Int
structure Wr22 (w : World) (v s g b pg : Nat) (P : Pw22) : Prop where
  hv : w.heap[v]? = some (.cells #[.pointer (some ⟨s, 0, none⟩)] 252 (0, 0))
  hs : w.heap[s]? = some (.cells #[.pointer (some ⟨b, 0, none⟩), .int .i64 P.ar, .slice (some ⟨g, 0, none⟩) pg pg, .int .i64 (P.bf.length : Int), .int .i64 (P.pn : Int), .int .i64 (P.wn : Int), .int .i64 P.cl] 252 (0, 0))
  hg : ∃ Y : List Int, w.heap[g]? = some (.cells ((P.bf ++ Y).map (Value.int .u8)).toArray 5 (0, 0)) ∧ P.bf.length + Y.length = pg ∧ ∀ y ∈ P.bf ++ Y, 0 ≤ y ∧ y ≤ 255
section
variable {w w' : World} {v s g b pg : Nat} {P : Pw22}
theorem Wr22.c0 (h : Wr22 w v s g b pg P) : w.cell? ⟨s, 0, none⟩ = some (.pointer (some ⟨b, 0, none⟩)) := by simp [World.cell?, h.hs]
theorem Wr22.c1 (h : Wr22 w v s g b pg P) : w.cell? ⟨s, 1, none⟩ = some (.int .i64 P.ar) := by simp [World.cell?, h.hs]
theorem Wr22.c2 (h : Wr22 w v s g b pg P) : w.cell? ⟨s, 2, none⟩ = some (.slice (some ⟨g, 0, none⟩) pg pg) := by simp [World.cell?, h.hs]
theorem Wr22.c3 (h : Wr22 w v s g b pg P) : w.cell? ⟨s, 3, none⟩ = some (.int .i64 (P.bf.length : Int)) := by simp [World.cell?, h.hs]
theorem Wr22.c4 (h : Wr22 w v s g b pg P) : w.cell? ⟨s, 4, none⟩ = some (.int .i64 (P.pn : Int)) := by simp [World.cell?, h.hs]
theorem Wr22.c5 (h : Wr22 w v s g b pg P) : w.cell? ⟨s, 5, none⟩ = some (.int .i64 (P.wn : Int)) := by simp [World.cell?, h.hs]
theorem Wr22.c6 (h : Wr22 w v s g b pg P) : w.cell? ⟨s, 6, none⟩ = some (.int .i64 P.cl) := by simp [World.cell?, h.hs]
theorem Wr22.fr (h : Wr22 w v s g b pg P) (i : Nat) : w.frozen? ⟨s, i, none⟩ = false := by simp [World.frozen?, h.hs]
theorem Wr22.ne_vs (h : Wr22 w v s g b pg P) : v ≠ s := fun e => by have := h.hs; rw [← e, h.hv] at this; simp at this
theorem Wr22.ne_sg (h : Wr22 w v s g b pg P) : s ≠ g := fun e => by
  obtain ⟨Y, h1, _⟩ := h.hg
  have := h.hs; rw [e, h1] at this
  injection this with h2
  injection h2 with _ h3 _
  exact absurd h3 (by decide)
theorem Wr22.ne_vg (h : Wr22 w v s g b pg P) : v ≠ g := fun e => by
  obtain ⟨Y, h1, _⟩ := h.hg
  have := h.hv; rw [e, h1] at this
  injection this with h2
  injection h2 with _ h3 _
  exact absurd h3 (by decide)
theorem Wr22.kp (h : Wr22 w v s g b pg P) (h1 : w'.heap[v]? = w.heap[v]?) (h2 : w'.heap[s]? = w.heap[s]?) (h3 : w'.heap[g]? = w.heap[g]?) : Wr22 w' v s g b pg P := by
  obtain ⟨Y, hY, hl⟩ := h.hg
  exact ⟨h1.trans h.hv, h2.trans h.hs, Y, h3.trans hY, hl⟩
theorem Wr22.lt (h : Wr22 w v s g b pg P) : v < w.heap.size ∧ s < w.heap.size ∧ g < w.heap.size := by
  obtain ⟨Y, hY, hl⟩ := h.hg
  exact ⟨(Array.getElem?_eq_some_iff.1 h.hv).1, (Array.getElem?_eq_some_iff.1 h.hs).1, (Array.getElem?_eq_some_iff.1 hY).1⟩
theorem Wr22.old (h : Wr22 w v s g b pg P) (hb : Below w.heap.size w w') : Wr22 w' v s g b pg P :=
  h.kp (hb.block v h.lt.1) (hb.block s h.lt.2.1) (hb.block g h.lt.2.2)
theorem Wr22.kpk {Q : Nat → Prop} (h : Wr22 w v s g b pg P) (hk : Kp Q w w') (h1 : ¬ Q v) (h2 : ¬ Q s) (h3 : ¬ Q g) : Wr22 w' v s g b pg P :=
  h.kp (hk.block v h.lt.1 h1) (hk.block s h.lt.2.1 h2) (hk.block g h.lt.2.2 h3)
end
/-- A writer over a flash. -/
structure Pe22 (w : World) (v s g b : Nat) (F : Nat → Prop) (S : Fs21) (P : Pw22) : Prop where
  fl : Fl21 w b F S
  wr : Wr22 w v s g b S.pg P
  nv : ¬ F v
  ns : ¬ F s
  ng : ¬ F g
def Pn22 (w w' : World) (v s g b : Nat) (F : Nat → Prop) (S' : Fs21) (P' : Pw22) : Prop := ∃ F', Pe22 w' v s g b F' S' P' ∧ (∀ k, F' k → F k ∨ w.heap.size ≤ k) ∧ Kp (fun k => F k ∨ k = s ∨ k = g) w w'
section
variable {w w' : World} {v s g b : Nat} {F : Nat → Prop} {S S' : Fs21} {P P' : Pw22}
theorem Pe22.old (h : Pe22 w v s g b F S P) (hb : Below w.heap.size w w') : Pe22 w' v s g b F S P := ⟨h.fl.old hb, h.wr.old hb, h.nv, h.ns, h.ng⟩
theorem Pe22.stay (h : Pe22 w v s g b F S P) (hb : Below w.heap.size w w') : Pn22 w w' v s g b F S P := ⟨F, h.old hb, fun _ e => .inl e, Kp.of_below hb⟩
theorem Pn22.from {w1 : World} (h : Pn22 w1 w' v s g b F S' P') (hb : Below w.heap.size w w1) : Pn22 w w' v s g b F S' P' := by
  obtain ⟨F', h1, h2, h3⟩ := h
  exact ⟨F', h1, fun k e => by rcases h2 k e with h | h; (exact .inl h); (exact .inr (Nat.le_trans hb.size h)), (Kp.of_below hb).trans h3 (fun _ _ e => e)⟩
/-- What a call of the flash leaves of a writer over it. -/
theorem Pe22.flash (h : Pe22 w v s g b F S P) (hn : Fn21 w w' b F S') (hp : S'.pg = S.pg) : Pn22 w w' v s g b F S' P := by
  obtain ⟨F', h1, h2, h3⟩ := hn
  have hl := h.wr.lt
  refine ⟨F', ⟨h1, by rw [hp]; exact h.wr.kpk h3 h.nv h.ns h.ng, fun e => ?_, fun e => ?_, fun e => ?_⟩, h2, h3.mono (fun i _ e => .inl e)⟩
  · rcases h2 v e with q | q; (exact h.nv q); omega
  · rcases h2 s e with q | q; (exact h.ns q); omega
  · rcases h2 g e with q | q; (exact h.ng q); omega
theorem Pn22.cons {w1 w2 : World} {F1 : Nat → Prop} {S2 : Fs21} {P2 : Pw22} (f1 : ∀ k, F1 k → F k ∨ w.heap.size ≤ k) (k1 : Kp (fun k => F k ∨ k = s ∨ k = g) w w1) (h : Pn22 w1 w2 v s g b F1 S2 P2) : Pn22 w w2 v s g b F S2 P2 := by
  obtain ⟨F2, h1, h2, h3⟩ := h
  refine ⟨F2, h1, fun x e => ?_, k1.trans h3 (fun i hi e => ?_)⟩
  · rcases h2 x e with q | q
    · exact f1 x q
    · exact .inr (Nat.le_trans k1.size q)
  · rcases e with e | e
    · rcases f1 i e with q | q
      · exact .inl q
      · omega
    · exact .inr e
end
section
variable {w : World} {v s g b pg : Nat} {P : Pw22}
end
section
variable {w : World} {b : Nat} {F : Nat → Prop} {S : Fs21}
set_option maxRecDepth 100000 in
set_option maxHeartbeats 1000000 in
theorem pact22 (hF : Fl21 w b F S) (hO : Ok21 S) : Calls Tryd.prog 65 #[.pointer (some ⟨b, 0, none⟩)] w fun e w' => e = .returned (.int .i64 S.ac) ∧ w' = w := by
  obtain ⟨c0, c1, c2, c3, c4, cf⟩ := hF.cells
  have HM := pmade21 b S.pg w c0 hO.pg.1
  clear hF
  go_enter Tryd.func65, Tryd.ntmps65
  go_wp2_with fail
  refine HM.mono ?_
  rintro e w1 ⟨rfl, hw⟩
  subst w1
  go_wp2_with fail
  go_ret
  exact ⟨rfl, rfl⟩
set_option maxRecDepth 100000 in
set_option maxHeartbeats 1000000 in
theorem pshp22 (hF : Fl21 w b F S) (hO : Ok21 S) : Calls Tryd.prog 100 #[.pointer (some ⟨b, 0, none⟩)] w fun e w' => e = .returned (.agg #[.int .i64 (S.pg : Int), .int .i64 (S.ps : Int)]) ∧ Below w.heap.size w w' := by
  have hb : Below w.heap.size w (w.alloc (.cells #[.int .i64 0, .int .i64 0] 45)) := (Below.refl _ _).alloc (Nat.le_refl _) _
  obtain ⟨c0, c1, c2, c3, c4, cf⟩ := (hF.old hb).cells
  have HM := pmade21 b S.pg _ c0 hO.pg.1
  have hb2 : Below w.heap.size w (w.alloc (.cells #[.int .i64 (S.pg : Int), .int .i64 (S.ps : Int)] 45)) := (Below.refl _ _).alloc (Nat.le_refl _) _
  have hq := heap_alloc_new w (.cells #[.int .i64 (S.pg : Int), .int .i64 (S.ps : Int)] 45)
  have hlt := hF.lt
  clear hF
  go_enter Tryd.func100, Tryd.ntmps100
  go_wp2_with fail
  refine HM.mono ?_
  rintro e w1 ⟨rfl, hw⟩
  subst w1
  go_wp2_with fail
  refine bodyPost_ret (v := .agg #[.int .i64 (S.pg : Int), .int .i64 (S.ps : Int)]) (results_cell_row (fn := Tryd.f100) (p := 2) (ty := 45) rfl _ _ w.heap.size _ _ _ _ rfl hq Tryd.underlying45 rfl (by kernel_rfl)) rfl ?_
  exact ⟨rfl, hb2⟩
end
end Go.Proofs.YtmjlpfmacblcpaaDoor

namespace Go.Proofs.YtmjlpfmacblcpaaDoor
open Go.RowKit Go.Shelf
set_option linter.unusedVariables false
set_option linter.unusedSimpArgs false
section
variable {w w' : World} {v s g b pg : Nat} {F : Nat → Prop} {S : Fs21} {P P' : Pw22}
theorem seven_set22 {w : World} {b : Nat} {x0 x1 x2 x3 x4 x5 x6 : Value} {t : TypeId} (h : w.heap[b]? = some (.cells #[x0, x1, x2, x3, x4, x5, x6] t (0, 0))) (u : Value) :
    (w.setCell ⟨b, 3, none⟩ u).heap[b]? = some (.cells #[x0, x1, x2, u, x4, x5, x6] t (0, 0)) ∧ (w.setCell ⟨b, 4, none⟩ u).heap[b]? = some (.cells #[x0, x1, x2, x3, u, x5, x6] t (0, 0)) ∧ (w.setCell ⟨b, 5, none⟩ u).heap[b]? = some (.cells #[x0, x1, x2, x3, x4, u, x6] t (0, 0)) ∧ (w.setCell ⟨b, 6, none⟩ u).heap[b]? = some (.cells #[x0, x1, x2, x3, x4, x5, u] t (0, 0)) := by
  simp [World.setCell, Array.getElem?_modify, h]
theorem set_other22 (w : World) {s i k : Nat} (u : Value) (h : k ≠ s) : (w.setCell ⟨s, i, none⟩ u).heap[k]? = w.heap[k]? := by
  have h' : ¬ s = k := fun e => h e.symm
  simp [World.setCell, Array.getElem?_modify, h']
theorem Pe22.put (h : Pe22 w v s g b F S P) (hk : Kp (fun k => k = s ∨ k = g) w w') (hw : Wr22 w' v s g b S.pg P') : Pn22 w w' v s g b F S P' := by
  refine ⟨F, ⟨h.fl.kp (fun k e => ?_) hk.size, hw, h.nv, h.ns, h.ng⟩, fun _ e => .inl e, hk.mono (fun i _ e => .inr e)⟩
  have hlt : k < w.heap.size := by
    obtain ⟨m, c, f, ta, tc, la, lc, V, h1, h2, h3, h4, h5, h6⟩ := h.fl
    exact h6 k e
  refine hk.block k hlt (fun q => ?_)
  rcases q with q | q
  · exact h.ns (q ▸ e)
  · exact h.ng (q ▸ e)
def mx22 (S : Fs21) : Nat := S.pg * S.ps
end
end Go.Proofs.YtmjlpfmacblcpaaDoor

namespace Go.Proofs.YtmjlpfmacblcpaaDoor
open Go.RowKit Go.Shelf
set_option linter.unusedVariables false
set_option linter.unusedSimpArgs false
def lyE22 (S : Fs21) (P : Pw22) : Int := if erE21 S P.ar (P.pn : Int) ≠ 0 then erE21 S P.ar (P.pn : Int) else pgE21 (erS21 S P.ar (P.pn : Int)) P.ar (P.pn : Int) P.bf.length
def lyS22 (S : Fs21) (P : Pw22) : Fs21 := if erE21 S P.ar (P.pn : Int) ≠ 0 then erS21 S P.ar (P.pn : Int) else pgS21 (erS21 S P.ar (P.pn : Int)) P.ar (P.pn : Int) P.bf
def lyP22 (S : Fs21) (P : Pw22) : Pw22 := if lyE22 S P ≠ 0 then { P with cl := lyE22 S P } else { P with pn := P.pn + 1, bf := [] }
section
variable {w w' : World} {v s g b pg : Nat} {F : Nat → Prop} {S : Fs21} {P P' : Pw22}
end
end Go.Proofs.YtmjlpfmacblcpaaDoor

namespace Go.Proofs.YtmjlpfmacblcpaaDoor
open Go.RowKit Go.Shelf
set_option linter.unusedVariables false
set_option linter.unusedSimpArgs false
/-- Bytes one by one. -/
def tk22 : Fs21 → Pw22 → List Int → Fs21 × Pw22 × Int
  | S, P, [] => (S, P, 0)
  | S, P, c :: L =>
    if (P.bf ++ [c]).length = S.pg then
      if lyE22 S { P with bf := P.bf ++ [c] } ≠ 0 then (lyS22 S { P with bf := P.bf ++ [c] }, lyP22 S { P with bf := P.bf ++ [c] }, lyE22 S { P with bf := P.bf ++ [c] })
      else tk22 (lyS22 S { P with bf := P.bf ++ [c] }) (lyP22 S { P with bf := P.bf ++ [c] }) L
    else tk22 S { P with bf := P.bf ++ [c] } L
theorem tk22_some (S : Fs21) : ∀ (cs : List Int) (P : Pw22) (L : List Int), P.bf.length + cs.length < S.pg → tk22 S P (cs ++ L) = tk22 S { P with bf := P.bf ++ cs } L
  | [], P, L, _ => by simp
  | c :: cs, P, L, h => by
    have h1 : ¬ (P.bf ++ [c]).length = S.pg := by simp at h ⊢; omega
    rw [List.cons_append, tk22, if_neg h1, tk22_some S cs { P with bf := P.bf ++ [c] } L (by simp at h ⊢; omega)]
    simp
theorem tk22_full (S : Fs21) : ∀ (cs : List Int) (P : Pw22) (L : List Int), P.bf.length + cs.length = S.pg → 0 < cs.length →
    tk22 S P (cs ++ L) = if lyE22 S { P with bf := P.bf ++ cs } ≠ 0 then (lyS22 S { P with bf := P.bf ++ cs }, lyP22 S { P with bf := P.bf ++ cs }, lyE22 S { P with bf := P.bf ++ cs }) else tk22 (lyS22 S { P with bf := P.bf ++ cs }) (lyP22 S { P with bf := P.bf ++ cs }) L
  | [], P, L, _, h => by simp at h
  | [c], P, L, h, _ => by
    have h1 : (P.bf ++ [c]).length = S.pg := by simp at h ⊢; omega
    rw [List.cons_append, tk22, if_pos h1]
    rfl
  | c :: d :: cs, P, L, h, _ => by
    have h1 : ¬ (P.bf ++ [c]).length = S.pg := by simp at h ⊢; omega
    rw [List.cons_append, tk22, if_neg h1, tk22_full S (d :: cs) { P with bf := P.bf ++ [c] } L (by simp at h ⊢; omega) (by simp)]
    simp
def tkE22 (S : Fs21) (P : Pw22) (L : List Int) : Int := (tk22 S P L).2.2
def tkS22 (S : Fs21) (P : Pw22) (L : List Int) : Fs21 := (tk22 S P L).1
def tkP22 (S : Fs21) (P : Pw22) (L : List Int) : Pw22 := if (tk22 S P L).2.2 = 0 then { (tk22 S P L).2.1 with wn := (tk22 S P L).2.1.wn + L.length } else (tk22 S P L).2.1
section
variable {w w' : World} {v s g b pg : Nat} {F : Nat → Prop} {S : Fs21} {P P' : Pw22}
theorem Wr22.copy (h : Wr22 w v s g b pg P) {Y cs : List Int} (hY : w.heap[g]? = some (.cells ((P.bf ++ Y).map (Value.int .u8)).toArray 5 (0, 0))) (hl : P.bf.length + Y.length = pg) (hb : ∀ y ∈ P.bf ++ Y, 0 ≤ y ∧ y ≤ 255) (hc : ∀ y ∈ cs, 0 ≤ y ∧ y ≤ 255) (hn : P.bf.length + cs.length ≤ pg)
    (k5 : Kp (fun k => k = g) w w') (h5 : w'.heap[g]? = some (.cells ((sp21 (P.bf ++ Y) P.bf.length cs).map (Value.int .u8)).toArray 5 (0, 0))) (m : Nat) (hm : P.bf.length + cs.length = m) :
    Wr22 (w'.setCell ⟨s, 3, none⟩ (.int .i64 (m : Int))) v s g b pg { P with bf := P.bf ++ cs } := by
  have h1 := h.lt
  have e1 : w'.heap[v]? = w.heap[v]? := k5.block v h1.1 h.ne_vg
  have e2 : w'.heap[s]? = w.heap[s]? := k5.block s h1.2.1 h.ne_sg
  refine ⟨(set_other22 w' _ h.ne_vs).trans (e1.trans h.hv), ?_, Y.drop cs.length, ?_, ?_, ?_⟩
  · have := (seven_set22 (e2.trans h.hs) (.int .i64 (m : Int))).1
    rw [this]
    simp [← hm]
  · rw [set_other22 w' _ h.ne_sg.symm, h5, sp21_at P.bf Y cs _ rfl]
  · simp; omega
  · intro y hy
    simp at hy
    rcases hy with hy | hy | hy
    · exact hb y (by simp [hy])
    · exact hc y hy
    · exact hb y (List.mem_append_right _ (List.mem_of_mem_drop hy))
end
/-- What holds of take's loop behind k bytes. -/
structure Ti22 (w wr : World) (v s g b : Nat) (F : Nat → Prop) (S : Fs21) (P : Pw22) (L : List Int) (k : Nat) (F' : Nat → Prop) (S' : Fs21) (P' : Pw22) : Prop where
  pe : Pe22 wr v s g b F' S' P'
  fr : ∀ x, F' x → F x ∨ w.heap.size ≤ x
  kp : Kp (fun x => F x ∨ x = s ∨ x = g) w wr
  ok : Ok21 S'
  pg : S'.pg = S.pg
  tk : tk22 S P L = tk22 S' P' (L.drop k)
  lt : P'.bf.length < S'.pg
  ar : P'.ar = P.ar
  wn : P'.wn = P.wn
  pn : P'.pn ≤ P.pn + k
  lg : S'.lg.length ≤ S.lg.length + 2 * k
section
variable {w wr w2 : World} {v s g b : Nat} {F F' F2 : Nat → Prop} {S S' : Fs21} {P P' : Pw22} {L : List Int} {k : Nat}
theorem Ti22.some (h : Ti22 w wr v s g b F S P L k F' S' P') {nn : Nat} (hk : k + nn = L.length) (hn : P'.bf.length + nn < S'.pg) (hp : Pn22 wr w2 v s g b F' S' { P' with bf := P'.bf ++ (L.drop k).take nn }) :
    ∃ F2, Ti22 w w2 v s g b F S P L (k + nn) F2 S' { P' with bf := P'.bf ++ (L.drop k).take nn } := by
  obtain ⟨F2, h1, h2, h3⟩ := Pn22.cons h.fr h.kp hp
  have hl : ((L.drop k).take nn).length = nn := by simp; omega
  refine ⟨F2, h1, h2, h3, h.ok, h.pg, ?_, ?_, h.ar, h.wn, Nat.le_trans h.pn (by omega), Nat.le_trans h.lg (by omega)⟩
  · rw [h.tk, ← List.drop_drop]
    have := tk22_some S' ((L.drop k).take nn) P' ((L.drop k).drop nn) (by omega)
    rw [List.take_append_drop] at this
    exact this
  · simp only [List.length_append]; omega
theorem Ti22.no (h : Ti22 w wr v s g b F S P L k F' S' P') {nn : Nat} (hk : k + nn ≤ L.length) (h0 : 0 < nn) (hn : P'.bf.length + nn = S'.pg) (hE : lyE22 S' { P' with bf := P'.bf ++ (L.drop k).take nn } ≠ 0)
    (hp : Pn22 wr w2 v s g b F' (lyS22 S' { P' with bf := P'.bf ++ (L.drop k).take nn }) (lyP22 S' { P' with bf := P'.bf ++ (L.drop k).take nn })) :
    tkE22 S P L = lyE22 S' { P' with bf := P'.bf ++ (L.drop k).take nn } ∧ Pn22 w w2 v s g b F (tkS22 S P L) (tkP22 S P L) := by
  have hl : ((L.drop k).take nn).length = nn := by simp; omega
  have := tk22_full S' ((L.drop k).take nn) P' ((L.drop k).drop nn) (by omega) (by omega)
  rw [List.take_append_drop, if_pos hE, ← h.tk] at this
  unfold tkE22 tkS22 tkP22
  rw [this]
  refine ⟨rfl, ?_⟩
  rw [if_neg hE]
  exact Pn22.cons h.fr h.kp hp
theorem Ti22.fin (h : Ti22 w wr v s g b F S P L L.length F' S' P') (hp : Pn22 wr w2 v s g b F' S' { P' with wn := P.wn + L.length }) :
    tkE22 S P L = 0 ∧ Pn22 w w2 v s g b F (tkS22 S P L) (tkP22 S P L) := by
  have := h.tk
  rw [List.drop_eq_nil_of_le (Nat.le_refl _)] at this
  unfold tkE22 tkS22 tkP22
  rw [this, tk22]
  refine ⟨rfl, ?_⟩
  rw [if_pos rfl]
  have e := Pn22.cons h.fr h.kp hp
  rw [← h.wn] at e
  exact e
end
end Go.Proofs.YtmjlpfmacblcpaaDoor

namespace Go.Proofs.YtmjlpfmacblcpaaDoor
open Go.RowKit Go.Shelf
set_option linter.unusedVariables false
set_option linter.unusedSimpArgs false
theorem Pn22.more {w w1 w2 : World} {v s g b : Nat} {F : Nat → Prop} {S : Fs21} {P : Pw22} (h : Pn22 w w1 v s g b F S P) (hb : Below w1.heap.size w1 w2) : Pn22 w w2 v s g b F S P := by
  obtain ⟨F1, q, f, k⟩ := h
  exact Pn22.cons f k (q.stay hb)
end Go.Proofs.YtmjlpfmacblcpaaDoor

namespace Go.Proofs.YtmjlpfmacblcpaaDoor
open Go.RowKit Go.Shelf
set_option linter.unusedVariables false
set_option linter.unusedSimpArgs false
def fu22 (S : Fs21) (P : Pw22) (n : Nat) : Prop := (mx22 S : Int) - (P.wn : Int) < (n : Int)
instance (S : Fs21) (P : Pw22) (n : Nat) : Decidable (fu22 S P n) := inferInstanceAs (Decidable ((mx22 S : Int) - (P.wn : Int) < (n : Int)))
section
variable {w w' : World} {v s g b : Nat} {F : Nat → Prop} {S : Fs21} {P : Pw22}
end
end Go.Proofs.YtmjlpfmacblcpaaDoor

namespace Go.Proofs.YtmjlpfmacblcpaaDoor
open Go.RowKit Go.Shelf
set_option linter.unusedVariables false
set_option linter.unusedSimpArgs false
structure Dv22 where
  p : Nat
  q : Nat
  ac : Bool
  a0 : Option Addr
  l0 : List Int
  k0 : Nat
  a1 : Option Addr
  l1 : List Int
  k1 : Nat
def Dv22.P (d : Dv22) : Nat := 64 + d.p % 9
def Dv22.Q (d : Dv22) : Nat := 1 + d.q % 4
def Dv22.A (d : Dv22) : Int := if d.ac then 1 else 0
def Dv22.S (d : Dv22) : Fs21 := nw21 d.P d.Q d.A (d.l0.take (d.P * d.Q)) (d.l1.take (d.P * d.Q))
theorem Dv22.bd (d : Dv22) : 64 ≤ d.P ∧ d.P ≤ 72 ∧ 1 ≤ d.Q ∧ d.Q ≤ 4 ∧ d.P * d.Q ≤ 288 := by
  have h1 : 64 ≤ d.P ∧ d.P ≤ 72 := by unfold Dv22.P; omega
  have h2 : 1 ≤ d.Q ∧ d.Q ≤ 4 := by unfold Dv22.Q; omega
  exact ⟨h1.1, h1.2, h2.1, h2.2, Nat.mul_le_mul h1.2 h2.2⟩
theorem Dv22.ok (d : Dv22) : Ok21 d.S := by
  have := d.bd
  exact ok21_new d.P d.Q d.A _ _ (by omega) (by omega) (by unfold Dv22.A; split <;> omega)
theorem slice_none22 (W : World) : (Instr.slice 22 (.slice none 0 0) none (some (.int .i64 0)) none).run Tryd.prog W = .ok (.slice none 0 0) W := by kernel_rfl
theorem slice_hi22 (a : Option Addr) (n k m : Nat) (hnk : n ≤ k) (hm : m ≤ k) (hn : a = none → k = 0) (W : World) : (Instr.slice 22 (.slice a n k) none (some (.int .i64 (m : Int))) none).run Tryd.prog W = .ok (.slice a m k) W := by
  have h1 : (m : Int) ≤ (k : Int) := by omega
  have h0 : (0 : Int) ≤ (m : Int) := by omega
  cases a with
  | none =>
    have := hn rfl
    subst this
    obtain rfl : m = 0 := by omega
    obtain rfl : n = 0 := by omega
    exact slice_none22 W
  | some x => go_simp
end Go.Proofs.YtmjlpfmacblcpaaDoor

namespace Go.Proofs.YtmjlpfmacblcpaaDoor
open Go.RowKit
set_option linter.unusedVariables false
/-- What a byte is refused by (0: it is not), where so many came ahead of it. -/
def tkErr (c : Nat) (x : Int) : Int := if c = 9 ∧ 1 < x then 10 else if 0 < c ∧ x = 0 then 12 else 0
/-- A Taker in a block of its own. -/
def TK (w : World) (b : Nat) (v : Int) (c : Nat) : Prop := w.heap[b]? = some (.cells #[.int .u64 v, .int .i64 c] 220 (0, 0))

set_option maxRecDepth 100000 in
theorem refuses_any (b : Nat) (v : Int) (c : Nat) (x : Int) (w : World) (h : TK w b v c) (hx0 : 0 ≤ x) (hc9 : c ≤ 9) :
    Calls Tryd.prog 131 #[.pointer (some ⟨b, 0, none⟩), .int .u8 x] w fun e w' => e = .returned (.int .i64 (tkErr c x)) ∧ w' = w := by
  have h1 := two_cell1 h
  by_cases a1 : c = 9
  · subst a1
    by_cases a2 : 1 < x
    · go_enter Tryd.func131, Tryd.ntmps131
      go_wp2
      go_ret
      exact ⟨by simp [tkErr, a2], rfl⟩
    · by_cases a3 : x = 0
      · subst a3
        go_enter Tryd.func131, Tryd.ntmps131
        go_wp2
        go_ret
        exact ⟨by simp [tkErr], rfl⟩
      · have a4 : (x == 0) = false := by simp [a3]
        go_enter Tryd.func131, Tryd.ntmps131
        go_wp2
        go_ret
        exact ⟨by have : ¬ 1 < x := by omega
                  simp [tkErr, this, a3], rfl⟩
  · have a0 : ((c : Int) == 9) = false := by simp; omega
    by_cases a2 : 0 < c
    · have a5 : (0 : Int) < (c : Int) := by omega
      by_cases a3 : x = 0
      · subst a3
        go_enter Tryd.func131, Tryd.ntmps131
        go_wp2
        go_ret
        exact ⟨by simp [tkErr, a1, a2], rfl⟩
      · have a4 : (x == 0) = false := by simp [a3]
        go_enter Tryd.func131, Tryd.ntmps131
        go_wp2
        go_ret
        exact ⟨by simp [tkErr, a1, a3], rfl⟩
    · have a6 : c = 0 := by omega
      subst a6
      go_enter Tryd.func131, Tryd.ntmps131
      go_wp2
      go_ret
      exact ⟨by simp [tkErr], rfl⟩

set_option maxRecDepth 100000 in
theorem reset_any (b : Nat) (v : Int) (c : Nat) (w : World) (h : TK w b v c) :
    Calls Tryd.prog 132 #[.pointer (some ⟨b, 0, none⟩)] w fun e w' => e = .returned (.tuple #[]) ∧ TK w' b 0 0 ∧ w.grownBy w' (some b) := by
  have h0 := two_cell0 h
  have h1 := two_cell1 h
  have f0 := two_free h 0
  have f1 := two_free h 1
  go_enter Tryd.func132, Tryd.ntmps132
  go_wp2
  go_end0
  exact ⟨rfl, two_set1 (two_set0 h _) _, grownBy_set (grownBy_set (World.grownBy.refl _ _) _) _⟩

set_option maxRecDepth 100000 in
set_option maxHeartbeats 400000 in
theorem take_bad (b : Nat) (v : Int) (c : Nat) (x : Int) (w : World) (h : TK w b v c) (hx0 : 0 ≤ x) (hx1 : x ≤ 255) (hc9 : c ≤ 9) (he : tkErr c x ≠ 0) :
    Calls Tryd.prog 127 #[.pointer (some ⟨b, 0, none⟩), .int .u8 x] w fun e w' => e = .returned (.tuple #[.int .u64 0, .bool false, .int .i64 (tkErr c x)]) ∧ TK w' b 0 0 ∧ w.grownBy w' (some b) := by
  have hn : (tkErr c x != 0) = true := by simp [he]
  clear he
  go_enter Tryd.func127, Tryd.ntmps127
  go_wp2_with (first
    | (go_at_call 131; refine (refuses_any b v c x _ h hx0 hc9).mono ?_; rintro e w' ⟨rfl, rfl⟩)
    | (go_at_call 132; refine (reset_any b v c _ h).mono ?_; rintro e w1 ⟨rfl, ht, hg⟩))
  go_ret3
  exact ⟨rfl, ht, hg⟩

theorem tkErr_nine {c : Nat} {x : Int} (h : tkErr c x = 0) : c = 9 → x ≤ 1 := by
  intro e; subst e
  unfold tkErr at h
  split at h
  · cases h
  · rename_i n; simp at n; omega

set_option maxRecDepth 100000 in
set_option maxHeartbeats 400000 in
theorem take_more (b : Nat) (v : Int) (c : Nat) (x : Int) (w : World) (h : TK w b v c) (hv0 : 0 ≤ v) (hv1 : v < 128 ^ c) (hx0 : 128 ≤ x) (hx1 : x ≤ 255) (hc9 : c ≤ 9) (he : tkErr c x = 0) :
    Calls Tryd.prog 127 #[.pointer (some ⟨b, 0, none⟩), .int .u8 x] w fun e w' => e = .returned (.tuple #[.int .u64 0, .bool false, .int .i64 0]) ∧ TK w' b (tkVal v c x) (c + 1) ∧ w.grownBy w' (some b) := by
  have h0 := two_cell0 h
  have h1 := two_cell1 h
  have f0 := two_free h 0
  have f1 := two_free h 1
  have hn : (tkErr c x != 0) = false := by simp [he]
  have ea : (bits .and .u8 x 128 != 0) = true := by rw [and128 x (by omega) hx1, if_pos hx0]; rfl
  have HO : Hid (bits .or .u64 v (IntKind.u64.wrap (IntKind.u64.wrap (bits .and .u8 x 127) * 2 ^ (7 * c))) = tkVal v c x) := tk_or v c x hv0 hv1 hc9 (by omega) hx1 (tkErr_nine he)
  clear he hv1
  go_enter Tryd.func127, Tryd.ntmps127
  go_wp2_with (first
    | (go_at_call 131; refine (refuses_any b v c x _ h (by omega) hc9).mono ?_; rintro e w' ⟨rfl, rfl⟩))
  go_region
  go_wp2
  rw [HO.out]
  go_ret3
  exact ⟨rfl, two_set1 (two_set0 h _) _, grownBy_drew (grownBy_set (grownBy_set (World.grownBy.refl _ _) _) _)⟩

set_option maxRecDepth 100000 in
set_option maxHeartbeats 400000 in
theorem take_ends (b : Nat) (v : Int) (c : Nat) (x : Int) (w : World) (h : TK w b v c) (hv0 : 0 ≤ v) (hv1 : v < 128 ^ c) (hx0 : 0 ≤ x) (hx1 : x ≤ 127) (hc9 : c ≤ 9) (he : tkErr c x = 0) :
    Calls Tryd.prog 127 #[.pointer (some ⟨b, 0, none⟩), .int .u8 x] w fun e w' => e = .returned (.tuple #[.int .u64 (tkVal v c x), .bool true, .int .i64 0]) ∧ TK w' b 0 0 ∧ w.grownBy w' (some b) := by
  have h0 := two_cell0 h
  have h1 := two_cell1 h
  have f0 := two_free h 0
  have f1 := two_free h 1
  have hn : (tkErr c x != 0) = false := by simp [he]
  have ea : (bits .and .u8 x 128 != 0) = false := by rw [and128 x (by omega) (by omega), if_neg (by omega)]; rfl
  have HO : Hid (bits .or .u64 v (IntKind.u64.wrap (IntKind.u64.wrap (bits .and .u8 x 127) * 2 ^ (7 * c))) = tkVal v c x) := tk_or v c x hv0 hv1 hc9 (by omega) (by omega) (tkErr_nine he)
  clear he hv1
  go_enter Tryd.func127, Tryd.ntmps127
  go_wp2_with (first
    | (go_at_call 131; refine (refuses_any b v c x _ h (by omega) hc9).mono ?_; rintro e w' ⟨rfl, rfl⟩))
  go_region
  go_wp2_with fail
  rw [HO.out]
  refine (reset_any b (tkVal v c x) (c + 1) _ (by exact two_set1 (two_set0 h _) _)).mono ?_
  rintro e w1 ⟨rfl, ht, hg⟩
  go_wp2
  go_ret3
  exact ⟨rfl, ht, grownBy_trans (grownBy_drew (grownBy_set (grownBy_set (World.grownBy.refl _ _) _) _)) hg⟩
end Go.Proofs.YtmjlpfmacblcpaaDoor
