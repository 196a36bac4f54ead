
import Derived.Test.YtoeabfcnfofbiaaDoorLnTally
import Derived.Laws.EntriesVeiled
namespace Go.Proofs.YtoeabfcnfofbiaaDoor
open Go.RowKit
set_option linter.unusedVariables false

def syms (ts : List It) (k : Nat) : List Nat := (ts.take k).flatMap (·.2)
theorem syms_snoc (ts : List It) (k : Nat) (h : k < ts.length) : syms ts (k + 1) = syms ts k ++ (ts.getD k it0).2 := by
  unfold syms
  rw [List.take_add_one, List.flatMap_append, List.getElem?_eq_getElem h]
  simp [List.getD, h]

set_option maxRecDepth 100000 in
set_option maxHeartbeats 2000000 in
theorem tally_any (o N B : Nat) (b : Option Addr) (m c d : Nat) (A : List Int) (R : List Im) (ts : List It) (w : World) (hm : Hid (R.length = m)) (hR : RL w b R) (hM : ML (Gq o w) w d R ts) (hb : ∀ x, b = some x → x.block ≠ o)
    (hO : w.ownsRow B 3 1 (.slice (some ⟨o, 0, none⟩) N N) N (A.map (Value.int .i64))) (ho : o < w.heap.size) (hA : Hid (A.length = N)) (hN : N ≤ 100000) (hmm : m ≤ 100000)
    (hs : ∀ s ∈ syms ts m, s < N) (hA0 : ∀ i, A.getD i 0 = 0) (hlen : (syms ts m).length ≤ 4611686018427387904) :
    Calls Tryd.prog 90 #[.slice (some ⟨o, 0, none⟩) N N, .slice b m c] w fun e w' => e = .returned (.tuple #[]) ∧ w'.ownsRow B 3 1 (.slice (some ⟨o, 0, none⟩) N N) N ((bumps A (syms ts m)).map (Value.int .i64)) ∧ w.grownBy w' (some o) := by
  have T2 : Tb ((w.alloc (.cells #[.slice (some ⟨o, 0, none⟩) N N] 22)).alloc (.cells #[(.func (.func 108) #[] #[.pointer (some ⟨w.heap.size, 0, none⟩), .pointer (some ⟨w.heap.size + 1, 0, none⟩)])] 175)) w.heap.size (w.heap.size + 1) o N B A := by
    have B1 : Below w.heap.size w ((w.alloc (.cells #[.slice (some ⟨o, 0, none⟩) N N] 22)).alloc (.cells #[(.func (.func 108) #[] #[.pointer (some ⟨w.heap.size, 0, none⟩), .pointer (some ⟨w.heap.size + 1, 0, none⟩)])] 175)) := ((Below.refl _ _).alloc (Nat.le_refl _) _).alloc (by simp) _
    refine ⟨?_, ?_, own_below hO B1, by omega, by omega⟩
    · rw [Below.heap_alloc _ _ _ (by simp)]
      exact heap_alloc_new w _
    · have := heap_alloc_new (w.alloc (.cells #[.slice (some ⟨o, 0, none⟩) N N] 22)) (.cells #[(.func (.func 108) #[] #[.pointer (some ⟨w.heap.size, 0, none⟩), .pointer (some ⟨w.heap.size + 1, 0, none⟩)])] 175)
      simpa using this
  have B2 : Below w.heap.size w ((w.alloc (.cells #[.slice (some ⟨o, 0, none⟩) N N] 22)).alloc (.cells #[(.func (.func 108) #[] #[.pointer (some ⟨w.heap.size, 0, none⟩), .pointer (some ⟨w.heap.size + 1, 0, none⟩)])] 175)) := ((Below.refl _ _).alloc (Nat.le_refl _) _).alloc (by simp) _
  have hlt : Hid (R.length = ts.length) := hM.len
  go_enter Tryd.func90, Tryd.ntmps90
  go_wp2_with fail
  generalize ((w.alloc (.cells #[.slice (some ⟨o, 0, none⟩) N N] 22)).alloc (.cells #[(.func (.func 108) #[] #[.pointer (some ⟨w.heap.size, 0, none⟩), .pointer (some ⟨w.heap.size + 1, 0, none⟩)])] 175)) = w2 at *
  obtain ⟨pl, hpl⟩ : ∃ pl, pl = w.heap.size := ⟨_, rfl⟩
  have HPL : Hid (pl = w.heap.size) := hpl
  rw [← hpl] at T2 ⊢
  clear hpl
  generalize pl + 1 = pc at *
  go_loopw [9] (fun ti wr => ∃ k : Nat, k ≤ m ∧ ti = .int .i64 (k : Int) ∧ Tb wr pl pc o N B (bumps A (syms ts k)) ∧ w2.grownBy wr (some o)) (fun ti _ => m - (intOf ti).toNat)
  case atStart => exact ⟨0, Nat.zero_le _, rfl, by simpa [syms, bumps] using T2, World.grownBy.refl _ _⟩
  case round =>
    obtain ⟨k, hk, rfl, hT, hG⟩ := hrel
    by_cases hkm : k < m
    · have hkmi : (k : Int) < (m : Int) := by omega
      obtain ⟨g, off, rfl, x⟩ := hR.at_ k (by have := hm.out; omega)
      have hgo : g ≠ o := hb _ rfl
      have hkeep : ∀ q, q ≠ o → q < w.heap.size → wr.heap[q]? = w.heap[q]? := fun q h1 h2 => by rw [hG.block q (Nat.lt_of_lt_of_le h2 B2.size) (by intro e; simp at e; exact h1 e), B2.block q h2]
      have x2 := x.of_block (hkeep g hgo x.lt)
      have m2 := Mn.keep (w' := wr) (fun q hq => hkeep q hq.1 hq.2) d _ _ (hM.mn k (by have := hm.out; omega))
      have HSY : Hid (syms ts (k + 1) = syms ts k ++ (ts.getD k it0).2) := syms_snoc ts k (by have := hm.out; have := hlt.out; omega)
      have hpre : ∀ q, q ≤ m → ∃ r, syms ts m = syms ts q ++ r := by
        intro q hq
        refine ⟨((ts.take m).drop q).flatMap (·.2), ?_⟩
        unfold syms
        rw [← List.flatMap_append]
        congr 1
        have : (ts.take m).take q = ts.take q := by rw [List.take_take, Nat.min_eq_left hq]
        rw [← this, List.take_append_drop]
      have hs1 : ∀ s ∈ (ts.getD k it0).2, s < N := by
        intro s h1
        obtain ⟨r, hr⟩ := hpre (k + 1) (by omega)
        exact hs s (by rw [hr, HSY.out]; exact List.mem_append.2 (.inl (List.mem_append.2 (.inr h1))))
      have hl1 : (syms ts k).length + (ts.getD k it0).2.length ≤ 4611686018427387904 := by
        obtain ⟨r, hr⟩ := hpre (k + 1) (by omega)
        rw [hr, HSY.out] at hlen
        simp only [List.length_append] at hlen
        omega
      have hs0 : ∀ s ∈ syms ts k, s < A.length := by
        intro s h1
        obtain ⟨r, hr⟩ := hpre k hk
        rw [hA.out]
        exact hs s (by rw [hr]; simp [h1])
      have hbb : ∀ i, 0 ≤ (bumps A (syms ts k)).getD i 0 ∧ (bumps A (syms ts k)).getD i 0 + (ts.getD k it0).2.length ≤ 4611686018427387904 := fun i => by
        rw [bumps_get _ _ _ hs0, hA0 i]
        have : (syms ts k).count i ≤ (syms ts k).length := List.count_le_length
        omega
      have HC : Hid (∀ W, Below wr.heap.size wr W → Calls Tryd.prog 108 #[.pointer (some ⟨g, off + k * 4, none⟩), .pointer (some ⟨pl, 0, none⟩), .pointer (some ⟨pc, 0, none⟩)] W fun e w' => e = .returned (.tuple #[]) ∧ Tb w' pl pc o N B (bumps A (syms ts (k + 1))) ∧ wr.grownBy w' (some o)) := fun W hW => by
        have hg : wr.grownBy W (some o) := grown_old hW _
        have hsz : w.heap.size ≤ wr.heap.size := Nat.le_trans B2.size hG.size
        refine (count_any pl pc o N B w.heap.size (Gq o w) (fun q hq => hq) hN d g (off + k * 4) _ (ts.getD k it0) (bumps A (syms ts k)) W (Nat.le_trans hsz hW.size) (Mn.keep (fun q hq => hW.block q (Nat.lt_of_lt_of_le hq.2 hsz)) d _ _ m2) (x2.of_block (hW.block g x2.lt)) hgo (hT.set hg (own_below hT.own hW)) (by rw [bumps_len]; exact hA.out) hs1 hbb).mono ?_
        rintro e w' ⟨r1, r2, r3⟩
        exact ⟨r1, by rw [HSY.out, bumps_app]; exact r2, grownBy_trans hg r3⟩
      have pcc : wr.cell? ⟨pc, 0, none⟩ = some (.func (.func 108) #[] #[.pointer (some ⟨pl, 0, none⟩), .pointer (some ⟨pc, 0, none⟩)]) := by simp [World.cell?, hT.cc]
      have HK : Hid (∀ W, wr.grownBy W (some o) → W.cell? ⟨pc, 0, none⟩ = some (.func (.func 108) #[] #[.pointer (some ⟨pl, 0, none⟩), .pointer (some ⟨pc, 0, none⟩)])) := fun W hW => (World.cell?_of_block (a := ⟨pc, 0, none⟩) (hW.block pc (Array.getElem?_eq_some_iff.1 hT.cc).1 (by intro e; simp at e; exact hT.ne2 e))).trans pcc
      have d0 : Below wr.heap.size wr wr := Below.refl _ _
      have d1 : Below wr.heap.size wr wr.drew := (Below.refl _ _).drew
      clear hT x x2 m2 hkeep hpre hs1 hl1 hs0 hbb
      go_wp2_with fail
      go_region_held3 (fun w' => w'.cell? ⟨pc, 0, none⟩ = some (.func (.func 108) #[] #[.pointer (some ⟨pl, 0, none⟩), .pointer (some ⟨pc, 0, none⟩)]))
        (first | go_keep | (exact HK.out _ (by assumption)))
        (first | (go_at_call 108; refine (HC.out _ (by assumption)).mono ?_; rintro e w3 ⟨rfl, T3, g3⟩))
      clear HC HK pcc d0 d1
      go_wp2
      go_roundw
      case rel => exact ⟨k + 1, by omega, by go_num, T3, grownBy_trans hG g3⟩
      case measure => simp [intOf]; omega
    · obtain rfl : k = m := by omega
      go_wp2
      go_end0
      exact ⟨rfl, hT.own, grownBy_trans (grown_old (HPL.out ▸ B2) _) hG⟩
end Go.Proofs.YtoeabfcnfofbiaaDoor
