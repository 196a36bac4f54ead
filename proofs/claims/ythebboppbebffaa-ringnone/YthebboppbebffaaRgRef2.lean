
import Derived.Test.YthebboppbebffaaRgRef
namespace Go.Proofs.Ythebboppbebffaa
open Go.RowKit
set_option linter.unusedVariables false

theorem info_u8r : (Try.prog.info? 5).map (fun i => (i.zero, i.size, i.bytes)) = some (some (.int .u8 0), 1, 1) := by kernel_rfl
theorem own_nilcap6 {w : World} {base n c : Nat} {e : TypeId} {b : Option Addr} {xs : List Value} (h : w.ownsRow base e 1 (.slice b n c) n xs) : b = none → c = 0 := by
  rcases h.2 with ⟨h1, h2⟩ | ⟨g, cp, cur, h1, _⟩
  · simp only [Value.slice.injEq] at h1
    exact fun _ => h1.2.2
  · simp only [Value.slice.injEq] at h1
    intro h
    rw [h] at h1
    cases h1.1
theorem below_own6 {w w' : World} {base n : Nat} {e : TypeId} {v : Value} {xs : List Value} (hown : w.ownsRow base e 1 v n xs) (hg : w.grownBy w' v.ownBlock) (hb : base ≤ w.heap.size) : Below base w w' := (Below.refl _ _).grown hg hb (fun k hk => (hown.lt k hk).1)
set_option maxRecDepth 100000 in
set_option maxHeartbeats 2000000 in
theorem rput6_any (b B S : Nat) (v : Value) (L : List Int) (pa : Option Addr) (p : List Int) (np pc : Nat) (hnp : Hid (p.length = np)) (w : World) (h : RgR w b B S v L) (hs : Seg w pa p) (hnil : pa = none → pc = 0) (hl : L.length + np ≤ 140737488355328) :
    Calls Try.prog 26 #[.pointer (some ⟨b, 0, none⟩), .slice pa np pc] w fun e w' => e = .returned (.tuple #[]) ∧ ∃ v', RgR w' b B S v' (L ++ p) ∧ Kp (fun k => k = b) w w' ∧ ∀ k, v'.ownBlock = some k → w.heap.size ≤ k := by
  obtain ⟨i0, hi, hz0, hz1, hz2⟩ := info_parts info_u8r
  obtain ⟨a, cap, rfl, h⟩ := h
  have hlt := h.b_lt
  have hm0 : (w.alloc (.cells #[] 5)).ownsRow w.heap.size 5 1 (.slice (some ⟨w.heap.size, 0, none⟩) 0 0) 0 [] := World.ownsRow_made w #[] 0 (Nat.le_refl _) (by decide) rfl
  have hb0 : Below w.heap.size w (w.alloc (.cells #[] 5)) := (Below.refl _ _).alloc (Nat.le_refl _) _
  have c1 : (w.alloc (.cells #[] 5)).cell? ⟨b, 1, none⟩ = some (.slice a L.length cap) := (hb0.cell (p := ⟨b, 1, none⟩) hlt).trans (two_cell1 h.hp)
  obtain ⟨_, a', cap', hv, sg, _⟩ := own_seg h.own (M := 255) (by decide) h.bd
  cases hv
  have sg1 : Seg (w.alloc (.cells #[] 5)) a L := sg.alloc _
  have hnl := own_nilcap6 h.own
  have HH : Hid (RgA w b B S a cap L) := h
  obtain ⟨n, hn⟩ : ∃ n, n = L.length := ⟨_, rfl⟩
  have HN : Hid (L.length = n) := hn.symm
  rw [← hn] at c1 hl
  clear hn h sg
  go_enter Try.func26, Try.ntmps26
  go_wp2_with (first
    | (at_builtin; refine wpList_appS rfl (.tmp 5) (.tmp 9) 34 rfl w.heap.size 5 i0 (.int .u8 0) 1 Try.underlying34 hi hz0 hz1 hz2 rfl hm0 sg1 hnl rfl (by rw [HN.out]; rfl) (by rw [HN.out]; omega) (by rw [HN.out]; omega) (by simp) ?_; intro a1 c1' w1 own1 hg1 hf1 hn1; have b1 := hb0.trans (below_own6 hm0 hg1 (by simp)); clear hf1 hn1 hg1; rw [Nat.zero_add, List.nil_append, HN.out] at own1; rw [Nat.zero_add, HN.out]; have sp1 : Seg w1 pa p := hs.old b1)
    | (at_builtin; refine wpList_appS rfl (.tmp 10) (.tmp 11) 34 rfl w.heap.size 5 i0 (.int .u8 0) 1 Try.underlying34 hi hz0 hz1 hz2 rfl own1 sp1 hnil rfl (by rw [hnp.out]; rfl) (by rw [hnp.out]; omega) (by rw [hnp.out]; omega) (by have := b1.size; omega) ?_; intro a2 c2' w2 own2 hg2 hf2 hn2; have b2 := b1.trans (below_own6 own1 hg2 (by have := b1.size; omega)); clear hf2 hn2 hg2; rw [hnp.out] at own2; rw [hnp.out]; have d0 : w2.cell? ⟨b, 1, none⟩ = some (.slice a n cap) := (b2.cell (p := ⟨b, 1, none⟩) hlt).trans (by rw [← HN.out]; exact two_cell1 (show RgA w b B S a cap L from HH.out).hp); have f0 : w2.frozen? ⟨b, 1, none⟩ = false := two_free ((b2.block b hlt).trans (show RgA w b B S a cap L from HH.out).hp) 1))
  go_end0
  have hA : RgA w b B S a cap L := HH.out
  have hlen : (L ++ p).length = n + np := by rw [List.length_append, HN.out, hnp.out]
  have hh2 : w2.heap[b]? = some (.cells #[.int .i64 (S : Int), .slice a L.length cap] 59 (0, 0)) := (b2.block b hlt).trans hA.hp
  have hbb : ∀ k, (Value.slice a2 (n + np) c2').ownBlock = some k → w.heap.size ≤ k := fun k e => (own2.lt k e).1
  refine ⟨rfl, .slice a2 (n + np) c2', ⟨a2, c2', by rw [hlen], ?_, ?_, ?_, ?_, ?_⟩, ?_, hbb⟩
  · rw [hlen]; exact two_set1 hh2 _
  · rw [hlen, List.map_append]
    have := hA.bB
    refine own_kp (own_base own2 hA.bB) (Kp.set (S := fun k => k = b) rfl _) (fun k e e2 => ?_)
    have := hbb k e
    omega
  · rw [hlen]; intro e; have := hbb b e; omega
  · have := hA.bB; have := b2.size; simp; omega
  · intro z hz
    rcases List.mem_append.1 hz with hz | hz
    · exact hA.bd z hz
    · exact hs.mem z hz
  · exact (Kp.of_below b2).trans (S' := fun k => k = b) (Kp.set (S := fun k => k = b) rfl _) (fun _ _ e => e)
end Go.Proofs.Ythebboppbebffaa
