
import Derived.Test.YtoeabfcnfofbiaaDoorCdG
import Derived.Test.YtoeabfcnfofbiaaDoorBtBytes
import Derived.Deep.SlicePairs
namespace Go.Proofs.YtoeabfcnfofbiaaDoor
open Go.RowKit
set_option linter.unusedVariables false

set_option maxRecDepth 100000 in
set_option maxHeartbeats 400000 in
theorem clone5_any (a : Option Addr) (zs : List Int) (n cap : Nat) (hn : Hid (zs.length = n)) (w : World) (hs : SegZ w a zs) (hnil : a = none → cap = 0) (hl : n ≤ 100000) :
    Calls Tryd.prog 71 #[.slice a n cap] w fun e w' => ∃ a' c', e = .returned (.slice a' n c') ∧ w'.ownsRow w.heap.size 3 1 (.slice a' n c') n (zs.map (Value.int .i64)) ∧ Below w.heap.size w w' := by
  obtain ⟨i0, hi, hz0, hz1, hz2⟩ := info_parts info_int
  have hm0 : (w.alloc (.cells #[] 3)).ownsRow w.heap.size 3 1 (.slice (some ⟨w.heap.size, 0, none⟩) 0 0) 0 [] := World.ownsRow_made w #[] 0 (Nat.le_refl _) (by decide) rfl
  have hb0 : Below w.heap.size w (w.alloc (.cells #[] 3)) := (Below.refl _ _).alloc (Nat.le_refl _) _
  have hln := hn.out
  subst hln
  cases a with
  | none =>
    have hz : zs = [] := by
      cases zs with
      | nil => rfl
      | cons z r => obtain ⟨b, off, hx, _⟩ := hs.at_ 0 (by simp); cases hx
    subst hz
    have hc := hnil rfl
    subst hc
    clear hm0 hb0
    have heq := Lib.run_eql_slice_nil (P := Tryd.prog) w 22 3 none 0 0 0 0 Tryd.underlying22
    go_enter Tryd.func71, Tryd.ntmps71
    go_wp2
    go_ret
    exact ⟨none, 0, rfl, World.ownsRow_nil _ _ _ _, Below.refl _ _⟩
  | some ad =>
    have heq := Lib.run_eql_slice_nil (P := Tryd.prog) w 22 3 (some ad) zs.length cap 0 0 Tryd.underlying22
    go_enter Tryd.func71, Tryd.ntmps71
    go_wp2_with (at_builtin; refine wpList_appZ rfl (.tmp 5) (.tmp 6) 22 rfl w.heap.size 3 i0 (.int .i64 0) 8 Tryd.underlying22 hi hz0 hz1 hz2 rfl hm0 (hs.alloc _) (by intro h; cases h) rfl rfl (by omega) (by omega) (by simp) ?_; intro b2 c2 w2 hown2 hg2 hfr2 hnl2)
    go_ret
    have hb2 : Below w.heap.size w w2 := hb0.trans ((Below.refl _ _).grown hg2 (by simp) (by intro k e; cases e; exact Nat.le_refl _))
    rw [Nat.zero_add, List.nil_append] at hown2
    exact ⟨b2, c2, by simp, hown2, hb2⟩

/-- An encoder of these lengths, all of it below block N. -/
structure En (w : World) (b N : Nat) (zs : List Int) : Prop where
  ok : errC zs = 0
  lt : b < N
  row : ∃ la lc ca cc, w.heap[b]? = some (.cells #[.bool true, .slice la zs.length lc, .slice ca zs.length cc] 137 (0, 0)) ∧ SegZ w la zs ∧ SegZ w ca (cds zs) ∧ (∀ x, la = some x → x.block < N) ∧ (∀ x, ca = some x → x.block < N)
theorem En.old {w w' : World} {b N : Nat} {zs : List Int} (h : En w b N zs) (hb : Below N w w') : En w' b N zs := by
  obtain ⟨la, lc, ca, cc, h1, h2, h3, h4, h5⟩ := h.row
  refine ⟨h.ok, h.lt, la, lc, ca, cc, (hb.block b h.lt).trans h1, ?_, ?_, h4, h5⟩
  · exact h2.of_cells fun b' off i v _ ha hc => by
      have := h4 _ ha
      exact (hb.cell (p := ⟨b', off + i, none⟩) this).trans hc
  · exact h3.of_cells fun b' off i v _ ha hc => by
      have := h5 _ ha
      exact (hb.cell (p := ⟨b', off + i, none⟩) this).trans hc
theorem own_blk {w : World} {base n cap : Nat} {e : TypeId} {b : Option Addr} {xs : List Value} (h : w.ownsRow base e 1 (.slice b n cap) n xs) : ∀ x, b = some x → base ≤ x.block ∧ x.block < w.heap.size := by
  rcases h.2 with ⟨h1, h2⟩ | ⟨g, cp, cur, h1, h2, h3, h4, _⟩
  · simp only [Value.slice.injEq] at h1
    obtain ⟨rfl, _, rfl⟩ := h1
    intro x h
    cases h
  · simp only [Value.slice.injEq] at h1
    obtain ⟨rfl, _, rfl⟩ := h1
    intro x h
    cases h
    exact ⟨h2, (Array.getElem?_eq_some_iff.1 h3).1⟩
theorem cd_small {zs : List Int} (h : errC zs = 0) {s : Nat} (hs : s < zs.length) : cd zs s < 2 ^ ln zs s ∧ ln zs s ≤ 15 ∧ cd zs s < 32768 := by
  have hL := (errS_zero (errC_zero h).1).2
  have hp : spc zs ≤ 32768 := by
    have h1 := (errC_zero h).2
    unfold errR at h1
    by_cases c : 32768 < spc zs
    · rw [if_pos c] at h1; cases h1
    · omega
  have h1 := cd_lt hL hp hs
  have h2 := (hL.ln s).2
  have h3 : 2 ^ ln zs s ≤ 2 ^ 15 := Nat.pow_le_pow_right (by decide) h2
  exact ⟨h1, h2, Nat.lt_of_lt_of_le h1 h3⟩
theorem cds_bd {zs : List Int} (h : errC zs = 0) : ∀ z ∈ cds zs, -9223372036854775808 ≤ z ∧ z ≤ 9223372036854775807 := by
  intro z hz
  unfold cds at hz
  obtain ⟨s, hs, rfl⟩ := List.mem_map.1 hz
  rw [List.mem_range] at hs
  have := (cd_small h hs).2.2
  omega

def EncQ (w : World) (zs : List Int) (e : Ending) (w' : World) : Prop := (errC zs = 0 → ∃ b, e = .returned (.tuple #[.pointer (some ⟨b, 0, none⟩), .int .i64 0]) ∧ w.heap.size ≤ b ∧ En w' b w'.heap.size zs) ∧ (errC zs ≠ 0 → e = .returned (.tuple #[.pointer none, .int .i64 (errC zs)])) ∧ Below w.heap.size w w'
set_option maxRecDepth 100000 in
set_option maxHeartbeats 1000000 in
theorem newEnc_any (a : Option Addr) (zs : List Int) (n cap : Nat) (hn : Hid (zs.length = n)) (w : World) (hs : SegZ w a zs) (hnil : a = none → cap = 0) (hl : n ≤ 9223372036854775807) :
    Calls Tryd.prog 44 #[.slice a n cap] w fun e w' => EncQ w zs e w' := by
  have HC := codes_any a zs n cap hn w hs hl
  by_cases hok : errC zs = 0
  · have HOK : Hid (errC zs = 0) := hok
    have HL := errS_zero (errC_zero hok).1
    have hn288 : n ≤ 288 := by have := hn.out; have := HL.1; omega
    clear hok HL
    have HCL : Hid (∀ W, Below w.heap.size w W → Calls Tryd.prog 71 #[.slice a n cap] W fun e w' => ∃ a' c', e = .returned (.slice a' n c') ∧ w'.ownsRow W.heap.size 3 1 (.slice a' n c') n (zs.map (Value.int .i64)) ∧ Below W.heap.size W w') := fun W hW => clone5_any a zs n cap hn W (hs.old hW) hnil (by omega)
    have e1 : Hid (cdsR zs = cds zs) := by show _ = _; unfold cdsR; rw [if_pos HOK.out]
    have e3 : Hid ((cds zs).length = n) := by show _ = _; rw [cds_len]; exact hn.out
    go_enter Tryd.func44, Tryd.ntmps44
    go_wp2_with fail
    refine HC.mono ?_
    rintro e W1 ⟨b1, c1, rfl, O1, B1⟩
    rw [e1.out, e3.out] at O1
    rw [e1.out, e3.out, HOK.out]
    go_wp2_with fail
    refine (HCL.out _ B1).mono ?_
    rintro e W2 ⟨a2, c2, rfl, O2, B2⟩
    have B12 : Below w.heap.size w W2 := B1.trans (B2.mono B1.size)
    have O1b := own_below O1 B2
    go_wp2_with fail
    go_ret2
    have hbl := own_blk O2
    have hbl1 := own_blk O1b
    have hzb : ∀ z ∈ zs, -9223372036854775808 ≤ z ∧ z ≤ 9223372036854775807 := hs.mem
    refine ⟨fun _ => ⟨W2.heap.size, rfl, B12.size, HOK.out, by simp, a2, c2, b1, c1, ?_, ?_, ?_, ?_, ?_⟩, fun h => absurd HOK.out h, B12.alloc B12.size _⟩
    · rw [hn.out]; exact heap_alloc_new W2 _
    · exact (own_segZ O2 hzb).alloc _
    · exact (own_segZ O1b (cds_bd HOK.out)).alloc _
    · intro x hx
      have := hbl x hx
      simp
      omega
    · intro x hx
      have := hbl1 x hx
      simp
      omega
  · have HNK : Hid (¬ errC zs = 0) := hok
    have key : ∀ E : Int, E = 50 ∨ E = 51 ∨ E = 52 → errC zs = E → Calls Tryd.prog 44 #[.slice a n cap] w fun e w' => EncQ w zs e w' := by
      intro E hE hEE
      have HEE : Hid (errC zs = E) := hEE
      clear hEE hok
      rcases hE with rfl | rfl | rfl
      all_goals
        go_enter Tryd.func44, Tryd.ntmps44
        go_wp2_with fail
        refine HC.mono ?_
        rintro e W1 ⟨b1, c1, rfl, O1, B1⟩
        rw [HEE.out]
        clear O1
        go_wp2_with fail
        go_ret2
        exact ⟨fun h => absurd h HNK.out, fun _ => by rw [HEE.out]; rfl, B1⟩
    rcases errC_cases zs with h | h | h | h
    · exact absurd h hok
    · exact key 50 (.inl rfl) h
    · exact key 51 (.inr (.inl rfl)) h
    · exact key 52 (.inr (.inr rfl)) h
end Go.Proofs.YtoeabfcnfofbiaaDoor
