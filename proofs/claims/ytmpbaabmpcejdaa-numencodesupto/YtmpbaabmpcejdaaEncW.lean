import Derived.Test.YtmpbaabmpcejdaaProg
import Derived.Test.YtmpbaabmpcejdaaEncR
import Derived.Test.YtmpbaabmpcejdaaLives
import Derived.Test.YtmpbaabmpcejdaaOwnUse
import Derived.Test.YtmpbaabmpcejdaaSame
namespace Go.Proofs.Ytmpbaabmpcejdaa
open Go.RowKit
set_option linter.unusedVariables false

theorem info_u64 : (Try.prog.info? 23).map (fun i => (i.zero, i.size, i.bytes)) = some (some (.int .u64 0), 1, 8) := by kernel_rfl
theorem seg_sevens (w : World) : Seg64 (w.alloc (.cells #[.int .u64 7, .int .u64 7] 23)) (some ⟨w.heap.size, 0, none⟩) [7, 7] := by
  refine ⟨fun i hi => ⟨w.heap.size, 0, rfl, ?_⟩, by decide, ?_⟩
  · simp only [List.length_cons, List.length_nil] at hi
    match i, hi with
    | 0, _ => simp
    | 1, _ => simp
  · exact getD_bd (by decide) (by intro z hz; simp at hz; omega)

theorem encode_row (a : Option Addr) (zs : List Int) (n cap : Nat) (w : World) (hs : Seg64 w a zs) (hn : zs.length = n) (hl : n ≤ 8796093022208) :
    Calls Try.prog 18 #[.slice a n cap] w fun e w' => ∃ b c, e = .returned (.slice b (encA zs).length c) ∧ Row 5 w' w.heap.size (.slice b (encA zs).length c) (encA zs) ∧ Below w.heap.size w w' := by
  subst hn
  refine (encode_any a zs cap w hs hl).mono ?_
  rintro e w' ⟨v, rfl, h1, h2⟩
  obtain ⟨b, c, rfl, _⟩ := row_shape (eT := 5) h1
  exact ⟨b, c, rfl, h1, h2⟩
theorem rencode_row (a : Option Addr) (zs : List Int) (cap : Nat) (w : World) (hs : Seg64 w a zs) (hl : zs.length ≤ 8796093022208) :
    Calls Try.prog 19 #[.slice a zs.length cap] w fun e w' => ∃ b c, e = .returned (.slice b (encA zs).length c) ∧ Row 5 w' w.heap.size (.slice b (encA zs).length c) (encA zs) ∧ Below w.heap.size w w' := by
  refine (rencode_any a zs cap w hs hl).mono ?_
  rintro e w' ⟨v, rfl, h1, h2⟩
  obtain ⟨b, c, rfl, _⟩ := row_shape (eT := 5) h1
  exact ⟨b, c, rfl, h1, h2⟩

set_option maxHeartbeats 2000000 in
theorem numEncodes_walk (w : World) (a : Option Addr) (zs : List Int) (cap : Nat) (hs : Seg64 w a zs) (hcap : zs.length ≤ cap) (hnil : a = none → cap = 0) (hl : zs.length ≤ 1048576)
    (a' : Option Addr) (us : List Int) (cap' : Nat) (hs' : Seg64 w a' us) (hcap' : us.length ≤ cap') (hnil' : a' = none → cap' = 0) (hl' : us.length ≤ 1048576) :
    Calls Try.prog 5 #[.slice a zs.length cap, .slice a' us.length cap'] w fun e w' => e = .returned (.bool true) ∧ Below w.heap.size w w' := by
  obtain ⟨i0, hi, hz0, hz1, hz2⟩ := info_parts info_u64
  have hm0 : (w.alloc (.cells #[] 23)).ownsRow w.heap.size 23 1 (.slice (some ⟨w.heap.size, 0, none⟩) 0 0) 0 [] := World.ownsRow_made w #[] 0 (Nat.le_refl _) (by decide) rfl
  have hb0 : Below w.heap.size w (w.alloc (.cells #[] 23)) := (Below.refl _ _).alloc (Nat.le_refl _) _
  go_enter Try.func5, Try.ntmps5
  go_wp2_with (first
    | (at_builtin; refine wpList_append_seg rfl (.tmp 12) (.tmp 13) 39 rfl w.heap.size 23 i0 (.int .u64 0) 8 Try.underlying39 hi hz0 hz1 hz2 rfl hm0 (hs.alloc _) hnil rfl rfl (by omega) (by omega) (by simp) ?_; intro v1 w1 hown1 hg1 hb1)
    | (at_builtin; refine wpList_append_seg rfl (.tmp 14) (.tmp 15) 39 rfl w.heap.size 23 i0 (.int .u64 0) 8 Try.underlying39 hi hz0 hz1 hz2 rfl (hown1.alloc _) (seg_sevens w1) (by intro h; cases h) rfl rfl (by simp; omega) (by simp; omega) (by have := hb1.size; simp at this ⊢; omega) ?_; intro v2 w2 hown2 hg2 hb2; obtain ⟨g, gc, hv2, hc2, hg, hgs⟩ := own_shape hown2 (by simp); rw [hv2]; have hcc : (zs.length : Int) ≤ (gc : Int) := by simp at hc2; omega))
  have hs1 := hb1.size
  have hb2' : Below w.heap.size w w2 := hb0.trans (hb1.trans (((Below.refl _ _).alloc (by simp at hs1; omega) _).trans hb2))
  have hG : w2.ownsRow w.heap.size 23 1 (.slice (some ⟨g, 0, none⟩) (zs.length + 2) gc) (zs.length + 2) ((zs ++ [7, 7]).map (Value.int .u64)) := by
    have := hown2
    rw [hv2] at this
    simp only [List.nil_append, Nat.zero_add, ← List.map_append] at this
    exact this
  have hbdz : ∀ z ∈ zs ++ [7, 7], 0 ≤ z ∧ z ≤ (18446744073709551615 : Int) := by
    intro z hz
    rw [List.mem_append] at hz
    rcases hz with hz | hz
    · exact hs.mem z hz
    · simp at hz; omega
  have hsG : Seg64 w2 (some ⟨g, 0, none⟩) (zs ++ [7, 7]) := by
    obtain ⟨_, a2, c2, hv, hseg, _⟩ := own_seg hG (M := 18446744073709551615) (by decide) hbdz
    cases hv
    exact hseg
  have hsg : Seg64 w2 (some ⟨g, 0, none⟩) zs := by have := hsG.take zs.length; rwa [List.take_left] at this
  have hz2' := hb2'.size
  have hs2 := hs.old hb2'
  have hs2' := hs'.old hb2'
  clear hown2 hown1 hg1 hg2 hb1 hb2 hv2 hm0 hb0 hs hs' hcc hs1 hG
  refine (encode_row _ zs _ gc _ hsg rfl (by omega)).mono ?_
  rintro e w3 ⟨aa, ca, rfl, ra, hb3⟩
  have hz3 := hb3.size
  have hs3 := hs2.old hb3
  have hsG3 := hsG.old hb3
  go_wp2_with fail
  refine (encode_row _ zs _ cap _ hs3 rfl (by omega)).mono ?_
  rintro e w4 ⟨ab, cb, rfl, rb, hb4⟩
  have hz4 := hb4.size
  have hs4 := hs3.old hb4
  have hs4' := (hs2'.old hb3).old hb4
  go_wp2_with fail
  refine (encode_row _ us _ cap' _ hs4' rfl (by omega)).mono ?_
  rintro e w5 ⟨ac, cc, rfl, rc, hb5⟩
  have hz5 := hb5.size
  have hs5 := hs4.old hb5
  have hs5' := hs4'.old hb5
  go_wp2_with fail
  refine (rencode_row _ zs cap _ hs5 (by omega)).mono ?_
  rintro e w6 ⟨aw, cw, rfl, rw6, hb6⟩
  have hz6 := hb6.size
  have hs6 := hs5.old hb6
  have hs6' := hs5'.old hb6
  have ra6 := row_below (row_below (row_below ra hb4) hb5) hb6
  have rb6 := row_below (row_below rb hb5) hb6
  have rc6 := row_below rc hb6
  have hbA := encA_bd zs hs5.mem
  have hbU := encA_bd us hs5'.mem
  have hlA := (encA_len zs).2
  have hlU := (encA_len us).2
  have HSZ : Hid (∀ W, Seg64 W a zs → Calls Try.prog 20 #[.slice a zs.length cap] W fun e w' => e = .returned (.int .i64 (encA zs).length) ∧ w' = W) := fun W h => size_any a zs cap W h (by omega)
  generalize encA zs = A at *
  go_wp2_with fail
  refine (same_any aa aw A A ca cw _ (row_seg ra6 hbA).1 (row_seg rw6 hbA).1).mono ?_
  rintro e w7 ⟨rfl, hw7⟩
  subst w7
  go_wp2_with fail
  refine (same_any ab aw A A cb cw _ (row_seg rb6 hbA).1 (row_seg rw6 hbA).1).mono ?_
  rintro e w7 ⟨rfl, hw7⟩
  subst w7
  go_wp2_with fail
  refine (rencode_row _ us cap' _ hs6' (by omega)).mono ?_
  rintro e w7 ⟨av, cv, rfl, rv, hb7⟩
  generalize encA us = U at *
  have hz7 := hb7.size
  have ra7 := row_below ra6 hb7
  have rb7 := row_below rb6 hb7
  have rc7 := row_below rc6 hb7
  have hs7 := hs6.old hb7
  have hsG7 := (((hsG3.old hb4).old hb5).old hb6).old hb7
  clear ra6 rb6 rc6
  go_wp2_with fail
  refine (same_any ac av _ _ cc cv _ (row_seg rc7 hbU).1 (row_seg rv hbU).1).mono ?_
  rintro e w8 ⟨rfl, hw8⟩
  subst w8
  go_wp2_with fail
  refine (HSZ.out _ hs7).mono ?_
  rintro e w8 ⟨rfl, hw8⟩
  subst w8
  have c7 : w7.cell? ⟨g, zs.length, none⟩ = some (.int .u64 7) := by
    obtain ⟨b, off, hb, hc⟩ := hsG7.at_ zs.length (by simp)
    cases hb
    simpa [List.getD] using hc
  have hcell : Hid (∀ k, k < zs.length → (∃ b off, a = some ⟨b, off, none⟩ ∧ w7.cell? ⟨b, off + k, none⟩ = some (.int .u64 (zs.getD k 0))) ∧ w7.cell? ⟨g, k, none⟩ = some (.int .u64 (zs.getD k 0))) := by
    intro k hk
    refine ⟨hs7.at_ k hk, ?_⟩
    obtain ⟨b, off, hb, hc⟩ := hsG7.at_ k (by simp; omega)
    cases hb
    rw [Nat.zero_add] at hc
    rw [hc]
    simp only [List.getD, List.getElem?_append_left hk]
  have hap1 : Ap (Value.slice aa A.length ca).ownBlock (Value.slice ab A.length cb).ownBlock := ap_of ra (Nat.le_refl _) rb (Nat.le_refl _)
  have hap2 : Ap (Value.slice aa A.length ca).ownBlock (Value.slice ac U.length cc).ownBlock := ap_of ra hz4 rc (Nat.le_refl _)
  have hap3 : Ap (Value.slice ab A.length cb).ownBlock (Value.slice ac U.length cc).ownBlock := ap_of rb (Nat.le_refl _) rc (Nat.le_refl _)
  have rb7' := row_base rb7 hz3
  have rc7' := row_base rc7 (show w2.heap.size ≤ w4.heap.size by omega)
  have hb27 : Below w2.heap.size w2 w7 := hb3.trans ((hb4.mono hz3).trans ((hb5.mono (by omega)).trans ((hb6.mono (by omega)).trans (hb7.mono (by omega)))))
  clear ra rb rc rw6 rv rb7 rc7 hs7 hsG7 hs2 hs2' hs3 hsG3 hs4 hs4' hs5 hs5' hs6 hs6' hsg hsG HSZ hbA hbU hb3 hb4 hb5 hb6 hb7
  go_wp2
  go_loop [62] (fun t => ∃ k : Nat, k ≤ zs.length ∧ t = .int .i64 k) (fun t => zs.length - (intOf t).toNat)
  case atStart => exact ⟨0, Nat.zero_le _, rfl⟩
  case round =>
    obtain ⟨k, hk, rfl⟩ := hrel
    by_cases hlt : k < zs.length
    · have hlti : (k : Int) < (zs.length : Int) := by omega
      obtain ⟨⟨b, off, rfl, hc1⟩, hc2⟩ := hcell.out k hlt
      generalize zs.getD k 0 = x at *
      go_wp2
      go_round
      case rel => exact ⟨k + 1, by omega, by go_num⟩
      case measure => simp [intOf]; omega
    · obtain rfl : k = zs.length := by omega
      clear hk hlt
      go_wp2_with fail
      refine (own_three w2.heap.size _ _ _ A A U w7 ra7 rb7' rc7' hap1 hap2 hap3 (by omega) (by omega) (by omega) (by omega)).mono ?_
      rintro e w8 ⟨rfl, hb8⟩
      have hz8 := hb8.size
      go_wp2_with fail
      refine (lives_any _).mono ?_
      rintro e w9 ⟨rfl, hb9⟩
      go_wp2
      go_ret
      exact ⟨rfl, hb2'.trans ((hb27.mono hz2').trans ((hb8.mono hz2').trans (hb9.mono (by omega))))⟩
end Go.Proofs.Ytmpbaabmpcejdaa
