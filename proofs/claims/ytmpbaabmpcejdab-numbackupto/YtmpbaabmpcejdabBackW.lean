import Derived.Test.YtmpbaabmpcejdabProg
import Derived.Test.YtmpbaabmpcejdabBackMath
import Derived.Test.YtmpbaabmpcejdabLives
import Derived.Test.YtmpbaabmpcejdabUnfix
namespace Go.Proofs.Ytmpbaabmpcejdab
open Go.RowKit
set_option linter.unusedVariables false

theorem info_u8b : (Try.prog.info? 5).map (fun i => (i.zero, i.size, i.bytes)) = some (some (.int .u8 0), 1, 1) := by kernel_rfl
theorem decode_is (a : Option Addr) (zs : List Int) (n cap : Nat) (v m e : Int) (w : World) (hs : Seg w a zs) (hn : zs.length = n) (hl : n ≤ 140737488355328) (hd : decL 0 0 zs = (v, m, e)) :
    Calls Try.prog 11 #[.slice a n cap] w fun x w' => x = .returned (.tuple #[.int .u64 v, .int .i64 m, .int .i64 e]) ∧ Below w.heap.size w w' := by
  subst hn
  have := decode_any a zs cap w hs hl
  rw [hd] at this
  exact this
theorem size_one (v : Int) (w : World) (h0 : 0 ≤ v) (h1 : v ≤ 18446744073709551615) :
    Calls Try.prog 12 #[.slice (some ⟨w.heap.size, 0, none⟩) 1 1] (w.alloc (.cells #[.int .u64 v] 23)) fun e w' => e = .returned (.int .i64 (encI v).length) ∧ w' = w.alloc (.cells #[.int .u64 v] 23) := by
  have := size_any (some ⟨w.heap.size, 0, none⟩) [v] 1 (w.alloc (.cells #[.int .u64 v] 23)) (seg64_one w v h0 h1) (by simp)
  rw [encA_one] at this
  exact this

set_option maxRecDepth 100000 in
set_option maxHeartbeats 4000000 in
theorem numBack_walk (w : World) (a : Option Addr) (zs : List Int) (cap : Nat) (hs : Seg64 w a zs) (hcap : zs.length ≤ cap) (hnil : a = none → cap = 0) (hl : zs.length ≤ 1048576)
    (a' : Option Addr) (us : List Int) (cap' : Nat) (hs' : Seg w a' us) (hcap' : us.length ≤ cap') (hnil' : a' = none → cap' = 0) (hl' : us.length ≤ 1048576) :
    Calls Try.prog 4 #[.slice a zs.length cap, .slice a' us.length cap'] w fun e w' => e = .returned (.bool true) ∧ Below w.heap.size w w' := by
  obtain ⟨i0, hi, hz0, hz1, hz2⟩ := info_parts info_u8b
  have hlA := encA_len zs
  have hbA := encA_bd zs hs.mem
  go_enter Try.func4, Try.ntmps4
  go_wp2_with fail
  refine (encode_any a zs cap _ hs (by omega)).mono ?_
  rintro e w1 ⟨v1, rfl, hown1, hb1⟩
  have hz1' := hb1.size
  have hs1' := hs'.old hb1
  go_wp2_with (at_builtin; refine wpList_append_seg rfl _ _ 26 rfl w.heap.size 5 i0 (.int .u8 0) 1 Try.underlying26 hi hz0 hz1 hz2 rfl hown1 hs1' hnil' rfl rfl (by omega) (by omega) (by omega) ?_; intro v2 w2 hown2 hg2 hb2)
  have hb02 : Below w.heap.size w w2 := hb1.trans hb2
  have hs2 := hs.old hb02
  have hs2' := hs'.old hb02
  have hz2' := hb02.size
  rw [← List.map_append] at hown2
  have hbd : ∀ z ∈ encA zs ++ us, 0 ≤ z ∧ z ≤ (255 : Int) := by
    intro z hz
    rw [List.mem_append] at hz
    rcases hz with hz | hz
    · exact hbA z hz
    · exact hs'.mem z hz
  obtain ⟨hn2, a2, c2, rfl, hseg2, hblk2, hc2, _⟩ := own_seg hown2 (M := 255) (by decide) hbd
  have HB2 : Hid (∀ x, a2 = some x → x.off = 0) := fun x hx => (hblk2 x hx).1
  clear hblk2
  have HN2 : Hid ((encA zs).length + us.length = (encA zs ++ us).length) := hn2
  clear hn2 hown1 hown2 hg2 hb1 hb2 hs1' hs hs' hbd
  go_loopw [6, 23] (fun t i wr => ∃ k : Nat, k ≤ zs.length ∧ i = .int .i64 k ∧ t = .int .i64 (encA (zs.take k)).length ∧ Below w2.heap.size w2 wr) (fun _ i _ => zs.length - (intOf i).toNat)
  case atStart => exact ⟨0, Nat.zero_le _, rfl, rfl, Below.refl _ _⟩
  case round =>
    obtain ⟨k, hk, rfl, rfl, hb⟩ := hrel
    have hsr := hs2.old hb
    have hsr' := hs2'.old hb
    have hsegr := hseg2.old hb
    have hszr := hb.size
    by_cases hlt : k < zs.length
    · have hlti : (k : Int) < (zs.length : Int) := by omega
      obtain ⟨b, off, rfl, hcell⟩ := hsr.at_ k hlt
      have hx := hs2.bd k
      have hP := encA_take_lt zs k hlt
      have hI := encI_len (zs.getD k 0)
      obtain ⟨g, off2, ha2, _⟩ := hsegr.at_ 0 (by rw [← HN2.out]; omega)
      obtain rfl : off2 = 0 := HB2.out _ ha2
      subst ha2
      have hdr := hsegr.drop (encA (zs.take k)).length
      have HD : Hid (decL 0 0 ((encA zs ++ us).drop (encA (zs.take k)).length) = (zs.getD k 0, ((encI (zs.getD k 0)).length : Int), 0)) := by
        rw [encA_drop zs k hlt us]
        exact dec_encI _ _ hx.1 hx.2
      have hdl : ((encA zs ++ us).drop (encA (zs.take k)).length).length = (encA zs).length + us.length - (encA (zs.take k)).length := by rw [List.length_drop, ← HN2.out]
      have HT : Hid (encA (zs.take (k + 1)) = encA (zs.take k) ++ encI (zs.getD k 0)) := encA_take zs k hlt
      have hsize := fun (W : World) => size_one (zs.getD k 0) W hx.1 hx.2
      have HS := hsize
      have hcap8 : zs.getD k 0 / 2 ^ (8 * 8) = 0 := by
        have : (2 : Int) ^ (8 * 8) = 18446744073709551616 := by decide
        rw [this]; omega
      have HLT : Hid ((encA (zs.take (k + 1))).length = (encA (zs.take k)).length + (encI (zs.getD k 0)).length) := by show List.length _ = _; rw [HT.out, List.length_append]
      generalize (encA zs ++ us).drop (encA (zs.take k)).length = D at *
      generalize (encA (zs.take k)).length = P at *
      generalize zs.getD k 0 = x at *
      clear HS HT hcap8
      rw [Nat.zero_add] at hdr
      have h64 : Hid (x / 2 ^ (8 * 8) = 0) := by
        have : (2 : Int) ^ (8 * 8) = 18446744073709551616 := by decide
        show _ / _ = _
        rw [this]; omega
      go_wp2_with fail
      refine (decode_is _ D _ _ _ _ _ _ hdr hdl (by omega) HD.out).mono ?_
      rintro e w3 ⟨rfl, hb3⟩
      have hz3 := hb3.size
      go_wp2_with fail
      refine (hsize _).mono ?_
      rintro e w4 ⟨rfl, hw4⟩
      subst w4
      have hb4 : Below w2.heap.size w2 (w3.alloc (.cells #[.int .u64 x] 23)) := (hb.trans (hb3.mono hszr)).alloc (by omega) _
      clear hsize hsr hsr' hsegr hdr HD hdl hcell hb hb3
      go_wp2
      go_loopw [12] (fun t wr => ∃ s : Nat, 1 ≤ s ∧ s ≤ 9 ∧ t = .int .i64 s ∧ Below w2.heap.size w2 wr) (fun t _ => 9 - (intOf t).toNat)
      case atStart => exact ⟨1, by omega, by omega, rfl, hb4⟩
      case round =>
        clear hb4
        obtain ⟨s, hs1, hs9, rfl, hb⟩ := hrel
        have hszr := hb.size
        by_cases hs8 : s ≤ 8
        · by_cases hr : x / 2 ^ (8 * s) = 0
          · have hul := unf_fix s x hr
            have hfl := fixL_len s x
            have hfb := fixL_bd s x
            have HF : Hid (∀ (W : World), Calls Try.prog 13 #[.int .u64 x, .int .i64 s] W fun e w' => e = .returned (.tuple #[.slice (some ⟨W.heap.size, 0, none⟩) s s, .int .i64 0]) ∧ w'.ownsRow W.heap.size 5 1 (.slice (some ⟨W.heap.size, 0, none⟩) s s) s ((fixL s x).map (Value.int .u8)) ∧ Below W.heap.size W w') := fun W => fixed_ok x s W (by omega) hs8 hx.1 hx.2 hr
            have HU : Hid (∀ (W : World) (b : Option Addr) (n c : Nat), Seg W b (fixL s x ++ us) → (fixL s x ++ us).length = n → n ≤ c → Calls Try.prog 14 #[.slice b n c, .int .i64 s] W fun e w' => e = .returned (.tuple #[.int .u64 x, .int .i64 0]) ∧ w' = W) := by
              intro W b n c hsW hn hc
              subst hn
              have h1 := unfix_ok b (fixL s x ++ us) c s W hsW hc (by simp [hfl]; omega) hs1 hs8 (by simp [hfl])
              rw [List.take_append_of_le_length (by omega), List.take_of_length_le (by omega), hul] at h1
              exact h1
            have hbdx : Hid (∀ z ∈ fixL s x ++ us, 0 ≤ z ∧ z ≤ (255 : Int)) := by
              intro z hz
              rw [List.mem_append] at hz
              rcases hz with hz | hz
              · exact hfb z hz
              · exact hs2'.mem z hz
            have hlen : Hid ((fixL s x ++ us).length = s + us.length) := by show List.length _ = _; rw [List.length_append, hfl]
            clear hul hfl hfb
            by_cases h8 : s < 8
            all_goals
              go_wp2_with fail
              refine (HF.out _).mono ?_
              rintro e w5 ⟨rfl, hown5, hb5⟩
              have hz5 := hb5.size
              have hown5' := own_base hown5 hszr
              have hs5 := (hs2'.old hb).old hb5
              have hb25 := hb.trans (hb5.mono hszr)
              clear hown5
              go_wp2_with (at_builtin; refine wpList_append_seg rfl _ _ 26 rfl w2.heap.size 5 i0 (.int .u8 0) 1 Try.underlying26 hi hz0 hz1 hz2 rfl hown5' hs5 hnil' rfl rfl (by omega) (by omega) (by omega) ?_; intro v6 w6 hown6 hg6 hb6)
              rw [← List.map_append] at hown6
              obtain ⟨hn6, a6, c6, rfl, hseg6, _, hc6, _⟩ := own_seg hown6 (M := 255) (by decide) hbdx.out
              clear hn6 hown6 hg6
              refine (HU.out _ a6 _ c6 hseg6 hlen.out hc6).mono ?_
              rintro e w7 ⟨rfl, hw7⟩
              subst w7
              go_wp2
              go_roundw
              case rel => exact ⟨s + 1, by omega, by omega, by go_num, hb25.trans hb6⟩
              case measure => simp [intOf]; omega
          · have h8 : s < 8 := by
              by_cases e : s = 8
              · subst e; exact absurd h64.out hr
              · omega
            have hpos : 0 < x / 2 ^ (8 * s) := by
              have hp : (0 : Int) < 2 ^ (8 * s) := Int.pow_pos (by decide)
              have := Int.ediv_nonneg hx.1 (Int.le_of_lt hp)
              omega
            have HF : Hid (∀ (W : World), Calls Try.prog 13 #[.int .u64 x, .int .i64 s] W fun e w' => e = .returned (.tuple #[.slice none 0 0, .int .i64 10]) ∧ w' = W) := fun W => fixed_long x s W (by omega) hs8 hx.1 hx.2 hr
            clear hr
            go_wp2_with fail
            refine (HF.out _).mono ?_
            rintro e w5 ⟨rfl, hw5⟩
            subst w5
            go_wp2
            go_roundw
            case rel => exact ⟨s + 1, by omega, by omega, by go_num, hb⟩
            case measure => simp [intOf]; omega
        · obtain rfl : s = 9 := by omega
          clear hs1 hs9 hs8
          go_wp2
          go_roundw
          case rel => exact ⟨k + 1, by omega, by go_num, by rw [HLT.out]; go_num, hb⟩
          case measure => simp [intOf]; omega
    · obtain rfl : k = zs.length := by omega
      have HT : Hid (zs.take zs.length = zs) := List.take_length
      clear hk hlt hsegr hsr'
      rw [HT.out]
      go_wp2_with fail
      refine (size_any a zs cap _ hsr (by omega)).mono ?_
      rintro e w5 ⟨rfl, hw5⟩
      subst w5
      go_wp2_with fail
      refine (lives_any _).mono ?_
      rintro e w6 ⟨rfl, hb6⟩
      go_wp2
      go_ret
      exact ⟨rfl, hb02.trans ((hb.mono hz2').trans (hb6.mono (by omega)))⟩
end Go.Proofs.Ytmpbaabmpcejdab
