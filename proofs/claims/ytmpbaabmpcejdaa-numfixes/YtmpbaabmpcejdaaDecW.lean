import Derived.Test.YtmpbaabmpcejdaaProg
import Derived.Test.YtmpbaabmpcejdaaLives
import Derived.Test.YtmpbaabmpcejdaaLend
import Derived.Test.YtmpbaabmpcejdaaRead
namespace Go.Proofs.Ytmpbaabmpcejdaa
open Go.RowKit
set_option linter.unusedVariables false

theorem decode_at (a : Option Addr) (zs : List Int) (n cap : Nat) (w : World) (hs : Seg w a zs) (hn : zs.length = n) (hl : n ≤ 140737488355328) :
    Calls Try.prog 21 #[.slice a n cap] w fun e w' => e = .returned (.tuple #[.int .u64 (decL 0 0 zs).1, .int .i64 (decL 0 0 zs).2.1, .int .i64 (decL 0 0 zs).2.2]) ∧ Below w.heap.size w w' := by
  subst hn
  exact decode_any a zs cap w hs hl
theorem kept_at (a b : Option Addr) (xs zs : List Int) (n ca cap : Nat) (w : World) (hx : Seg w b xs) (hn : xs.length = n) (hs : Seg w a zs) (hnil : a = none → cap = 0) (hl : zs.length ≤ 140737488351232) :
    Calls Try.prog 17 #[.slice b n ca, .slice a zs.length cap] w fun e w' => e = .returned (.bool (xs == lentL zs)) ∧ Below w.heap.size w w' := by
  subst hn
  exact kept_any a b xs zs ca cap w hx hs hnil hl
theorem lent_len (zs : List Int) : (lentL zs).length = zs.length + 5 := by simp [lentL]
theorem lent_take (zs : List Int) : (lentL zs).take zs.length = zs := by simp [lentL]

set_option maxHeartbeats 400000 in
theorem numDecodes_walk (w : World) (a : Option Addr) (zs : List Int) (cap : Nat) (hs : Seg w a zs) (hcap : zs.length ≤ cap) (hnil : a = none → cap = 0) (hl : zs.length ≤ 140737488351232) :
    Calls Try.prog 6 #[.slice a zs.length cap] w fun e w' => e = .returned (.bool true) ∧ Below w.heap.size w w' := by
  go_enter Try.func6, Try.ntmps6
  go_wp2_with fail
  refine (lend_any a zs cap _ hs hnil hl).mono ?_
  rintro e w1 ⟨g, cap', rfl, hown, hb1⟩
  obtain ⟨hn, a', c', hv, hseg, hblk, _, _⟩ := own_seg hown (M := 255) (by decide) (lent_bd hs.mem)
  have ha : a' = some ⟨g, 0, none⟩ := by simp at hv; exact hv.1.symm
  subst ha
  clear hv hn hown
  have hz1 := hb1.size
  have hpart : Seg w1 (some ⟨g, 0, none⟩) zs := by have := hseg.take zs.length; rwa [lent_take] at this
  go_wp2_with fail
  refine (decode_any (some ⟨g, 0, none⟩) zs cap' _ hpart (by omega)).mono ?_
  rintro e w2 ⟨rfl, hb2⟩
  have hz2 := hb2.size
  have hs2 := (hs.old hb1).old hb2
  have hseg2 := hseg.old hb2
  go_wp2_with fail
  refine (read_any a zs cap _ hs2 (by omega) hcap).mono ?_
  rintro e w3 ⟨rfl, hw3⟩
  subst w3
  go_wp2_with fail
  refine (kept_at a (some ⟨g, 0, none⟩) (lentL zs) zs _ cap' cap _ hseg2 (lent_len zs) hs2 hnil hl).mono ?_
  rintro e w4 ⟨rfl, hb4⟩
  have hz4 := hb4.size
  go_wp2_with fail
  refine (lives_any _).mono ?_
  rintro e w5 ⟨rfl, hb5⟩
  go_wp2
  go_ret
  exact ⟨by simp, hb1.trans ((hb2.mono hz1).trans ((hb4.mono (by omega)).trans (hb5.mono (by omega))))⟩
end Go.Proofs.Ytmpbaabmpcejdaa
