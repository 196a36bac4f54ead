
import Derived.Test.YtkpfailmmcelcaaFd2
import Derived.Test.YtkpfailmmcelcaaFd3
namespace Go.Proofs.Ytkpfailmmcelcaa
open Go.RowKit
set_option linter.unusedVariables false

/-! The law's helpers of layer 14 in a form for every world that grew from here. -/
/-- A text that is lent. -/
structure Lt14 (w : World) (g c n : Nat) (p : List Int) : Prop where
  seg : Seg w (some ⟨g, 0, none⟩) (lentB14 p)
  cap : n + 3 ≤ c
  len : p.length = n
theorem Lt14.old {w w' : World} {g c n : Nat} {p : List Int} (h : Lt14 w g c n p) (hb : Below w.heap.size w w') : Lt14 w' g c n p := ⟨h.seg.old hb, h.cap, h.len⟩
theorem Lt14.txt {w : World} {g c n : Nat} {p : List Int} (h : Lt14 w g c n p) : Seg w (some ⟨g, 0, none⟩) p := by
  have := h.seg.take p.length
  rwa [lentB14_take] at this
theorem lendW14 {w : World} {a : Option Addr} {p : List Int} {n cap : Nat} (hs : Seg w a p) (hn : Hid (p.length = n)) (hnil : a = none → cap = 0) (hl : n ≤ 140737488351232) {W : World} (hb : Below w.heap.size w W) :
    Calls Try.prog 7 #[.slice a n cap] W fun e w' => ∃ g c, e = .returned (.slice (some ⟨g, 0, none⟩) (n + 3) c) ∧ Lt14 w' g c n p ∧ Below w.heap.size w w' ∧ Below W.heap.size W w' :=
  (lend14 a p n cap W (hs.old hb) hn hnil hl).mono fun e w' ⟨g, c, he, hseg, hc, hB⟩ => ⟨g, c, he, ⟨hseg, hc, hn.out⟩, hb.trans (hB.mono hb.size), hB⟩
theorem keptW14 {w : World} {a : Option Addr} {p : List Int} {n cap : Nat} (hs : Seg w a p) (hn : Hid (p.length = n)) (hnil : a = none → cap = 0) (hl : n ≤ 140737488351232) {W : World} (hb : Below w.heap.size w W) {g c : Nat} (hL : Lt14 W g c n p) :
    Calls Try.prog 11 #[.slice (some ⟨g, 0, none⟩) (n + 3) c, .slice a n cap] W fun e w' => e = .returned (.bool true) ∧ Below w.heap.size w w' ∧ Below W.heap.size W w' :=
  (kept14 (some ⟨g, 0, none⟩) a p n c cap W hL.seg (hs.old hb) hn hnil hl).mono fun e w' ⟨he, hB⟩ => ⟨he, hb.trans (hB.mono hb.size), hB⟩
theorem awkW14 {w W : World} (hb : Below w.heap.size w W) : Calls Try.prog 6 #[] W fun e w' => e = .returned (.bool true) ∧ Below w.heap.size w w' :=
  (pawk14 W).mono fun e w' ⟨he, hB⟩ => ⟨he, hb.trans (hB.mono hb.size)⟩
end Go.Proofs.Ytkpfailmmcelcaa
