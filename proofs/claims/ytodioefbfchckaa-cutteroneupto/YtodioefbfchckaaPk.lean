import Derived.Test.YtodioefbfchckaaPd
import Derived.Test.YtodioefbfchckaaPj
import Derived.Test.YtodioefbfchckaaProg
import Derived.WalkKit
import Derived.WalkSpells
import Derived.WalkLawsBesides
import Derived.Lib.BitFns
import Derived.Laws.BitsAllLaws
namespace Go.Proofs.Ytodioefbfchckaa
open Go.RowKit Go.Shelf
set_option linter.unusedVariables false

/-! Check. -/
def ck16 (old size : Int) (S : List St16) (m k : Nat) : Int :=
  if ¬ (0 ≤ old ∧ old ≤ 16777216 ∧ 0 ≤ size ∧ size ≤ 16777216) then 1 else if it16 S m k ≠ 0 then it16 S m k else if ((m + k : Nat) : Int) ≠ size then 162 else if ob16 S S.length old = true then 161 else 0
set_option maxRecDepth 100000 in
theorem pwit16 (l x : Int) (h1 : l ≤ x) (h2 : x ≤ 16777216) (w : World) : Calls Try.prog 58 #[.int .i64 l, .int .i64 x] w fun e w' => e = .returned (.bool true) ∧ w' = w := by
  go_enter Try.func58, Try.ntmps58
  go_wp2
  go_ret
  exact ⟨rfl, rfl⟩
variable {w : World} {sa da xa : Option Addr} {n sc m dc k xc : Nat} {S : List St16} {D X : List Int}
set_option maxRecDepth 100000 in
set_option maxHeartbeats 8000000 in
theorem pchk16 (old size : Int) (h : Ed16 w sa n S da m D xa k X) :
    Calls Try.prog 36 #[ev16 sa n sc da m dc xa k xc, .int .i64 old, .int .i64 size] w fun e w' => e = .returned (.int .i64 (ck16 old size S m k)) ∧ Below w.heap.size w w' := by
  obtain ⟨wA, hwA⟩ : ∃ wA, wA = w.alloc (.cells #[.slice sa n sc, .slice da m dc, .slice xa k xc] 28) := ⟨_, rfl⟩
  have bA : Below w.heap.size w wA := by rw [hwA]; exact below_box16 _ _
  have CS := psize16 (sc := sc) (dc := dc) (xc := xc) (h.old bA)
  have hn : Hid (S.length = n) := h.hn
  have HWA : Hid (wA = w.alloc (.cells #[.slice sa n sc, .slice da m dc, .slice xa k xc] 28)) := hwA
  have hpA : wA.heap[w.heap.size]? = some (.cells #[.slice sa n sc, .slice da m dc, .slice xa k xc] 28 (0, 0)) := by rw [hwA]; exact heap_alloc_new w _
  obtain ⟨ob, hob⟩ : ∃ ob, ob = w.heap.size := ⟨_, rfl⟩
  have hlt : ob < wA.heap.size := by rw [hwA, hob]; simp
  rw [← hob] at hpA
  have HOB : Hid (ob = w.heap.size) := hob
  have HB : Hid (∀ W, Below wA.heap.size wA W → W.cell? ⟨ob, 0, none⟩ = some (.slice sa n sc)) := fun W hW => three_cell0 ((hW.block ob hlt).trans hpA)
  have c0 := three_cell0 hpA
  have c1 := three_cell1 hpA
  have c2 := three_cell2 hpA
  rw [hwA, hob] at c0 c1 c2
  have CO : it16 S m k = 0 → Hid (∀ W, Below wA.heap.size wA W → Calls Try.prog 60 #[.slice sa n sc, .int .i64 old] W fun e w' => e = .returned (.bool (ob16 S n old)) ∧ Below W.heap.size W w') := fun hi W hW => by
    have hok : Hid (Ok16 S n) := by have := (it16_zero hi).1; rw [hn.out] at this; exact this
    exact pout16 sa n sc S old W ((h.ss.old bA).old hW) hn h.ln hok
  unfold ev16 at CS ⊢
  clear h hwA hob
  by_cases h1 : 0 ≤ old
  · by_cases h2 : old ≤ 16777216
    · by_cases h3 : 0 ≤ size
      · by_cases h4 : size ≤ 16777216
        · have hck : ck16 old size S m k = if it16 S m k ≠ 0 then it16 S m k else if ((m + k : Nat) : Int) ≠ size then 162 else if ob16 S S.length old = true then 161 else 0 := by unfold ck16; rw [if_neg (by omega)]
          have hcc := it16_cases S m k
          by_cases hi : it16 S m k = 0
          · have CO := CO hi
            have hsz : szR16 S m k = .tuple #[.int .i64 ((m + k : Nat) : Int), .int .i64 0] := by unfold szR16 sz16; rw [hi]; rfl
            rw [hsz] at CS
            rw [if_neg (by simpa using hi), hn.out] at hck
            clear hsz hcc hi
            by_cases h5 : ((m + k : Nat) : Int) = size
            · rw [if_neg (by simpa using h5)] at hck
              subst h5
              generalize m + k = mk at *
              cases ho : ob16 S n old
              · rw [ho] at CO hck
                have HC : Hid (ck16 old (mk : Int) S m k = 0) := hck
                rw [HC.out]
                clear hck ho
                go_enter Try.func36, Try.ntmps36
                go_wp2_with (first
                  | (go_at_call 58; refine (pwit16 _ _ (by assumption) (by assumption) _).mono ?_; rintro e9 w9 ⟨rfl, h9⟩; subst w9)
                  | (go_at_call 59; rw [← HWA.out]; refine CS.mono ?_; rintro e1 w1 ⟨rfl, B1⟩; have x1 := HB.out w1 B1; rw [HOB.out] at x1; clear CS)
                  | (go_at_call 60; refine (CO.out w1 B1).mono ?_; rintro e2 w2 ⟨rfl, B2⟩; clear CO))
                go_ret
                exact ⟨rfl, (bA.trans (B1.mono bA.size)).trans (B2.mono (bA.trans (B1.mono bA.size)).size)⟩
              · rw [ho] at CO hck
                have HC : Hid (ck16 old (mk : Int) S m k = 161) := hck
                rw [HC.out]
                clear hck ho
                go_enter Try.func36, Try.ntmps36
                go_wp2_with (first
                  | (go_at_call 58; refine (pwit16 _ _ (by assumption) (by assumption) _).mono ?_; rintro e9 w9 ⟨rfl, h9⟩; subst w9)
                  | (go_at_call 59; rw [← HWA.out]; refine CS.mono ?_; rintro e1 w1 ⟨rfl, B1⟩; have x1 := HB.out w1 B1; rw [HOB.out] at x1; clear CS)
                  | (go_at_call 60; refine (CO.out w1 B1).mono ?_; rintro e2 w2 ⟨rfl, B2⟩; clear CO))
                go_ret
                exact ⟨rfl, (bA.trans (B1.mono bA.size)).trans (B2.mono (bA.trans (B1.mono bA.size)).size)⟩
            · rw [if_pos h5] at hck
              rw [hck]
              have hne : (((m + k : Nat) : Int) != size) = true := by simpa using h5
              clear hck CO
              generalize m + k = mk at *
              go_enter Try.func36, Try.ntmps36
              go_wp2_with (first
                | (go_at_call 58; refine (pwit16 _ _ (by assumption) (by assumption) _).mono ?_; rintro e9 w9 ⟨rfl, h9⟩; subst w9)
                | (go_at_call 59; rw [← HWA.out]; refine CS.mono ?_; rintro e1 w1 ⟨rfl, B1⟩; clear CS))
              go_ret
              exact ⟨rfl, bA.trans (B1.mono bA.size)⟩
          · have hsz : szR16 S m k = .tuple #[.int .i64 0, .int .i64 (it16 S m k)] := by unfold szR16 sz16; rw [if_neg hi]; rfl
            rw [hsz] at CS
            rw [if_pos hi] at hck
            rw [hck]
            clear hsz hck CO
            generalize it16 S m k = er at *
            rcases hcc with rfl | rfl | rfl
            · exact absurd rfl hi
            · clear hi
              go_enter Try.func36, Try.ntmps36
              go_wp2_with (first
                | (go_at_call 58; refine (pwit16 _ _ (by assumption) (by assumption) _).mono ?_; rintro e9 w9 ⟨rfl, h9⟩; subst w9)
                | (go_at_call 59; rw [← HWA.out]; refine CS.mono ?_; rintro e1 w1 ⟨rfl, B1⟩; clear CS))
              go_ret
              exact ⟨rfl, bA.trans (B1.mono bA.size)⟩
            · clear hi
              go_enter Try.func36, Try.ntmps36
              go_wp2_with (first
                | (go_at_call 58; refine (pwit16 _ _ (by assumption) (by assumption) _).mono ?_; rintro e9 w9 ⟨rfl, h9⟩; subst w9)
                | (go_at_call 59; rw [← HWA.out]; refine CS.mono ?_; rintro e1 w1 ⟨rfl, B1⟩; clear CS))
              go_ret
              exact ⟨rfl, bA.trans (B1.mono bA.size)⟩
        · rw [show ck16 old size S m k = 1 by unfold ck16; rw [if_pos (by omega)]]
          clear CO CS
          go_enter Try.func36, Try.ntmps36
          go_wp2
          go_ret
          exact ⟨rfl, below_box16 _ _⟩
      · rw [show ck16 old size S m k = 1 by unfold ck16; rw [if_pos (by omega)]]
        clear CO CS
        go_enter Try.func36, Try.ntmps36
        go_wp2
        go_ret
        exact ⟨rfl, below_box16 _ _⟩
    · rw [show ck16 old size S m k = 1 by unfold ck16; rw [if_pos (by omega)]]
      clear CO CS
      go_enter Try.func36, Try.ntmps36
      go_wp2
      go_ret
      exact ⟨rfl, below_box16 _ _⟩
  · rw [show ck16 old size S m k = 1 by unfold ck16; rw [if_pos (by omega)]]
    clear CO CS
    go_enter Try.func36, Try.ntmps36
    go_wp2
    go_ret
    exact ⟨rfl, below_box16 _ _⟩
end Go.Proofs.Ytodioefbfchckaa

namespace Go.Proofs.Ytodioefbfchckaa
open Go.RowKit Go.Shelf
set_option linter.unusedVariables false

/-! Windows in memory. -/
theorem info_win17 : (Try.prog.info? 42).map (fun i => (i.zero, i.size, i.bytes)) = some (some (.agg #[.int .i64 0, .slice none 0 0, .slice none 0 0, .slice none 0 0]), 4, 80) := by kernel_rfl
/-- Where a window's three lists lie. -/
abbrev Wv17 := Value × Value × Value
def Ft17 (v : Wv17) (k : Nat) : Prop := v.1.ownBlock = some k ∨ v.2.1.ownBlock = some k ∨ v.2.2.ownBlock = some k
structure Wn17 (base : Nat) (v : Wv17) (s : Pt17) (w : World) : Prop where
  oS : w.ownsRow base 98 3 v.1 s.S.length (flat16 s.S)
  oD : w.ownsRow base 5 1 v.2.1 s.D.length (s.D.map (Value.int .u8))
  oX : w.ownsRow base 5 1 v.2.2 s.X.length (s.X.map (Value.int .u8))
  sd : ∀ g, v.1.ownBlock = some g → v.2.1.ownBlock ≠ some g
  sx : ∀ g, v.1.ownBlock = some g → v.2.2.ownBlock ≠ some g
  dx : ∀ g, v.2.1.ownBlock = some g → v.2.2.ownBlock ≠ some g
theorem Wn17.kp {base : Nat} {v : Wv17} {s : Pt17} {w w' : World} {E : Nat → Prop} (h : Wn17 base v s w) (hk : Kp E w w') (hE : ∀ k, Ft17 v k → ¬ E k) : Wn17 base v s w' :=
  ⟨own_kp16 h.oS hk (fun x e => hE x (.inl e)), own_kp h.oD hk (fun x e => hE x (.inr (.inl e))), own_kp h.oX hk (fun x e => hE x (.inr (.inr e))), h.sd, h.sx, h.dx⟩
theorem Wn17.lt {base : Nat} {v : Wv17} {s : Pt17} {w : World} (h : Wn17 base v s w) : ∀ k, Ft17 v k → base ≤ k ∧ k < w.heap.size := by
  rintro k (e | e | e)
  · exact h.oS.lt k e
  · exact h.oD.lt k e
  · exact h.oX.lt k e
theorem Pr17.win {base bw : Nat} {vS vD vX : Value} {s : Pt17} {w : World} (h : Pr17 base bw vS vD vX s w) : Wn17 base (vS, vD, vX) s w := ⟨h.oS, h.oD, h.oX, h.sd, h.sx, h.dx⟩
/-- A list of windows: where the lists lie, what they are. -/
abbrev Wp17 := Wv17 × Pt17
def fw17 (l : List Wp17) : List Value := l.flatMap fun p => [.int .i64 p.2.pos, p.1.1, p.1.2.1, p.1.2.2]
theorem fw17_app (l r : List Wp17) : fw17 (l ++ r) = fw17 l ++ fw17 r := by unfold fw17; rw [List.flatMap_append]
theorem fw17_len (l : List Wp17) : (fw17 l).length = l.length * 4 := by
  induction l with
  | nil => rfl
  | cons a l ih =>
    have : fw17 (a :: l) = [.int .i64 a.2.pos, a.1.1, a.1.2.1, a.1.2.2] ++ fw17 l := by unfold fw17; rw [List.flatMap_cons]
    rw [this, List.length_append, ih]; simp; omega
structure Wl17 (base : Nat) (vO : Value) (l : List Wp17) (w : World) : Prop where
  own : w.ownsRow base 42 4 vO l.length (fw17 l)
  win : ∀ p ∈ l, Wn17 base p.1 p.2 w
  apO : ∀ p ∈ l, ∀ k, Ft17 p.1 k → vO.ownBlock ≠ some k
  ap : l.Pairwise fun p q => ∀ k, Ft17 p.1 k → ¬ Ft17 q.1 k
def Lf17 (vO : Value) (l : List Wp17) (k : Nat) : Prop := vO.ownBlock = some k ∨ ∃ p ∈ l, Ft17 p.1 k
theorem Wl17.kp {base : Nat} {vO : Value} {l : List Wp17} {w w' : World} {E : Nat → Prop} (h : Wl17 base vO l w) (hk : Kp E w w') (hE : ∀ k, Lf17 vO l k → ¬ E k) : Wl17 base vO l w' :=
  ⟨own_kp16 h.own hk (fun x e => hE x (.inl e)), fun p hp => (h.win p hp).kp hk (fun k x => hE k (.inr ⟨p, hp, x⟩)), h.apO, h.ap⟩
theorem Wl17.lt {base : Nat} {vO : Value} {l : List Wp17} {w : World} (h : Wl17 base vO l w) : ∀ k, Lf17 vO l k → base ≤ k ∧ k < w.heap.size := by
  rintro k (e | ⟨p, hp, e⟩)
  · exact h.own.lt k e
  · exact (h.win p hp).lt k e
theorem cell17 {w : World} {base n sz : Nat} {e : TypeId} {v : Value} {xs : List Value} (h : w.ownsRow base e sz v n xs) : v.cells = #[v] := by
  obtain ⟨p, c, rfl⟩ := own_sl17 h
  rfl
/-- A window appended: the run. -/
theorem appw17 (V : World) {base : Nat} {v : Value} {n : Nat} {xs : List Value} (pos : Int) (a b c : Value) (ha : ∃ p n k, a = .slice p n k) (hb : ∃ p n k, b = .slice p n k) (hc : ∃ p n k, c = .slice p n k) (hown : V.ownsRow base 42 4 v n xs) (hn : n + 1 ≤ 1099511627776) (hbase : base ≤ V.heap.size) :
    ∃ g rc w', (Builtin.append_ #[30, 30] 30 #[v, .slice (some ⟨V.heap.size, 0, none⟩) 1 1]).run Try.prog (V.alloc (.cells #[.int .i64 pos, a, b, c] 42)) = .ok (.slice (some ⟨g, 0, none⟩) (n + 1) rc) w' ∧
      w'.ownsRow base 42 4 (.slice (some ⟨g, 0, none⟩) (n + 1) rc) (n + 1) (xs ++ [.int .i64 pos, a, b, c]) ∧ Kp (fun k => v.ownBlock = some k) V w' ∧ (v.ownBlock = some g ∨ V.heap.size ≤ g) := by
  obtain ⟨i0, hi, hz0, hz1, hz2⟩ := info_parts info_win17
  obtain ⟨pa, na, ka, rfl⟩ := ha
  obtain ⟨pb, nb, kb, rfl⟩ := hb
  obtain ⟨pc, nc, kc, rfl⟩ := hc
  obtain ⟨g, rc, w', hr, h1, h2, h3, h4⟩ := run_append_lies (P := Try.prog) (V.alloc (.cells #[.int .i64 pos, .slice pa na ka, .slice pb nb kb, .slice pc nc kc] 42)) 30 30 base 42 i0 _ 4 80 Try.underlying30 hi hz0 hz1 hz2 rfl (by omega) v n xs (hown.alloc _) ⟨V.heap.size, 0, none⟩ 1 1 [.int .i64 pos, .slice pa na ka, .slice pb nb kb, .slice pc nc kc] rfl
    (World.news_of_block (heap_alloc_new V (.cells #[.int .i64 pos, .slice pa na ka, .slice pb nb kb, .slice pc nc kc] 42 (0, 0)))) (by intro u hu; simp at hu; rcases hu with rfl | rfl | rfl | rfl <;> rfl) (by omega) (by unfold maxLen; omega) (by omega) (by simp; omega) (V.heap.size + 1) (by simp)
  refine ⟨g, rc, w', hr, h1, (Kp.alloc V _).trans (Kp.grown (S := fun k => v.ownBlock = some k) h2 (fun i e => e)) (fun _ _ e => e), ?_⟩
  rcases h3 with h | h
  · exact .inl h
  · exact .inr (by omega)
/-! isWindowSize, length. -/
set_option maxRecDepth 100000 in
theorem pisw17 (x : Int) (w : World) : Calls Try.prog 35 #[.int .i64 x] w fun e w' => e = .returned (.bool (decide (64 ≤ x ∧ x ≤ 65536))) ∧ w' = w := by
  by_cases h1 : 64 ≤ x
  · by_cases h2 : x ≤ 65536
    · rw [decide_eq_true ⟨h1, h2⟩]
      go_enter Try.func35, Try.ntmps35
      go_wp2
      go_ret
      exact ⟨rfl, rfl⟩
    · rw [decide_eq_false (by omega)]
      go_enter Try.func35, Try.ntmps35
      go_wp2
      go_ret
      exact ⟨rfl, rfl⟩
  · rw [decide_eq_false (by omega)]
    go_enter Try.func35, Try.ntmps35
    go_wp2
    go_ret
    exact ⟨rfl, rfl⟩
set_option maxRecDepth 100000 in
theorem plen17 (sa : Option Addr) (n sc : Nat) (da : Option Addr) (m dc : Nat) (xa : Option Addr) (k xc : Nat) (hm : m ≤ 1152921504606846976) (hk : k ≤ 1152921504606846976) (w : World) : Calls Try.prog 37 #[ev16 sa n sc da m dc xa k xc] w fun e w' => e = .returned (.int .i64 ((m + k : Nat) : Int)) ∧ Below w.heap.size w w' := by
  have hw : IntKind.i64.wrap ((m : Int) + (k : Int)) = ((m + k : Nat) : Int) := by rw [IntWalk.i64_in _ (by omega)]; omega
  obtain ⟨z, hz⟩ : ∃ z, z = m + k := ⟨_, rfl⟩
  rw [← hz] at hw ⊢
  clear hz
  unfold ev16
  go_enter Try.func37, Try.ntmps37
  go_wp2
  go_ret
  exact ⟨rfl, below_box16 _ _⟩
end Go.Proofs.Ytodioefbfchckaa

namespace Go.Proofs.Ytodioefbfchckaa
open Go.RowKit Go.Shelf
set_option linter.unusedVariables false

/-! The law's faces: in the program's types, in new memory. -/
/-- An edit lies in memory, however great. -/
structure Ed17 (w : World) (sa : Option Addr) (n : Nat) (S : List St16) (da : Option Addr) (m : Nat) (D : List Int) (xa : Option Addr) (k : Nat) (X : List Int) : Prop where
  ss : SegS w sa S
  sd : Seg w da D
  sx : Seg w xa X
  hn : S.length = n
  hm : D.length = m
  hk : X.length = k
  ln : n ≤ 5864062014804
  lm : m ≤ 140737488351232
  lk : k ≤ 140737488351232
theorem Ed17.old {w w' : World} {sa da xa : Option Addr} {n m k : Nat} {S : List St16} {D X : List Int} (h : Ed17 w sa n S da m D xa k X) (hb : Below w.heap.size w w') : Ed17 w' sa n S da m D xa k X :=
  ⟨h.ss.old hb, h.sd.old hb, h.sx.old hb, h.hn, h.hm, h.hk, h.ln, h.lm, h.lk⟩
theorem apps17 (V : World) {base : Nat} {v : Value} {n : Nat} {xs : List Value} (y : St16) (hown : V.ownsRow base 98 3 v n xs) (hn : n + 1 ≤ 5864062014805) (hbase : base ≤ V.heap.size) :
    ∃ g rc w', (Builtin.append_ #[26, 26] 26 #[v, .slice (some ⟨V.heap.size, 0, none⟩) 1 1]).run Try.prog (V.alloc (.cells #[.int .i64 y.1, .int .i64 y.2.1, .int .i64 y.2.2] 98)) = .ok (.slice (some ⟨g, 0, none⟩) (n + 1) rc) w' ∧
      w'.ownsRow base 98 3 (.slice (some ⟨g, 0, none⟩) (n + 1) rc) (n + 1) (xs ++ [.int .i64 y.1, .int .i64 y.2.1, .int .i64 y.2.2]) ∧ Kp (fun k => v.ownBlock = some k) V w' ∧ (v.ownBlock = some g ∨ V.heap.size ≤ g) := by
  obtain ⟨i0, hi, hz0, hz1, hz2⟩ := info_parts info_st16
  obtain ⟨g, rc, w', hr, h1, h2, h3, h4⟩ := run_append_lies (P := Try.prog) (V.alloc (.cells #[.int .i64 y.1, .int .i64 y.2.1, .int .i64 y.2.2] 98)) 26 26 base 98 i0 _ 3 24 Try.underlying26 hi hz0 hz1 hz2 rfl (by omega) v n xs (hown.alloc _) ⟨V.heap.size, 0, none⟩ 1 1 [.int .i64 y.1, .int .i64 y.2.1, .int .i64 y.2.2] rfl
    (World.news_of_block (heap_alloc_new V (.cells #[.int .i64 y.1, .int .i64 y.2.1, .int .i64 y.2.2] 98 (0, 0)))) (by intro u hu; simp at hu; rcases hu with rfl | rfl | rfl <;> rfl) (by omega) (by unfold maxLen; omega) (by omega) (by simp; omega) (V.heap.size + 1) (by simp)
  refine ⟨g, rc, w', hr, h1, (Kp.alloc V _).trans (Kp.grown (S := fun k => v.ownBlock = some k) h2 (fun i e => e)) (fun _ _ e => e), ?_⟩
  rcases h3 with h | h
  · exact .inl h
  · exact .inr (by omega)
/-- A copy of bytes. -/
def CpQ17 (w : World) (D : List Int) (e : Ending) (w' : World) : Prop := ∃ v, e = .returned v ∧ w'.ownsRow w.heap.size 5 1 v D.length (D.map (Value.int .u8)) ∧ Below w.heap.size w w'
def FsQ17 (w : World) (S : List St16) (e : Ending) (w' : World) : Prop := ∃ v, e = .returned v ∧ w'.ownsRow w.heap.size 98 3 v S.length (flat16 S) ∧ Below w.heap.size w w'
set_option maxRecDepth 100000 in
set_option maxHeartbeats 4000000 in
theorem pfs17 (a : Option Addr) (n cap : Nat) (S : List St16) (w : World) (hs : SegS w a S) (hn : Hid (S.length = n)) (hl : n ≤ 5864062014804) :
    Calls Try.prog 19 #[.slice a n cap] w (FsQ17 w S) := by
  go_enter Try.func19, Try.ntmps19
  go_wp2_with fail
  go_loopw [3, 8] (fun t3 t8 wr => ∃ i : Nat, i ≤ n ∧ t8 = .int .i64 (i : Int) ∧ wr.ownsRow w.heap.size 98 3 t3 i (flat16 (S.take i)) ∧ Below w.heap.size w wr) (fun _ t8 _ => n - (intOf t8).toNat)
  case atStart => exact ⟨0, by omega, rfl, ⟨by simp [flat16], .inl ⟨rfl, rfl⟩⟩, Below.refl _ _⟩
  case round =>
    obtain ⟨i, hi, rfl, own, BR⟩ := hrel
    by_cases hin : i < n
    · have hii : (i : Int) < (n : Int) := by omega
      have hi0 : (0 : Int) ≤ (i : Int) := by omega
      have hil : i < S.length := by rw [hn.out]; exact hin
      obtain ⟨b, off, rfl, hT⟩ := (hs.old BR).at_ i hil
      have c0 := hT.c0
      have c1 := hT.c1
      have c2 := hT.c2
      have hget : S.getD i z16 = S[i] := by simp [List.getD, hil]
      have HTK : Hid (flat16 (S.take (i + 1)) = flat16 (S.take i) ++ [.int .i64 (S.getD i z16).1, .int .i64 (S.getD i z16).2.1, .int .i64 (S.getD i z16).2.2]) := by
        show _ = _
        rw [List.take_succ_eq_append_getElem hil, flat16_app, hget]; rfl
      clear hget
      generalize S.getD i z16 = s at *
      obtain ⟨A, C, K⟩ := s
      simp only at c0 c1 c2 HTK
      obtain ⟨wB, hwB⟩ : ∃ wB, wB = wr.alloc (.cells #[.int .i64 A, .int .i64 C, .int .i64 K] 77) := ⟨_, rfl⟩
      have cB : Cb16 wr #[.int .i64 A, .int .i64 C, .int .i64 K] 77 wB := by rw [hwB]; exact cb16 _ _ _
      have BB : Below w.heap.size w wB := BR.trans (cB.bl.mono BR.size)
      obtain ⟨p, cc, hv⟩ := own_sl17 own
      obtain ⟨g, rc, w', hr, ow, k1, at1⟩ := apps17 wB (A, C, K) (own_kp16 own (Kp.of_below (S := fun _ => False) cB.bl) (fun _ _ x => x)) (by omega) BB.size
      simp only at hr ow
      rw [cB.sz, hwB] at hr
      have HO : Hid (w'.ownsRow w.heap.size 98 3 (.slice (some ⟨g, 0, none⟩) (i + 1) rc) (i + 1) (flat16 (S.take (i + 1)))) := by rw [HTK.out]; exact ow
      have HB : Hid (Below w.heap.size w w') := BB.trans (k1.below (fun k x => (own.lt k x).1) BB.size)
      subst hv
      clear own ow k1 at1 hT hwB cB BB HTK
      go_wp2_with (first | (at_builtin; refine wpList_app17 rfl (.tmp 12) (.tmp 20) 26 rfl rfl rfl hr ?_))
      go_roundw
      case rel => exact ⟨i + 1, by omega, by simp, HO.out, HB.out⟩
      case measure => simp [intOf]; omega
    · have hk2 : i = n := by omega
      subst hk2
      have hneg : ¬ (i : Int) < (i : Int) := by omega
      obtain ⟨p, cc, hv⟩ := own_sl17 own
      subst hv
      have HO : Hid (wr.ownsRow w.heap.size 98 3 (.slice p i cc) i (flat16 (S.take i))) := own
      clear own
      go_wp2_with fail
      go_ret
      have h1 := HO.out
      have h2 : S.take i = S := by rw [← hn.out, List.take_length]
      rw [h2] at h1
      exact ⟨_, rfl, by rw [hn.out]; exact h1, BR⟩
end Go.Proofs.Ytodioefbfchckaa

namespace Go.Proofs.Ytodioefbfchckaa
open Go.RowKit

/-- A number with a sign as one without. -/
def zigI (v : Int) : Int := if 0 ≤ v then 2 * v else 2 * (-(v + 1)) + 1
/-- And back. -/
def zagI (u : Int) : Int := if u % 2 = 0 then u / 2 else -(u / 2) - 1

theorem zig_bd (v : Int) (h0 : -9223372036854775808 ≤ v) (h1 : v ≤ 9223372036854775807) : 0 ≤ zigI v ∧ zigI v ≤ 18446744073709551615 := by
  unfold zigI; split <;> omega
theorem zag_bd (u : Int) (h0 : 0 ≤ u) (h1 : u ≤ 18446744073709551615) : -9223372036854775808 ≤ zagI u ∧ zagI u ≤ 9223372036854775807 := by
  unfold zagI; split <;> omega
theorem zag_zig (v : Int) : zagI (zigI v) = v := by
  unfold zagI zigI; split <;> split <;> omega
theorem zig_zag (u : Int) (h0 : 0 ≤ u) : zigI (zagI u) = u := by
  unfold zagI zigI; split <;> split <;> omega
theorem ret_int {k : IntKind} {a b : Int} (h : a = b) : Ending.returned (.int k a) = .returned (.int k b) := by rw [h]

set_option maxRecDepth 100000 in
set_option maxHeartbeats 400000 in
theorem zig_any (v : Int) (w : World) (h0 : -9223372036854775808 ≤ v) (h1 : v ≤ 9223372036854775807) :
    Calls Try.prog 49 #[.int .i64 v] w fun e w' => e = .returned (.int .u64 (zigI v)) ∧ w' = w := by
  by_cases h : 0 ≤ v
  · go_enter Try.func49, Try.ntmps49
    go_wp2
    go_ret
    exact ⟨ret_int (by unfold zigI; rw [if_pos h]), rfl⟩
  · go_enter Try.func49, Try.ntmps49
    go_wp2
    go_ret
    exact ⟨ret_int (by unfold zigI; rw [if_neg (by omega)]), rfl⟩

set_option maxRecDepth 100000 in
set_option maxHeartbeats 400000 in
theorem refzig_any (v : Int) (w : World) (h0 : -9223372036854775808 ≤ v) (h1 : v ≤ 9223372036854775807) :
    Calls Try.prog 52 #[.int .i64 v] w fun e w' => e = .returned (.int .u64 (zigI v)) ∧ w' = w := by
  by_cases h : 0 ≤ v
  · go_enter Try.func52, Try.ntmps52
    go_wp2
    go_ret
    exact ⟨ret_int (by unfold zigI; rw [if_pos h]), rfl⟩
  · go_enter Try.func52, Try.ntmps52
    go_wp2
    go_ret
    exact ⟨ret_int (by unfold zigI; rw [if_neg (by omega)]), rfl⟩

set_option maxRecDepth 100000 in
set_option maxHeartbeats 400000 in
theorem zag_any (u : Int) (w : World) (h0 : 0 ≤ u) (h1 : u ≤ 18446744073709551615) :
    Calls Try.prog 53 #[.int .u64 u] w fun e w' => e = .returned (.int .i64 (zagI u)) ∧ w' = w := by
  by_cases h : u % 2 = 0
  · go_enter Try.func53, Try.ntmps53
    go_wp2
    go_ret
    exact ⟨ret_int (by unfold zagI; rw [if_pos h]), rfl⟩
  · go_enter Try.func53, Try.ntmps53
    go_wp2
    go_ret
    exact ⟨ret_int (by unfold zagI; rw [if_neg (by omega)]), rfl⟩

end Go.Proofs.Ytodioefbfchckaa

namespace Go.Proofs.Ytodioefbfchckaa
open Go.RowKit
set_option linter.unusedVariables false

theorem tab_size : (Lib.len8tab.size : Int) = 256 := by rw [Lib.len8tab_size]; rfl
/-- One way's end: the table's number behind so many bits. -/
theorem len_end (k a : Nat) (y : Int) (h : y.toNat < Lib.len8tab.size) (h0 : 0 ≤ y) (h1 : y ≤ 255) (hk : k ≤ 56) (ha : a = k + Lib.bitLen y.toNat) : wrap64 ((k : Int) + wrap64 ((Lib.len8tab[y.toNat]'h).toNat : Int)) = (a : Int) := by
  have e : ((Lib.len8tab[y.toNat]'h).toNat : Int) = Lib.len8 y := by
    unfold Lib.len8
    rw [getElem?_pos Lib.len8tab y.toNat h]
    rfl
  have l := Lib.bitLen_le8' y h0 h1
  rw [e, Lib.len8_of y h0 h1, ha]
  unfold wrap64
  omega
theorem len_end0 (a : Nat) (y : Int) (h : y.toNat < Lib.len8tab.size) (h0 : 0 ≤ y) (h1 : y ≤ 255) (ha : a = Lib.bitLen y.toNat) : wrap64 (wrap64 ((Lib.len8tab[y.toNat]'h).toNat : Int)) = (a : Int) := by
  have := len_end 0 a y h h0 h1 (by omega) (by omega)
  simpa using this

theorem shift_to (x : Int) (d k : Nat) (h0 : 0 ≤ x) (h : Lib.bitLen x.toNat = k + Lib.bitLen (x.toNat / d)) (y : Int) (hy : y.toNat = x.toNat / d) : Lib.bitLen x.toNat = k + Lib.bitLen y.toNat := by rw [hy]; exact h

set_option maxHeartbeats 1000000 in
set_option maxRecDepth 100000 in
theorem len64_any (x : Int) (w : World) (h0 : 0 ≤ x) (h1 : x ≤ 18446744073709551615) :
    Calls Try.prog 74 #[.int .u64 x] w fun e w' => e = .returned (.int .i64 (Lib.bitLen x.toNat)) ∧ w' = w := by
  have hsz := tab_size
  go_enter Try.func74, Try.ntmps74
  go_wp2
  all_goals (go_ret; refine ⟨congrArg Ending.returned (congrArg (Value.int IntKind.i64) ?_), rfl⟩)
  · exact len_end 56 _ _ _ (by omega) (by omega) (by omega) (shift_to x 72057594037927936 56 h0 (Lib.bitLen_shift56 _ (by omega) (by omega)) _ (by omega))
  · exact len_end 48 _ _ _ (by omega) (by omega) (by omega) (shift_to x 281474976710656 48 h0 (Lib.bitLen_shift48 _ (by omega) (by omega)) _ (by omega))
  · exact len_end 40 _ _ _ (by omega) (by omega) (by omega) (shift_to x 1099511627776 40 h0 (Lib.bitLen_shift40 _ (by omega) (by omega)) _ (by omega))
  · exact len_end 32 _ _ _ (by omega) (by omega) (by omega) (shift_to x 4294967296 32 h0 (Lib.bitLen_shift32 _ (by omega) (by omega)) _ (by omega))
  · exact len_end 24 _ _ _ (by omega) (by omega) (by omega) (shift_to x 16777216 24 h0 (Lib.bitLen_shift24 _ (by omega) (by omega)) _ (by omega))
  · exact len_end 16 _ _ _ (by omega) (by omega) (by omega) (shift_to x 65536 16 h0 (Lib.bitLen_shift16 _ (by omega) (by omega)) _ (by omega))
  · exact len_end 8 _ _ _ (by omega) (by omega) (by omega) (shift_to x 256 8 h0 (Lib.bitLen_shift8 _ (by omega) (by omega)) _ (by omega))
  · exact len_end0 _ _ _ (by omega) (by omega) rfl
end Go.Proofs.Ytodioefbfchckaa

namespace Go.Proofs.Ytodioefbfchckaa
open Go.RowKit
set_option linter.unusedVariables false

theorem pow128 (c : Nat) : (128 : Int) ^ c = 2 ^ (7 * c) := by
  rw [Int.pow_mul]; rfl
theorem pow128_pos (c : Nat) : (0 : Int) < 128 ^ c := Int.pow_pos (by decide)
theorem pow128_mono {a b : Nat} (h : a ≤ b) : (128 : Int) ^ a ≤ 128 ^ b := by
  have := Nat.pow_le_pow_right (n := 128) (by decide) h
  have e : ∀ k : Nat, (128 : Int) ^ k = ((128 ^ k : Nat) : Int) := fun k => by simp
  rw [e, e]; omega
theorem pow128_8 : (128 : Int) ^ 8 = 72057594037927936 := by decide
theorem pow128_9 : (128 : Int) ^ 9 = 9223372036854775808 := by decide

theorem and127 (x : Int) (h0 : 0 ≤ x) (h1 : x ≤ 255) : bits .and .u8 x 127 = x % 128 := by
  rw [u8_and x 127 h0 (by omega) (by decide) (by decide)]
  have : Int.toNat 127 = 127 := rfl
  rw [this, nat_mask7]
  omega
theorem and128 (x : Int) (h0 : 0 ≤ x) (h1 : x ≤ 255) : bits .and .u8 x 128 = if 128 ≤ x then 128 else 0 := by
  rw [u8_and x 128 h0 (by omega) (by decide) (by decide)]
  have : Int.toNat 128 = 2 ^ 7 := rfl
  rw [this, nat_bit]
  split <;> omega

/-- The number that a byte's seven bits make a greater one. -/
def tkVal (v : Int) (c : Nat) (x : Int) : Int := v + x % 128 * 128 ^ c

theorem tk_fits (c : Nat) (x : Int) (hc : c ≤ 9) (h0 : 0 ≤ x) (h9 : c = 9 → x ≤ 1) : 0 ≤ x % 128 * 128 ^ c ∧ x % 128 * 128 ^ c + 128 ^ c ≤ 18446744073709551616 := by
  have hp := pow128_pos c
  have hm : 0 ≤ x % 128 := by omega
  refine ⟨Int.mul_nonneg hm (Int.le_of_lt hp), ?_⟩
  by_cases e : c = 9
  · subst e
    have := h9 rfl
    rw [pow128_9]
    omega
  · have h8 : (128 : Int) ^ c ≤ 128 ^ 8 := pow128_mono (by omega)
    rw [pow128_8] at h8
    have h2 : x % 128 * 128 ^ c ≤ 127 * 128 ^ c := Int.mul_le_mul_of_nonneg_right (by omega) (Int.le_of_lt hp)
    omega

theorem tk_or (v : Int) (c : Nat) (x : Int) (hv : 0 ≤ v) (hv1 : v < 128 ^ c) (hc : c ≤ 9) (h0 : 0 ≤ x) (h1 : x ≤ 255) (h9 : c = 9 → x ≤ 1) :
    bits .or .u64 v (IntKind.u64.wrap (IntKind.u64.wrap (bits .and .u8 x 127) * 2 ^ (7 * c))) = tkVal v c x := by
  have hf := tk_fits c x hc h0 h9
  have hp := pow128_pos c
  have e1 : IntKind.u64.wrap (bits .and .u8 x 127) = x % 128 := by
    rw [and127 x h0 h1, IntKind.wrap_u64]; exact Int.emod_eq_of_lt (by omega) (by omega)
  have e2 : IntKind.u64.wrap (x % 128 * 128 ^ c) = x % 128 * 128 ^ c := by
    rw [IntKind.wrap_u64]; exact Int.emod_eq_of_lt hf.1 (by omega)
  rw [e1, ← pow128, e2]
  unfold tkVal
  generalize hy : x % 128 * 128 ^ c = y at *
  have hd : y % 128 ^ c = 0 := by rw [← hy]; exact Int.mul_emod_left _ _
  have hc2 : ((128 : Int) ^ c) = ((2 ^ (7 * c) : Nat) : Int) := by rw [pow128]; simp
  rw [hc2] at hd hv1 hf
  obtain ⟨V, rfl⟩ := Int.eq_ofNat_of_zero_le hv
  obtain ⟨Y, rfl⟩ := Int.eq_ofNat_of_zero_le hf.1
  rw [u64_or_nat V Y (by omega) (by omega), Nat.or_comm, nat_join (7 * c) Y V (by omega) (by omega)]
  omega
end Go.Proofs.Ytodioefbfchckaa

namespace Go.Proofs.Ytodioefbfchckaa
open Go.RowKit
set_option linter.unusedVariables false

/-- A number's shortest form, in at most so many bytes more. -/
def encL : Nat → Int → List Int
  | 0, v => [v]
  | f + 1, v => if 127 < v then (v % 128 + 128) :: encL f (v / 128) else [v]
def encI (v : Int) : List Int := encL 9 v
def encA : List Int → List Int
  | [] => []
  | v :: r => encI v ++ encA r

theorem encA_append (a b : List Int) : encA (a ++ b) = encA a ++ encA b := by
  induction a with
  | nil => rfl
  | cons v r ih => simp [encA, ih]
theorem encA_one (v : Int) : encA [v] = encI v := by simp [encA]
theorem encA_take (zs : List Int) (k : Nat) (h : k < zs.length) : encA (zs.take (k + 1)) = encA (zs.take k) ++ encI (zs.getD k 0) := by
  rw [List.take_succ_eq_append_getElem h, encA_append, encA_one]
  simp [List.getD, h]
theorem encL_len_le : ∀ (f : Nat) (v : Int), 1 ≤ (encL f v).length ∧ (encL f v).length ≤ f + 1
  | 0, v => by simp [encL]
  | f + 1, v => by
    unfold encL
    split
    · have := encL_len_le f (v / 128); simp; omega
    · simp
theorem encI_len (v : Int) : 1 ≤ (encI v).length ∧ (encI v).length ≤ 10 := encL_len_le 9 v
theorem encA_len : ∀ (zs : List Int), zs.length ≤ (encA zs).length ∧ (encA zs).length ≤ 10 * zs.length
  | [] => by simp [encA]
  | v :: r => by
    have := encA_len r
    have := encI_len v
    simp [encA]; omega
theorem encA_take_len (zs : List Int) (k : Nat) : (encA (zs.take k)).length ≤ 10 * k := by
  have := (encA_len (zs.take k)).2
  simp at this
  omega

theorem encL_bd : ∀ (f : Nat) (v : Int), 0 ≤ v → v < 2 * 128 ^ f → ∀ z ∈ encL f v, 0 ≤ z ∧ z ≤ 255
  | 0, v, h0, h1 => by simp [encL]; simp at h1; omega
  | f + 1, v, h0, h1 => by
    have hp := pow128_pos f
    have h2 : v / 128 < 2 * 128 ^ f := by rw [Int.pow_succ] at h1; omega
    have ih := encL_bd f (v / 128) (by omega) h2
    unfold encL
    split
    · intro z hz
      simp at hz
      rcases hz with rfl | hz
      · omega
      · exact ih z hz
    · intro z hz
      simp at hz
      omega
theorem pow9 : (2 : Int) * 128 ^ 9 = 18446744073709551616 := by decide
theorem encI_bd (v : Int) (h0 : 0 ≤ v) (h1 : v ≤ 18446744073709551615) : ∀ z ∈ encI v, 0 ≤ z ∧ z ≤ 255 := encL_bd 9 v h0 (by rw [pow9]; omega)
theorem encA_bd : ∀ (zs : List Int), (∀ v ∈ zs, 0 ≤ v ∧ v ≤ 18446744073709551615) → ∀ z ∈ encA zs, 0 ≤ z ∧ z ≤ 255
  | [], _ => by simp [encA]
  | v :: r, h => by
    intro z hz
    simp [encA] at hz
    rcases hz with hz | hz
    · exact encI_bd v (h v (by simp)).1 (h v (by simp)).2 z hz
    · exact encA_bd r (fun u hu => h u (by simp [hu])) z hz

theorem encL_len : ∀ (n f : Nat) (v : Int), n ≤ f → v < 128 ^ (n + 1) → (n = 0 ∨ 128 ^ n ≤ v) → (encL f v).length = n + 1
  | 0, f, v, hf, h1, _ => by
    cases f with
    | zero => rfl
    | succ f => unfold encL; rw [if_neg (by simp at h1; omega)]; rfl
  | n + 1, 0, v, hf, _, _ => by omega
  | n + 1, f + 1, v, hf, h1, h2 => by
    have h2 : (128 : Int) ^ (n + 1) ≤ v := by rcases h2 with h | h; · omega
                                              · exact h
    have hp := pow128_pos n
    have h3 : (128 : Int) ^ (n + 1) = 128 ^ n * 128 := Int.pow_succ _ _
    have h4 : (128 : Int) ^ (n + 1 + 1) = 128 ^ (n + 1) * 128 := Int.pow_succ _ _
    have hr := encL_len n f (v / 128) (by omega) (by omega) (Or.inr (by omega))
    unfold encL
    rw [if_pos (by omega)]
    simp [hr]

theorem bitLenAux_bd : ∀ (f x : Nat), x < 2 ^ f → x < 2 ^ Lib.bitLenAux f x ∧ (0 < x → 2 ^ Lib.bitLenAux f x ≤ 2 * x)
  | 0, x, h => by simp at h; subst h; simp [Lib.bitLenAux]
  | f + 1, x, h => by
    unfold Lib.bitLenAux
    split
    · rename_i e; subst e; simp
    · rename_i e
      have ih := bitLenAux_bd f (x / 2) (by rw [Nat.pow_succ] at h; omega)
      rw [Nat.add_comm, Nat.pow_succ]
      refine ⟨by omega, fun _ => ?_⟩
      by_cases hx : 0 < x / 2
      · have := ih.2 hx; omega
      · have h1 : x / 2 = 0 := by omega
        rw [h1]
        have : Lib.bitLenAux f 0 = 0 := by cases f <;> simp [Lib.bitLenAux]
        rw [this]; omega

theorem or1 (v : Int) (h0 : 0 ≤ v) (h1 : v ≤ 18446744073709551615) : bits .or .u64 v 1 = v + 1 - v % 2 := by
  rw [u64_or v 1 h0 (by omega) (by decide) (by decide)]
  have e : Int.toNat 1 = 1 := rfl
  rw [e]
  have h2 : v.toNat = 2 * (v.toNat / 2) + v.toNat % 2 := by omega
  have h3 : v.toNat ||| 1 = 2 * (v.toNat / 2) + 1 := by
    apply Nat.eq_of_testBit_eq
    intro i
    cases i with
    | zero => simp
    | succ i =>
      rw [Nat.testBit_or, Nat.testBit_succ, Nat.testBit_succ, Nat.testBit_succ]
      have : (2 * (v.toNat / 2) + 1) / 2 = v.toNat / 2 := by omega
      rw [this]
      simp
  rw [h3]
  omega

/-- The bytes of a number, by its bits. -/
theorem size_len (v : Int) (h0 : 0 ≤ v) (h1 : v ≤ 18446744073709551615) : ((Lib.bitLen (bits .or .u64 v 1).toNat : Int) + 7 - 1) / 7 = ((encI v).length : Int) := by
  rw [or1 v h0 h1]
  have hx : (v + 1 - v % 2).toNat < 2 ^ 64 := by omega
  have hb := bitLenAux_bd 64 (v + 1 - v % 2).toNat hx
  have hle := Lib.bitLen_le _ 64 (by decide) hx
  have hge : 1 ≤ Lib.bitLen (v + 1 - v % 2).toNat := by
    by_cases e : Lib.bitLen (v + 1 - v % 2).toNat = 0
    · have := hb.1
      unfold Lib.bitLen at e
      rw [e] at this
      simp at this; omega
    · omega
  change _ < 2 ^ Lib.bitLen _ ∧ (_ → 2 ^ Lib.bitLen _ ≤ _) at hb
  generalize Lib.bitLen (v + 1 - v % 2).toNat = L at *
  obtain ⟨n, hn⟩ : ∃ n, n = (L - 1) / 7 := ⟨_, rfl⟩
  have hlo : 2 ^ (7 * n) ≤ 2 ^ (L - 1) := Nat.pow_le_pow_right (by decide) (by omega)
  have hhi : 2 ^ L ≤ 2 ^ (7 * (n + 1)) := Nat.pow_le_pow_right (by decide) (by omega)
  have hL : 2 ^ L = 2 ^ (L - 1) * 2 := by rw [← Nat.pow_succ]; congr 1; omega
  have e1 : (128 : Int) ^ (n + 1) = ((2 ^ (7 * (n + 1)) : Nat) : Int) := by rw [pow128]; simp
  have e2 : (128 : Int) ^ n = ((2 ^ (7 * n) : Nat) : Int) := by rw [pow128]; simp
  have hb2 := hb.2 (by omega)
  have key : (encI v).length = n + 1 := by
    refine encL_len n 9 v (by omega) (by rw [e1]; omega) ?_
    by_cases e : n = 0
    · exact Or.inl e
    · refine Or.inr ?_
      have hev : 2 ^ (7 * n) % 2 = 0 := by
        have : 7 * n = (7 * n - 1) + 1 := by omega
        rw [this, Nat.pow_succ]; omega
      rw [e2]; omega
  rw [key]
  omega

theorem enc_byte (u : Int) (h0 : 0 ≤ u) (h1 : u ≤ 18446744073709551615) : bits .and .u64 u 127 = u % 128 := by
  rw [u64_and u 127 h0 (by omega) (by decide) (by decide)]
  have : Int.toNat 127 = 127 := rfl
  rw [this, nat_mask7]
  omega
theorem or128 (x : Int) (h0 : 0 ≤ x) (h1 : x ≤ 127) : bits .or .u8 x 128 = x + 128 := by
  rw [u8_or x 128 h0 (by omega) (by decide) (by decide)]
  have : Int.toNat 128 = 128 := rfl
  rw [this, Nat.or_comm, nat_join 7 128 x.toNat (by decide) (by omega)]
  omega
end Go.Proofs.Ytodioefbfchckaa
