import Derived.Test.YtmfpdchfofffeaaGreatDoorCu6
import Derived.Test.YtmfpdchfofffeaaGreatDoorEd8
namespace Go.Proofs.YtmfpdchfofffeaaGreatDoor
open Go.RowKit Go.Shelf
set_option linter.unusedVariables false
theorem info_win17 : (Tryz.prog.info? 87).map (fun i => (i.zero, i.size, i.bytes)) = some (some (.agg #[.int .i64 0, .slice none 0 0, .slice none 0 0, .slice none 0 0]), 4, 80) := by kernel_rfl
/-- Where a window's three lists lie. -/
abbrev Wv17 := Value × Value × Value
def Ft17 (v : Wv17) (k : Nat) : Prop := v.1.ownBlock = some k ∨ v.2.1.ownBlock = some k ∨ v.2.2.ownBlock = some k
structure Wn17 (base : Nat) (v : Wv17) (s : Pt17) (w : World) : Prop where
  oS : w.ownsRow base 108 3 v.1 s.S.length (flat16 s.S)
  oD : w.ownsRow base 5 1 v.2.1 s.D.length (s.D.map (Value.int .u8))
  oX : w.ownsRow base 5 1 v.2.2 s.X.length (s.X.map (Value.int .u8))
  sd : ∀ g, v.1.ownBlock = some g → v.2.1.ownBlock ≠ some g
  sx : ∀ g, v.1.ownBlock = some g → v.2.2.ownBlock ≠ some g
  dx : ∀ g, v.2.1.ownBlock = some g → v.2.2.ownBlock ≠ some g
theorem Wn17.kp {base : Nat} {v : Wv17} {s : Pt17} {w w' : World} {E : Nat → Prop} (h : Wn17 base v s w) (hk : Kp E w w') (hE : ∀ k, Ft17 v k → ¬ E k) : Wn17 base v s w' :=
  ⟨own_kp16 h.oS hk (fun x e => hE x (.inl e)), own_kp h.oD hk (fun x e => hE x (.inr (.inl e))), own_kp h.oX hk (fun x e => hE x (.inr (.inr e))), h.sd, h.sx, h.dx⟩
theorem Wn17.lt {base : Nat} {v : Wv17} {s : Pt17} {w : World} (h : Wn17 base v s w) : ∀ k, Ft17 v k → base ≤ k ∧ k < w.heap.size := by
  rintro k (e | e | e)
  · exact h.oS.lt k e
  · exact h.oD.lt k e
  · exact h.oX.lt k e
theorem Pr17.win {base bw : Nat} {vS vD vX : Value} {s : Pt17} {w : World} (h : Pr17 base bw vS vD vX s w) : Wn17 base (vS, vD, vX) s w := ⟨h.oS, h.oD, h.oX, h.sd, h.sx, h.dx⟩
/-- A list of windows: where the lists lie, what they are. -/
abbrev Wp17 := Wv17 × Pt17
def fw17 (l : List Wp17) : List Value := l.flatMap fun p => [.int .i64 p.2.pos, p.1.1, p.1.2.1, p.1.2.2]
theorem fw17_app (l r : List Wp17) : fw17 (l ++ r) = fw17 l ++ fw17 r := by unfold fw17; rw [List.flatMap_append]
structure Wl17 (base : Nat) (vO : Value) (l : List Wp17) (w : World) : Prop where
  own : w.ownsRow base 87 4 vO l.length (fw17 l)
  win : ∀ p ∈ l, Wn17 base p.1 p.2 w
  apO : ∀ p ∈ l, ∀ k, Ft17 p.1 k → vO.ownBlock ≠ some k
  ap : l.Pairwise fun p q => ∀ k, Ft17 p.1 k → ¬ Ft17 q.1 k
def Lf17 (vO : Value) (l : List Wp17) (k : Nat) : Prop := vO.ownBlock = some k ∨ ∃ p ∈ l, Ft17 p.1 k
theorem Wl17.kp {base : Nat} {vO : Value} {l : List Wp17} {w w' : World} {E : Nat → Prop} (h : Wl17 base vO l w) (hk : Kp E w w') (hE : ∀ k, Lf17 vO l k → ¬ E k) : Wl17 base vO l w' :=
  ⟨own_kp16 h.own hk (fun x e => hE x (.inl e)), fun p hp => (h.win p hp).kp hk (fun k x => hE k (.inr ⟨p, hp, x⟩)), h.apO, h.ap⟩
theorem Wl17.lt {base : Nat} {vO : Value} {l : List Wp17} {w : World} (h : Wl17 base vO l w) : ∀ k, Lf17 vO l k → base ≤ k ∧ k < w.heap.size := by
  rintro k (e | ⟨p, hp, e⟩)
  · exact h.own.lt k e
  · exact (h.win p hp).lt k e
/-- A window appended: the run. -/
theorem appw17 (V : World) {base : Nat} {v : Value} {n : Nat} {xs : List Value} (pos : Int) (a b c : Value) (ha : ∃ p n k, a = .slice p n k) (hb : ∃ p n k, b = .slice p n k) (hc : ∃ p n k, c = .slice p n k) (hown : V.ownsRow base 87 4 v n xs) (hn : n + 1 ≤ 1099511627776) (hbase : base ≤ V.heap.size) :
    ∃ g rc w', (Builtin.append_ #[52, 52] 52 #[v, .slice (some ⟨V.heap.size, 0, none⟩) 1 1]).run Tryz.prog (V.alloc (.cells #[.int .i64 pos, a, b, c] 87)) = .ok (.slice (some ⟨g, 0, none⟩) (n + 1) rc) w' ∧
      w'.ownsRow base 87 4 (.slice (some ⟨g, 0, none⟩) (n + 1) rc) (n + 1) (xs ++ [.int .i64 pos, a, b, c]) ∧ Kp (fun k => v.ownBlock = some k) V w' ∧ (v.ownBlock = some g ∨ V.heap.size ≤ g) := by
  obtain ⟨i0, hi, hz0, hz1, hz2⟩ := info_parts info_win17
  obtain ⟨pa, na, ka, rfl⟩ := ha
  obtain ⟨pb, nb, kb, rfl⟩ := hb
  obtain ⟨pc, nc, kc, rfl⟩ := hc
  obtain ⟨g, rc, w', hr, h1, h2, h3, h4⟩ := run_append_lies (P := Tryz.prog) (V.alloc (.cells #[.int .i64 pos, .slice pa na ka, .slice pb nb kb, .slice pc nc kc] 87)) 52 52 base 87 i0 _ 4 80 Tryz.underlying52 hi hz0 hz1 hz2 rfl (by omega) v n xs (hown.alloc _) ⟨V.heap.size, 0, none⟩ 1 1 [.int .i64 pos, .slice pa na ka, .slice pb nb kb, .slice pc nc kc] rfl
    (World.news_of_block (heap_alloc_new V (.cells #[.int .i64 pos, .slice pa na ka, .slice pb nb kb, .slice pc nc kc] 87 (0, 0)))) (by intro u hu; simp at hu; rcases hu with rfl | rfl | rfl | rfl <;> rfl) (by omega) (by unfold maxLen; omega) (by omega) (by simp; omega) (V.heap.size + 1) (by simp)
  refine ⟨g, rc, w', hr, h1, (Kp.alloc V _).trans (Kp.grown (S := fun k => v.ownBlock = some k) h2 (fun i e => e)) (fun _ _ e => e), ?_⟩
  rcases h3 with h | h
  · exact .inl h
  · exact .inr (by omega)
set_option maxRecDepth 100000 in
theorem pisw17 (x : Int) (w : World) : Calls Tryz.prog 56 #[.int .i64 x] w fun e w' => e = .returned (.bool (decide (64 ≤ x ∧ x ≤ 65536))) ∧ w' = w := by
  by_cases h1 : 64 ≤ x
  · by_cases h2 : x ≤ 65536
    · rw [decide_eq_true ⟨h1, h2⟩]
      go_enter Tryz.func56, Tryz.ntmps56
      go_wp2
      go_ret
      exact ⟨rfl, rfl⟩
    · rw [decide_eq_false (by omega)]
      go_enter Tryz.func56, Tryz.ntmps56
      go_wp2
      go_ret
      exact ⟨rfl, rfl⟩
  · rw [decide_eq_false (by omega)]
    go_enter Tryz.func56, Tryz.ntmps56
    go_wp2
    go_ret
    exact ⟨rfl, rfl⟩
set_option maxRecDepth 100000 in
theorem plen17 (sa : Option Addr) (n sc : Nat) (da : Option Addr) (m dc : Nat) (xa : Option Addr) (k xc : Nat) (hm : m ≤ 1152921504606846976) (hk : k ≤ 1152921504606846976) (w : World) : Calls Tryz.prog 58 #[ev16 sa n sc da m dc xa k xc] w fun e w' => e = .returned (.int .i64 ((m + k : Nat) : Int)) ∧ Below w.heap.size w w' := by
  have hw : IntKind.i64.wrap ((m : Int) + (k : Int)) = ((m + k : Nat) : Int) := by rw [IntWalk.i64_in _ (by omega)]; omega
  obtain ⟨z, hz⟩ : ∃ z, z = m + k := ⟨_, rfl⟩
  rw [← hz] at hw ⊢
  clear hz
  unfold ev16
  go_enter Tryz.func58, Tryz.ntmps58
  go_wp2
  go_ret
  exact ⟨rfl, below_box16 _ _⟩
end Go.Proofs.YtmfpdchfofffeaaGreatDoor
