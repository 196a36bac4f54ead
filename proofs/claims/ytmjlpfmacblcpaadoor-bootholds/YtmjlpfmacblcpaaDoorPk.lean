import Derived.Test.YtmjlpfmacblcpaaDoorPj
namespace Go.Proofs.YtmjlpfmacblcpaaDoor
open Go.RowKit Go.Shelf
set_option linter.unusedVariables false
set_option linter.unusedSimpArgs false
def up21 (pa : Int → Int → Option Sh21) (x y : Int) (s : Sh21) : Int → Int → Option Sh21 := fun x' y' => if x' = x ∧ y' = y then some s else pa x' y'
def cu21 (S : Fs21) (kd x y : Int) (nn : Sh21) : Fs21 := { S with lg := S.lg ++ [(kd, x, y)], on := false, lf := 0, tn := [], pa := up21 S.pa x y ⟨la21 S.pg S.tn (sh21 S x y).b, false, nn.wr⟩ }
def go21 (S : Fs21) (kd x y : Int) (nn : Sh21) : Fs21 := { S with lg := S.lg ++ [(kd, x, y)], lf := max 0 (S.lf - 1), pa := up21 S.pa x y nn }
def rn21 (S : Fs21) (kd x y : Int) (nn : Sh21) : Fs21 := if S.lf = 1 then cu21 S kd x y nn else go21 S kd x y nn
def rc21 (S : Fs21) : Int := if S.lf = 1 then 213 else 0
def Fl21 (w : World) (b : Nat) (F : Nat → Prop) (S : Fs21) : Prop := ∃ m c f ta tc la lc V, Fi21 w b m c f ta tc la lc V S ∧ F b ∧ F m ∧ (∀ k, (Value.slice la S.lg.length lc).ownBlock = some k → F k) ∧ (∀ k, V k → F k) ∧ (∀ k, F k → k < w.heap.size)
/-- What a call of a device leaves: the device anew, and all else as it was. -/
def Fn21 (w w' : World) (b : Nat) (F : Nat → Prop) (S' : Fs21) : Prop := ∃ F', Fl21 w' b F' S' ∧ (∀ k, F' k → F k ∨ w.heap.size ≤ k) ∧ Kp F w w'
theorem operwp_app21 {P : Program} {o : Oper} {a : Act} {K : Act → World → Prop} {Q : Exit → Act → World → Prop} {w : World} (s x : Operand) (t : TypeId)
    (ho : o.op = Op.call { callee := Callee.builtin Builtin.append, args := #[s, x], argTypes := #[t, t] }) {u v v' : Value} {w' : World} (hs : a.eval s = u) (hx : a.eval x = v) (hr : (Builtin.append_ #[t, t] o.type #[u, v]).run P w = .ok v' w')
    (h : K (a.put o.dst v') w') : Oper.wp P o a w K Q := by
  unfold Oper.wp execOp
  simp only [ho, resolve, invoke, builtin, Sem.run_bind, Sem.run_pure, Result.andThen_ok, List.map_toArray, List.map_cons, List.map_nil, hs, hx, hr]
  exact h
section
variable {w w' : World} {b m c tc lc : Nat} {f : Int → Int → Option Value} {ta la : Option Addr} {V V' : Nat → Prop} {S S' : Fs21}
theorem Fi21.re (h : Fi21 w b m c f ta tc la lc V S) {ta' : Option Addr} {tc' : Nat} (hk : Kp (fun k => k = b) w w') (e1 : S'.pa = S.pa) (e2 : S'.lg = S.lg) (ht' : Sl21 w V ta' S'.tn tc')
    (hp' : w'.heap[b]? = some (.cells #[.int .i64 (S'.pg : Int), .int .i64 (S'.ps : Int), .int .i64 S'.ac, .bool S'.on, .int .i64 S'.lm, .map (some m), .int .i64 S'.lf, .slice ta' S'.tn.length tc', .slice la S'.lg.length lc] 96 (0, 0))) : Fi21 w' b m c f ta' tc' la lc V S' := by
  have hv : ∀ k, V k → w'.heap[k]? = w.heap[k]? := fun k e => hk.block k (h.vs k e) (fun e' => h.vb (e' ▸ e))
  refine ⟨hp', h.hm.block (hk.block m h.hm.lt (fun e => h.bm e.symm)), fun x y => ?_, ht'.kp hv (fun _ e => e), ?_, by rw [e2]; exact h.hc, h.vb, h.vm, by rw [e2]; exact h.vl, fun k e => Nat.lt_of_lt_of_le (h.vs k e) hk.size⟩
  · rw [e1]
    rcases h.hf x y with h | ⟨s, v, q1, q2, q3⟩
    · exact .inl h
    · exact .inr ⟨s, v, q1, q2, q3.kp hv (fun _ e => e)⟩
  · rw [e2]
    refine ⟨h.hl.1, ?_⟩
    rcases h.hl.2 with q | ⟨g, cap, cur, q1, q2, q3, q4⟩
    · exact .inl q
    · have := h.lo (k := g) (by rw [q1]; rfl)
      exact .inr ⟨g, cap, cur, q1, q2, (hk.block g this.1 this.2.1).trans q3, q4⟩
theorem Fi21.put (h : Fi21 w b m c f ta tc la lc V S) (hk : Kp (fun k => k = m) w w') {f' : Int → Int → Option Value} {x y : Int} {v : Value} {s : Sh21} (hm : Mv21 w' m (c + 1) (fun x' y' => if x' = x ∧ y' = y then some v else f x' y')) (hV : ∀ k, V k → V' k)
    (hv : Sv21 w V' v s) (hc : c + 1 ≤ 8200 + S.lg.length) (vb : ¬ V' b) (vm : ¬ V' m) (vl : ∀ k, (Value.slice la S.lg.length lc).ownBlock = some k → ¬ V' k) (vs : ∀ k, V' k → k < w.heap.size) :
    Fi21 w' b m (c + 1) (fun x' y' => if x' = x ∧ y' = y then some v else f x' y') ta tc la lc V' { S with pa := up21 S.pa x y s } := by
  have hv' : ∀ k, V' k → w'.heap[k]? = w.heap[k]? := fun k e => hk.block k (vs k e) (fun e' => vm (e' ▸ e))
  refine ⟨(hk.block b h.bl (fun e => h.bm e)).trans h.hp, hm, fun x' y' => ?_, h.ht.kp (fun k e => hv' k (hV k e)) hV, ?_, hc, vb, vm, vl, fun k e => Nat.lt_of_lt_of_le (vs k e) hk.size⟩
  · simp only [up21]
    by_cases e : x' = x ∧ y' = y
    · rw [if_pos e, if_pos e]
      exact .inr ⟨s, v, rfl, rfl, hv.kp hv' (fun _ e => e)⟩
    · rw [if_neg e, if_neg e]
      rcases h.hf x' y' with h | ⟨s, v, q1, q2, q3⟩
      · exact .inl h
      · exact .inr ⟨s, v, q1, q2, q3.kp (fun k e => hv' k (hV k e)) hV⟩
  · refine ⟨h.hl.1, ?_⟩
    rcases h.hl.2 with q | ⟨g, cap, cur, q1, q2, q3, q4⟩
    · exact .inl q
    · have := h.lo (k := g) (by rw [q1]; rfl)
      exact .inr ⟨g, cap, cur, q1, q2, (hk.block g this.1 this.2.2).trans q3, q4⟩
theorem Fi21.log (h : Fi21 w b m c f ta tc la lc V S) {w1 w2 : World} {g cap : Nat} {o : Int × Int × Int} (hk : Kp (fun j => (Value.slice la S.lg.length lc).ownBlock = some j) w w1) (hl : w1.ownsRow 0 180 3 (.slice (some ⟨g, 0, none⟩) (S.lg.length + 1) cap) (S.lg.length + 1) (lgc21 (S.lg ++ [o])))
    (hg : (Value.slice la S.lg.length lc).ownBlock = some g ∨ w.heap.size ≤ g) (h2 : w2 = w1.setCell ⟨b, 8, none⟩ (.slice (some ⟨g, 0, none⟩) (S.lg.length + 1) cap)) :
    Fi21 w2 b m c f ta tc (some ⟨g, 0, none⟩) cap V { S with lg := S.lg ++ [o] } ∧ Kp (fun j => j = b ∨ (Value.slice la S.lg.length lc).ownBlock = some j) w w2 := by
  have hb : w1.heap[b]? = w.heap[b]? := hk.block b h.bl (fun e => (h.lo e).2.1 rfl)
  have hm : w1.heap[m]? = w.heap[m]? := hk.block m h.hm.lt (fun e => (h.lo e).2.2 rfl)
  have hgb : g ≠ b := by
    rcases hg with hg | hg
    · exact (h.lo hg).2.1
    · have := h.bl; omega
  have ks : Kp (fun j => j = b) w1 w2 := by rw [h2]; exact Kp.set (S := fun j => j = b) rfl _
  have hv1 : ∀ k, V k → w1.heap[k]? = w.heap[k]? := fun k e => hk.block k (h.vs k e) (fun e' => h.vl k e' e)
  have hv : ∀ k, V k → w2.heap[k]? = w.heap[k]? := fun k e => (ks.block k (Nat.lt_of_lt_of_le (h.vs k e) hk.size) (fun e' => h.vb (e' ▸ e))).trans (hv1 k e)
  refine ⟨⟨?_, h.hm.block ((ks.block m (Nat.lt_of_lt_of_le h.hm.lt hk.size) (fun e => h.bm e.symm)).trans hm), fun x y => ?_, h.ht.kp hv (fun _ e => e), ?_, ?_, h.vb, h.vm, ?_, fun k e => Nat.lt_of_lt_of_le (h.vs k e) (Nat.le_trans hk.size ks.size)⟩, ?_⟩
  · have := hb.trans h.hp
    rw [h2]
    simp [World.setCell, Array.getElem?_modify, this]
  · rcases h.hf x y with h | ⟨s, v, q1, q2, q3⟩
    · exact .inl h
    · exact .inr ⟨s, v, q1, q2, q3.kp hv (fun _ e => e)⟩
  · show w2.ownsRow 0 _ 3 (.slice (some ⟨g, 0, none⟩) (S.lg ++ [o]).length cap) (S.lg ++ [o]).length _
    rw [List.length_append, List.length_singleton]
    refine ⟨hl.1, ?_⟩
    rcases hl.2 with q | ⟨g', cap', cur, q1, q2, q3, q4⟩
    · exact .inl q
    · simp only [Value.slice.injEq, Option.some.injEq, Addr.mk.injEq] at q1
      obtain ⟨⟨rfl, -⟩, -, rfl⟩ := q1
      exact .inr ⟨g, cap, cur, rfl, q2, (ks.block g (Array.getElem?_eq_some_iff.1 q3).1 hgb).trans q3, q4⟩
  · have := h.hc
    show c ≤ 8200 + (S.lg ++ [o]).length
    simp; omega
  · intro k e
    simp [Value.ownBlock] at e
    subst e
    rcases hg with hg | hg
    · exact h.vl _ hg
    · exact fun e => by have := h.vs _ e; omega
  · exact (hk.mono (fun i _ e => .inr e)).trans (ks.mono (fun i _ e => .inl e)) (fun _ _ e => e)
end
set_option maxRecDepth 100000 in
set_option maxHeartbeats 16000000 in
theorem prun21 {w : World} {b m c tc lc : Nat} {f : Int → Int → Option Value} {ta la : Option Addr} {V : Nat → Prop} {S : Fs21} (hF : Fi21 w b m c f ta tc la lc V S) (hO : Ok21 S) (x y : Int) (hx : In21 x) (hy : In21 y)
    (T : TypeId) (ov : Value) (kd : Int) (nn : Sh21) (hlg : S.lg.length ≤ 5500000001000)
    (HMt : ∀ W : World, (method 345 T ov "sapper/flash.where").run Tryd.prog W = .ok (149, .agg #[.int .i64 x, .int .i64 y]) W)
    (HAf : Hid (∀ (W : World) (a : Option Addr) (n k : Nat) (er : Bool), Below w.heap.size w W → Calls Tryd.prog 115 #[.agg #[.slice a n k, .bool er, .int .i64 (sh21 S x y).wr], .iface T ov] W fun e w' => (∃ ra rc, e = .returned (.tuple #[.agg #[.slice ra nn.b.length rc, .bool nn.er, .int .i64 nn.wr], .int .i64 kd]) ∧ Cl21 w' ra nn.b rc W.heap.size) ∧ Below W.heap.size W w'))
    (F : Nat → Prop) (hFb : F b) (hFm : F m) (hFl : ∀ k, (Value.slice la S.lg.length lc).ownBlock = some k → F k) (hFV : ∀ k, V k → F k) (hFs : ∀ k, F k → k < w.heap.size) :
    Calls Tryd.prog 93 #[.pointer (some ⟨b, 0, none⟩), .iface T ov] w fun e w' => e = .returned (.int .i64 (rc21 S)) ∧ Fn21 w w' b F (rn21 S kd x y nn) := by
  have HWh : Hid (∀ W : World, Calls Tryd.prog 149 #[.agg #[.int .i64 x, .int .i64 y]] W fun e w' => e = .returned (.agg #[.int .i64 x, .int .i64 y]) ∧ Below W.heap.size W w') := fun W => pwh21 x y W
  have HSh : Hid (∀ W : World, Below w.heap.size w W → Calls Tryd.prog 50 #[.pointer (some ⟨b, 0, none⟩), .agg #[.int .i64 x, .int .i64 y]] W fun e w' => e = .returned (shv21 (f x y) x) ∧ Below W.heap.size W w') := fun W hW => psht21 b m c f x y hx hy W ((hF.old hW).cel (i := 5) rfl) (hF.old hW).hm (hF.sv x y)
  obtain ⟨wa, wcap, hsv, hsl⟩ := hF.shv x y
  rw [hsv] at HSh
  have HF : Hid (Fi21 w b m c f ta tc la lc V S) := hF
  have HSL : Hid (Sl21 w V wa (sh21 S x y).b wcap) := hsl
  have HOS := sh21_ok hO x y
  obtain ⟨WL, hWL⟩ : ∃ WL, WL = (sh21 S x y).b.length := ⟨_, rfl⟩
  obtain ⟨NL, hNL⟩ : ∃ NL, NL = nn.b.length := ⟨_, rfl⟩
  obtain ⟨WR, hWR⟩ : ∃ WR, WR = (sh21 S x y).wr := ⟨_, rfl⟩
  obtain ⟨WE, hWE⟩ : ∃ WE, WE = (sh21 S x y).er := ⟨_, rfl⟩
  obtain ⟨NR, hNR⟩ : ∃ NR, NR = nn.wr := ⟨_, rfl⟩
  obtain ⟨NE, hNE⟩ : ∃ NE, NE = nn.er := ⟨_, rfl⟩
  have HN : Hid (WL = (sh21 S x y).b.length ∧ NL = nn.b.length ∧ NR = nn.wr ∧ NE = nn.er) := ⟨hWL, hNL, hNR, hNE⟩
  rw [← hWL, ← hWR, ← hWE] at HSh
  rw [← hNL, ← hNE, ← hNR, ← hWR] at HAf
  clear hF hsv hsl hWL hNL hWR hWE hNR hNE
  go_enter Tryd.func93, Tryd.ntmps93
  go_wp2_with fail
  refine (HWh.out _).mono ?_
  rintro e w1 ⟨rfl, b1⟩
  go_wp2_with fail
  have b1' := b1.alloc b1.size (.cells #[.int .i64 x, .int .i64 y] 98)
  refine (HSh.out _ b1').mono ?_
  rintro e w2 ⟨rfl, b2⟩
  go_wp2_with fail
  have hq1 := heap_alloc_new w1 (.cells #[.int .i64 x, .int .i64 y] 98)
  have hs1 := World.size_alloc w1 (.cells #[.int .i64 x, .int .i64 y] 98)
  have hq2 := heap_alloc_new w2 (.cells #[.slice wa WL wcap, .bool WE, .int .i64 WR] 89)
  have hs2 := World.size_alloc w2 (.cells #[.slice wa WL wcap, .bool WE, .int .i64 WR] 89)
  have b2' : Below w.heap.size w w2 := b1'.trans (b2.mono b1'.size)
  have b2'' := b2'.alloc b2'.size (.cells #[.slice wa WL wcap, .bool WE, .int .i64 WR] 89)
  refine (HAf.out _ _ _ _ _ b2'').mono ?_
  rintro e w3 ⟨⟨ra, rc, rfl, hcl⟩, b3⟩
  have hq3 := heap_alloc_new w3 (.cells #[.slice ra NL rc, .bool NE, .int .i64 NR] 89)
  have hs3 := World.size_alloc w3 (.cells #[.slice ra NL rc, .bool NE, .int .i64 NR] 89)
  have b3' : Below w.heap.size w w3 := b2''.trans (b3.mono b2''.size)
  have b3'' := b3'.alloc b3'.size (.cells #[.slice ra NL rc, .bool NE, .int .i64 NR] 89)
  have z2 := b2.size
  have z3 := b3.size
  have p1 : w3.heap[w1.heap.size]? = some (.cells #[.int .i64 x, .int .i64 y] 98 (0, 0)) := by
    rw [b3.block _ (by omega), heap_alloc_old _ _ (by omega), b2.block _ (by omega)]; exact hq1
  have p2 : w3.heap[w2.heap.size]? = some (.cells #[.slice wa WL wcap, .bool WE, .int .i64 WR] 89 (0, 0)) := by
    rw [b3.block _ (by omega)]; exact hq2
  obtain ⟨g5, hg5⟩ : ∃ g5, g5 = w1.heap.size := ⟨_, rfl⟩
  obtain ⟨g6, hg6⟩ : ∃ g6, g6 = w2.heap.size := ⟨_, rfl⟩
  obtain ⟨g7, hg7⟩ : ∃ g7, g7 = w3.heap.size := ⟨_, rfl⟩
  obtain ⟨u, hu⟩ : ∃ u, u = (w3.alloc (.cells #[.slice ra NL rc, .bool NE, .int .i64 NR] 89)).drew := ⟨_, rfl⟩
  have HU : Hid ((w3.alloc (.cells #[.slice ra NL rc, .bool NE, .int .i64 NR] 89)).drew = u) := hu.symm
  have HG : Hid (w1.heap.size = g5 ∧ w2.heap.size = g6 ∧ w3.heap.size = g7) := ⟨hg5.symm, hg6.symm, hg7.symm⟩
  have hus : u.heap.size = g7 + 1 := by rw [hu, hg7]; exact hs3
  have HZ : Hid (w.heap.size ≤ g5 ∧ g5 < g6 ∧ g6 < g7 ∧ u.heap.size = g7 + 1) := ⟨by have := b1.size; omega, by omega, by omega, hus⟩
  have o5 : u.heap[g5]? = some (.cells #[.int .i64 x, .int .i64 y] 98 (0, 0)) := by
    rw [hu, hg5]; show (World.alloc _ _).heap[_]? = _
    rw [heap_alloc_old _ _ (by omega)]; exact p1
  have o6 : u.heap[g6]? = some (.cells #[.slice wa WL wcap, .bool WE, .int .i64 WR] 89 (0, 0)) := by
    rw [hu, hg6]; show (World.alloc _ _).heap[_]? = _
    rw [heap_alloc_old _ _ (by omega)]; exact p2
  have o7 : u.heap[g7]? = some (.cells #[.slice ra NL rc, .bool NE, .int .i64 NR] 89 (0, 0)) := by
    rw [hu, hg7]; exact hq3
  have hBu : Below w.heap.size w u := by rw [hu]; exact b3''.drew
  have hFu := HF.out.old hBu
  have HFu : Hid (Fi21 u b m c f ta tc la lc V S) := hFu
  have hclu : Cl21 u ra nn.b rc w.heap.size ∧ (∀ k, ra = some ⟨k, 0, none⟩ → k < g7) := by
    obtain ⟨h1, h2, h3, h4⟩ := hcl
    have bb : Below w3.heap.size w3 u := by rw [hu]; exact ((Below.refl _ _).alloc (Nat.le_refl _) _).drew
    refine ⟨⟨h1.old bb, ?_, h3, h4⟩, ?_⟩
    · rcases h2 with h2 | ⟨k, h2, h5, h6⟩
      · exact .inl h2
      · exact .inr ⟨k, h2, by have := b2''.size; omega, Nat.lt_of_lt_of_le h6 bb.size⟩
    · intro k e
      rcases h2 with h2 | ⟨k', h2, h5, h6⟩
      · rw [h2] at e; cases e
      · rw [h2] at e; cases e; omega
  have HCL : Hid (Cl21 u ra nn.b rc w.heap.size ∧ (∀ k, ra = some ⟨k, 0, none⟩ → k < g7)) := hclu
  -- what is kept by the log's append and by later stores: everything new
  obtain ⟨g, cap, v1, happ, hown, hkv, hgl⟩ := run_log21 u la S.lg.length lc S.lg rfl kd x y hFu.hl (by omega) 94
  obtain ⟨v2, hv2⟩ : ∃ v2, v2 = v1.setCell ⟨b, 8, none⟩ (.slice (some ⟨g, 0, none⟩) (S.lg.length + 1) cap) := ⟨_, rfl⟩
  obtain ⟨hF2, hK2⟩ := hFu.log hkv hown hgl hv2
  have hne : ∀ j, (j = b ∨ (Value.slice la S.lg.length lc).ownBlock = some j) → j < w.heap.size := fun j e => by
    rcases e with e | e
    · rw [e]; exact HF.out.bl
    · exact (HF.out.lo e).1
  obtain ⟨zz1, zz2, zz3, zz4⟩ := HZ.out
  have n5 : v2.heap[g5]? = some (.cells #[.int .i64 x, .int .i64 y] 98 (0, 0)) := (hK2.block g5 (by omega) (fun e => by have := hne _ e; omega)).trans o5
  have n6 : v2.heap[g6]? = some (.cells #[.slice wa WL wcap, .bool WE, .int .i64 WR] 89 (0, 0)) := (hK2.block g6 (by omega) (fun e => by have := hne _ e; omega)).trans o6
  have n7 : v2.heap[g7]? = some (.cells #[.slice ra NL rc, .bool NE, .int .i64 NR] 89 (0, 0)) := (hK2.block g7 (by omega) (fun e => by have := hne _ e; omega)).trans o7
  have l5 : v1.heap[g5]? = some (.cells #[.int .i64 x, .int .i64 y] 98 (0, 0)) := (hkv.block g5 (by omega) (fun e => by have := hne _ (.inr e); omega)).trans o5
  have HV2 : Hid (v1.setCell ⟨b, 8, none⟩ (.slice (some ⟨g, 0, none⟩) (S.lg.length + 1) cap) = v2) := hv2.symm
  have q8 : u.cell? ⟨b, 8, none⟩ = some (.slice la S.lg.length lc) := hFu.cel (i := 8) rfl
  have vb : v1.heap[b]? = u.heap[b]? := hkv.block b hFu.bl (fun e => (hFu.lo e).2.1 rfl)
  have hvf : v1.frozen? ⟨b, 8, none⟩ = false := by simp [World.frozen?, vb, hFu.hp]
  have hvc : v1.cell? ⟨b, 8, none⟩ = some (.slice la S.lg.length lc) := by rw [World.cell?_of_block (a := ⟨b, 8, none⟩) vb]; exact q8
  have HK2 : Hid (Kp (fun j => j = b ∨ (Value.slice la S.lg.length lc).ownBlock = some j) u v2) := hK2
  have HF2 : Hid (Fi21 v2 b m c f ta tc (some ⟨g, 0, none⟩) cap V { S with lg := S.lg ++ [(kd, x, y)] }) := hF2
  have HGL : Hid ((Value.slice la S.lg.length lc).ownBlock = some g ∨ u.heap.size ≤ g) := hgl
  have HBU : Hid (Below w.heap.size w u) := hBu
  have HS0 : Hid (u.cell? ⟨b, 8, none⟩ = some (.slice la S.lg.length lc) ∧ u.cell? ⟨g5, 0, none⟩ = some (.int .i64 x) ∧ u.cell? ⟨g5, 1, none⟩ = some (.int .i64 y)) := ⟨q8, two_cell0 o5, two_cell1 o5⟩
  have HS1 : Hid (v1.cell? ⟨b, 8, none⟩ = some (.slice la S.lg.length lc) ∧ v1.cell? ⟨g5, 0, none⟩ = some (.int .i64 x) ∧ v1.cell? ⟨g5, 1, none⟩ = some (.int .i64 y)) := ⟨hvc, two_cell0 l5, two_cell1 l5⟩
  obtain ⟨u1, hu1⟩ : ∃ u1, u1 = u.alloc (.cells #[.int .i64 kd, .int .i64 x, .int .i64 y] 180) := ⟨_, rfl⟩
  have HU1 : Hid (u.alloc (.cells #[.int .i64 kd, .int .i64 x, .int .i64 y] 180) = u1) := hu1.symm
  rw [← hu1] at happ
  have bu1 : Below u.heap.size u u1 := by rw [hu1]; exact (Below.refl _ _).alloc (Nat.le_refl _) _
  have HS1' : Hid (u1.cell? ⟨b, 8, none⟩ = some (.slice la S.lg.length lc) ∧ u1.cell? ⟨g5, 0, none⟩ = some (.int .i64 x) ∧ u1.cell? ⟨g5, 1, none⟩ = some (.int .i64 y)) := ⟨(bu1.cell (p := ⟨b, 8, none⟩) hFu.bl).trans q8, two_cell0 ((bu1.block _ (by omega)).trans o5), two_cell1 ((bu1.block _ (by omega)).trans o5)⟩
  have HAPP : Hid ((Builtin.append_ #[94, 94] 94 #[.slice la S.lg.length lc, .slice (some ⟨u.heap.size, 0, none⟩) 1 1]).run Tryd.prog u1 = .ok (.slice (some ⟨g, 0, none⟩) (S.lg.length + 1) cap) v1) := happ
  obtain ⟨LN, hLN⟩ : ∃ LN, LN = S.lg.length := ⟨_, rfl⟩
  obtain ⟨us, hus'⟩ : ∃ us, us = u.heap.size := ⟨_, rfl⟩
  rw [← hus', ← hLN] at HAPP
  rw [← hLN] at HV2 HS0 HS1 HS1' hvc
  have HLN : Hid (LN = S.lg.length ∧ us = u.heap.size) := ⟨hLN, hus'⟩
  clear hq1 hs1 hq2 hs2 hq3 hs3 b1 b1' b2 b2' b2'' b3 b3' b3'' z2 z3 p1 p2 hcl hg5 hg6 hg7 hu hus o5 o6 o7 hBu hFu hclu happ hown hkv hgl hv2 hF2 hK2 hne zz1 zz2 zz3 zz4 l5 q8 vb hu1 bu1 hLN hus'
  go_wp2_with fail
  (try rw [HG.out.1])
  (try rw [HG.out.2.1])
  (try rw [HG.out.2.2])
  refine plain_region16 (fun V => V.cell? ⟨b, 8, none⟩ = some (.slice la LN lc) ∧ V.cell? ⟨g5, 0, none⟩ = some (.int .i64 x) ∧ V.cell? ⟨g5, 1, none⟩ = some (.int .i64 y)) 15 (by kernel_rfl) (by rw [HU.out]; exact HS0.out) (fun hHeld => ?_)
  rw [HU.out] at hHeld ⊢
  refine wpAnyK_take (i := 0) (v := .pointer (some ⟨b, 0, none⟩)) rfl (by kernel_rfl) (by kernel_rfl) (by kernel_rfl) (by kernel_rfl) (fun _ _ _ h => h) (Or.inl ⟨by rfl, fun w hSw => by go_simp⟩) hHeld ?_
  simp only [List.getElem_toArray, List.getElem_cons_zero, Act.put, List.setIfInBounds_toArray, List.set_cons_zero, List.set_cons_succ]
  refine wpAnyK_take (i := 1) (v := .pointer (some ⟨b, 0, none⟩)) rfl (by kernel_rfl) (by kernel_rfl) (by kernel_rfl) (by kernel_rfl) (fun _ _ _ h => h) (Or.inl ⟨by rfl, fun w hSw => by go_simp⟩) hHeld ?_
  simp only [List.getElem_toArray, List.getElem_cons_zero, List.getElem_cons_succ, Act.put, List.setIfInBounds_toArray, List.set_cons_zero, List.set_cons_succ]
  refine wpAnyK_take (i := 2) (v := .pointer (some ⟨b, 0, none⟩)) rfl (by kernel_rfl) (by kernel_rfl) (by kernel_rfl) (by kernel_rfl) (fun _ _ _ h => h) (Or.inl ⟨by rfl, fun w hSw => by go_simp⟩) hHeld ?_
  simp only [List.getElem_toArray, List.getElem_cons_zero, List.getElem_cons_succ, Act.put, List.setIfInBounds_toArray, List.set_cons_zero, List.set_cons_succ]
  refine wpAnyK_take (i := 3) (v := .pointer (some ⟨b, 8, none⟩)) rfl (by kernel_rfl) (by kernel_rfl) (by kernel_rfl) (by kernel_rfl) (fun _ _ _ h => h) (Or.inl ⟨by rfl, fun w hSw => by go_simp⟩) hHeld ?_
  simp only [List.getElem_toArray, List.getElem_cons_zero, List.getElem_cons_succ, Act.put, List.setIfInBounds_toArray, List.set_cons_zero, List.set_cons_succ]
  refine wpAnyK_take (i := 4) (v := .slice la LN lc) rfl (by kernel_rfl) (by kernel_rfl) (by kernel_rfl) (by kernel_rfl) (fun _ _ _ h => h) (Or.inl ⟨by rfl, fun w hSw => by go_simp⟩) hHeld ?_
  simp only [List.getElem_toArray, List.getElem_cons_zero, List.getElem_cons_succ, Act.put, List.setIfInBounds_toArray, List.set_cons_zero, List.set_cons_succ]
  refine wpAnyK_take (i := 5) (v := .int .i64 kd) rfl (by kernel_rfl) (by kernel_rfl) (by kernel_rfl) (by kernel_rfl) (fun _ _ _ h => h) (Or.inl ⟨by rfl, fun w hSw => by go_simp⟩) hHeld ?_
  simp only [List.getElem_toArray, List.getElem_cons_zero, List.getElem_cons_succ, Act.put, List.setIfInBounds_toArray, List.set_cons_zero, List.set_cons_succ]
  refine wpAnyK_take (i := 6) (v := .pointer (some ⟨g5, 0, none⟩)) rfl (by kernel_rfl) (by kernel_rfl) (by kernel_rfl) (by kernel_rfl) (fun _ _ _ h => h) (Or.inl ⟨by rfl, fun w hSw => by go_simp⟩) hHeld ?_
  simp only [List.getElem_toArray, List.getElem_cons_zero, List.getElem_cons_succ, Act.put, List.setIfInBounds_toArray, List.set_cons_zero, List.set_cons_succ]
  refine wpAnyK_take (i := 7) (v := .int .i64 x) rfl (by kernel_rfl) (by kernel_rfl) (by kernel_rfl) (by kernel_rfl) (fun _ _ _ h => h) (Or.inl ⟨by rfl, fun w hSw => by go_simp⟩) hHeld ?_
  simp only [List.getElem_toArray, List.getElem_cons_zero, List.getElem_cons_succ, Act.put, List.setIfInBounds_toArray, List.set_cons_zero, List.set_cons_succ]
  refine wpAnyK_take (i := 8) (v := .pointer (some ⟨g5, 1, none⟩)) rfl (by kernel_rfl) (by kernel_rfl) (by kernel_rfl) (by kernel_rfl) (fun _ _ _ h => h) (Or.inl ⟨by rfl, fun w hSw => by go_simp⟩) hHeld ?_
  simp only [List.getElem_toArray, List.getElem_cons_zero, List.getElem_cons_succ, Act.put, List.setIfInBounds_toArray, List.set_cons_zero, List.set_cons_succ]
  refine wpAnyK_take (i := 9) (v := .int .i64 y) rfl (by kernel_rfl) (by kernel_rfl) (by kernel_rfl) (by kernel_rfl) (fun _ _ _ h => h) (Or.inl ⟨by rfl, fun w hSw => by go_simp⟩) hHeld ?_
  simp only [List.getElem_toArray, List.getElem_cons_zero, List.getElem_cons_succ, Act.put, List.setIfInBounds_toArray, List.set_cons_zero, List.set_cons_succ]
  refine wpAnyK_take (i := 10) (v := .agg #[.int .i64 kd, .int .i64 x, .int .i64 y]) rfl (by kernel_rfl) (by kernel_rfl) (by kernel_rfl) (by kernel_rfl) (fun _ _ _ h => h) (Or.inl ⟨by rfl, fun w hSw => by go_simp⟩) hHeld ?_
  simp only [List.getElem_toArray, List.getElem_cons_zero, List.getElem_cons_succ, Act.put, List.setIfInBounds_toArray, List.set_cons_zero, List.set_cons_succ]
  refine wpAnyK_one (i := 11) (by kernel_rfl) rfl (fun K hK => ?_)
  (try simp only [List.getElem_toArray, List.getElem_cons_zero, List.getElem_cons_succ, Act.put, List.setIfInBounds_toArray, List.set_cons_zero, List.set_cons_succ])
  go_simp
  rw [HU1.out, ← HLN.out.2]
  refine hK.out _ _ (fun _ => HS1'.out) (fun hHeld0 => ?_)
  have hHeld := hHeld0 (by decide)
  clear hHeld0 hK K
  (try simp only [List.getElem_toArray, List.getElem_cons_zero, List.getElem_cons_succ, Act.put, List.setIfInBounds_toArray, List.set_cons_zero, List.set_cons_succ])
  refine wpAnyK_one (i := 12) (by kernel_rfl) rfl (fun K hK => ?_)
  (try simp only [List.getElem_toArray, List.getElem_cons_zero, List.getElem_cons_succ])
  refine operwp_app21 _ _ _ rfl rfl rfl HAPP.out ?_
  refine hK.out _ _ (fun _ => HS1.out) (fun hHeld0 => ?_)
  have hHeld := hHeld0 (by decide)
  clear hHeld0 hK K
  (try simp only [List.getElem_toArray, List.getElem_cons_zero, List.getElem_cons_succ, Act.put, List.setIfInBounds_toArray, List.set_cons_zero, List.set_cons_succ])
  refine wpAnyK_one (i := 13) (by kernel_rfl) rfl (fun K hK => ?_)
  (try simp only [List.getElem_toArray, List.getElem_cons_zero, List.getElem_cons_succ, Act.put, List.setIfInBounds_toArray, List.set_cons_zero, List.set_cons_succ])
  go_simp
  refine hK.out _ _ (fun _ => HS1.out) (fun hHeld0 => ?_)
  have hHeld := hHeld0 (by decide)
  clear hHeld0 hK K
  (try simp only [List.getElem_toArray, List.getElem_cons_zero, List.getElem_cons_succ, Act.put, List.setIfInBounds_toArray, List.set_cons_zero, List.set_cons_succ])
  refine wpAnyK_one (i := 14) (by kernel_rfl) rfl (fun K hK => ?_)
  (try simp only [List.getElem_toArray, List.getElem_cons_zero, List.getElem_cons_succ, Act.put, List.setIfInBounds_toArray, List.set_cons_zero, List.set_cons_succ])
  go_simp
  refine hK.out _ _ (fun _ => HS1.out) (fun hHeld0 => ?_)
  have hHeld := hHeld0 (by decide)
  clear hHeld0 hK K
  (try simp only [List.getElem_toArray, List.getElem_cons_zero, List.getElem_cons_succ, Act.put, List.setIfInBounds_toArray, List.set_cons_zero, List.set_cons_succ])
  refine wpAnyK_one (i := 15) (by kernel_rfl) rfl (fun K hK => ?_)
  (try simp only [List.getElem_toArray, List.getElem_cons_zero, List.getElem_cons_succ, Act.put, List.setIfInBounds_toArray, List.set_cons_zero, List.set_cons_succ])
  go_simp
  rw [HV2.out]
  refine hK.out _ _ (fun h => absurd rfl h) (fun _ => ?_)
  clear hK K
  (try simp only [List.getElem_toArray, List.getElem_cons_zero, List.getElem_cons_succ, Act.put, List.setIfInBounds_toArray, List.set_cons_zero, List.set_cons_succ])
  refine wpAnyK_done (by kernel_rfl) ?_ _
  have HF2d : Hid (Fi21 v2.drew b m c f ta tc (some ⟨g, 0, none⟩) cap V { S with lg := S.lg ++ [(kd, x, y)] }) := HF2.out.old (Below.refl _ _).drew
  have hgne : w.heap.size ≤ v2.heap.size := by have := HK2.out.size; have := HBU.out.size; omega
  have HFG : Hid (∀ k, k = g → F k ∨ w.heap.size ≤ k) := fun k e => by
    subst e
    rcases HGL.out with h | h
    · exact .inl (hFl _ h)
    · exact .inr (by have := HBU.out.size; omega)
  have HKA : Hid (Kp F w v2) := ((Kp.of_below HBU.out).trans (HK2.out.mono (S' := F) (fun i _ e => by rcases e with e | e; (exact e ▸ hFb); (exact hFl i e))) (fun _ _ e => e))
  have hFvs : ∀ k, V k → k < w.heap.size := fun k e => hFs k (hFV k e)
  have HVW : Hid (∀ k, V k → k < w.heap.size) := hFvs
  have hbw : b < w.heap.size := HF.out.bl
  have hmw : m < w.heap.size := HF.out.hm.lt
  have hcb : c + 1 ≤ 8200 + (S.lg ++ [(kd, x, y)]).length := by have := HF.out.hc; simp; omega
  have hcm : c < maxLen := by have := HF.out.hc; unfold maxLen; omega
  have HCB : Hid (c + 1 ≤ 8200 + (S.lg ++ [(kd, x, y)]).length ∧ c < maxLen ∧ b < w.heap.size ∧ m < w.heap.size ∧ w.heap.size ≤ v2.heap.size ∧ b ≠ m) := ⟨hcb, hcm, hbw, hmw, hgne, HF.out.bm⟩
  have d6 : v2.cell? ⟨b, 6, none⟩ = some (.int .i64 S.lf) := HF2.out.cel (i := 6) rfl
  clear hFvs hbw hmw hcb hcm hgne hvf hvc
  by_cases hlf : S.lf = 1
  · rw [hlf] at d6
    obtain ⟨TL, hTL⟩ : ∃ TL, TL = S.tn.length := ⟨_, rfl⟩
    have HTL : Hid (TL = S.tn.length) := hTL
    have c0 : v2.drew.cell? ⟨b, 0, none⟩ = some (.int .i64 (S.pg : Int)) := HF2d.out.cel (i := 0) rfl
    have hsd : Seg v2.drew wa (sh21 S x y).b := by
      have h1 : Sl21 u V wa (sh21 S x y).b wcap := HSL.out.kp (fun k e => HBU.out.block k (HVW.out k e)) (fun _ e => e)
      exact (h1.kp (w' := v2) (fun k e => HK2.out.block k (HFu.out.vs k e) (fun e' => by rcases e' with e' | e'; (exact HFu.out.vb (e' ▸ e)); (exact HFu.out.vl k e' e))) (fun _ e => e)).1.drew
    have HL := plaid21 b S.pg v2.drew c0 hO.pg.2 ta wa S.tn (sh21 S x y).b tc wcap TL WL WE WR HF2d.out.ht.1 hsd HTL.out.symm HN.out.1.symm (by rw [HTL.out]; exact hO.tn) (by rw [HN.out.1]; exact HOS.1)
    have HHL : Hid (Calls Tryd.prog 95 #[.pointer (some ⟨b, 0, none⟩), .slice ta TL tc, .agg #[.slice wa WL wcap, .bool WE, .int .i64 WR]] v2.drew fun e w' => (∃ g, e = .returned (.slice (some ⟨g, 0, none⟩) S.pg S.pg) ∧ v2.drew.heap.size ≤ g ∧ Rw21 w' g (la21 S.pg S.tn (sh21 S x y).b)) ∧ Below v2.drew.heap.size v2.drew w') := HL
    have HC : Hid (∀ Y : World, Below v2.drew.heap.size v2.drew Y → Y.cell? ⟨b, 5, none⟩ = some (.map (some m)) ∧ Y.cell? ⟨b, 7, none⟩ = some (.slice ta TL tc) ∧ Y.cell? ⟨g5, 0, none⟩ = some (.int .i64 x) ∧ Y.cell? ⟨g5, 1, none⟩ = some (.int .i64 y) ∧ Y.cell? ⟨g6, 0, none⟩ = some (.slice wa WL wcap) ∧ Y.cell? ⟨g6, 1, none⟩ = some (.bool WE) ∧ Y.cell? ⟨g6, 2, none⟩ = some (.int .i64 WR) ∧ Y.cell? ⟨g7, 2, none⟩ = some (.int .i64 NR)) := fun Y hY => by
      have hFY := HF2d.out.old hY
      have r5 := (hY.block g5 (Array.getElem?_eq_some_iff.1 n5).1).trans n5
      have r6 := (hY.block g6 (Array.getElem?_eq_some_iff.1 n6).1).trans n6
      have r7 := (hY.block g7 (Array.getElem?_eq_some_iff.1 n7).1).trans n7
      exact ⟨hFY.cel (i := 5) rfl, by rw [HTL.out]; exact hFY.cel (i := 7) rfl, two_cell0 r5, two_cell1 r5, three_cell0 r6, three_cell1 r6, three_cell2 r6, three_cell2 r7⟩
    have HC0 := HC.out v2.drew (Below.refl _ _)
    have HHC0 : Hid (v2.drew.cell? ⟨b, 5, none⟩ = some (.map (some m)) ∧ v2.drew.cell? ⟨b, 7, none⟩ = some (.slice ta TL tc) ∧ v2.drew.cell? ⟨g5, 0, none⟩ = some (.int .i64 x) ∧ v2.drew.cell? ⟨g5, 1, none⟩ = some (.int .i64 y) ∧ v2.drew.cell? ⟨g6, 0, none⟩ = some (.slice wa WL wcap) ∧ v2.drew.cell? ⟨g6, 1, none⟩ = some (.bool WE) ∧ v2.drew.cell? ⟨g6, 2, none⟩ = some (.int .i64 WR) ∧ v2.drew.cell? ⟨g7, 2, none⟩ = some (.int .i64 NR)) := HC0
    clear HL hsd c0 hTL HC0
    go_wp2_with fail
    refine plain_region16 (fun Y => Y.cell? ⟨b, 5, none⟩ = some (.map (some m)) ∧ Y.cell? ⟨b, 7, none⟩ = some (.slice ta TL tc) ∧ Y.cell? ⟨g5, 0, none⟩ = some (.int .i64 x) ∧ Y.cell? ⟨g5, 1, none⟩ = some (.int .i64 y) ∧ Y.cell? ⟨g6, 0, none⟩ = some (.slice wa WL wcap) ∧ Y.cell? ⟨g6, 1, none⟩ = some (.bool WE) ∧ Y.cell? ⟨g6, 2, none⟩ = some (.int .i64 WR) ∧ Y.cell? ⟨g7, 2, none⟩ = some (.int .i64 NR)) 16 (by kernel_rfl) HHC0.out (fun hHeld => ?_)
    refine wpAnyK_take (i := 0) (v := .pointer (some ⟨b, 0, none⟩)) rfl (by kernel_rfl) (by kernel_rfl) (by kernel_rfl) (by kernel_rfl) (fun _ _ _ h => h) (Or.inl ⟨by rfl, fun w hSw => by go_simp⟩) hHeld ?_
    simp only [List.getElem_toArray, List.getElem_cons_zero, Act.put, List.setIfInBounds_toArray, List.set_cons_zero, List.set_cons_succ]
    refine wpAnyK_take (i := 1) (v := .pointer (some ⟨b, 0, none⟩)) rfl (by kernel_rfl) (by kernel_rfl) (by kernel_rfl) (by kernel_rfl) (fun _ _ _ h => h) (Or.inl ⟨by rfl, fun w hSw => by go_simp⟩) hHeld ?_
    simp only [List.getElem_toArray, List.getElem_cons_zero, List.getElem_cons_succ, Act.put, List.setIfInBounds_toArray, List.set_cons_zero, List.set_cons_succ]
    refine wpAnyK_take (i := 2) (v := .pointer (some ⟨b, 5, none⟩)) rfl (by kernel_rfl) (by kernel_rfl) (by kernel_rfl) (by kernel_rfl) (fun _ _ _ h => h) (Or.inl ⟨by rfl, fun w hSw => by go_simp⟩) hHeld ?_
    simp only [List.getElem_toArray, List.getElem_cons_zero, List.getElem_cons_succ, Act.put, List.setIfInBounds_toArray, List.set_cons_zero, List.set_cons_succ]
    refine wpAnyK_take (i := 3) (v := .map (some m)) rfl (by kernel_rfl) (by kernel_rfl) (by kernel_rfl) (by kernel_rfl) (fun _ _ _ h => h) (Or.inl ⟨by rfl, fun w hSw => by go_simp⟩) hHeld ?_
    simp only [List.getElem_toArray, List.getElem_cons_zero, List.getElem_cons_succ, Act.put, List.setIfInBounds_toArray, List.set_cons_zero, List.set_cons_succ]
    refine wpAnyK_take (i := 4) (v := .agg #[.int .i64 x, .int .i64 y]) rfl (by kernel_rfl) (by kernel_rfl) (by kernel_rfl) (by kernel_rfl) (fun _ _ _ h => h) (Or.inl ⟨by rfl, fun w hSw => by go_simp⟩) hHeld ?_
    simp only [List.getElem_toArray, List.getElem_cons_zero, List.getElem_cons_succ, Act.put, List.setIfInBounds_toArray, List.set_cons_zero, List.set_cons_succ]
    refine wpAnyK_take (i := 5) (v := .pointer (some ⟨b, 0, none⟩)) rfl (by kernel_rfl) (by kernel_rfl) (by kernel_rfl) (by kernel_rfl) (fun _ _ _ h => h) (Or.inl ⟨by rfl, fun w hSw => by go_simp⟩) hHeld ?_
    simp only [List.getElem_toArray, List.getElem_cons_zero, List.getElem_cons_succ, Act.put, List.setIfInBounds_toArray, List.set_cons_zero, List.set_cons_succ]
    refine wpAnyK_take (i := 6) (v := .pointer (some ⟨b, 0, none⟩)) rfl (by kernel_rfl) (by kernel_rfl) (by kernel_rfl) (by kernel_rfl) (fun _ _ _ h => h) (Or.inl ⟨by rfl, fun w hSw => by go_simp⟩) hHeld ?_
    simp only [List.getElem_toArray, List.getElem_cons_zero, List.getElem_cons_succ, Act.put, List.setIfInBounds_toArray, List.set_cons_zero, List.set_cons_succ]
    refine wpAnyK_take (i := 7) (v := .pointer (some ⟨b, 0, none⟩)) rfl (by kernel_rfl) (by kernel_rfl) (by kernel_rfl) (by kernel_rfl) (fun _ _ _ h => h) (Or.inl ⟨by rfl, fun w hSw => by go_simp⟩) hHeld ?_
    simp only [List.getElem_toArray, List.getElem_cons_zero, List.getElem_cons_succ, Act.put, List.setIfInBounds_toArray, List.set_cons_zero, List.set_cons_succ]
    refine wpAnyK_take (i := 8) (v := .pointer (some ⟨b, 6, none⟩)) rfl (by kernel_rfl) (by kernel_rfl) (by kernel_rfl) (by kernel_rfl) (fun _ _ _ h => h) (Or.inl ⟨by rfl, fun w hSw => by go_simp⟩) hHeld ?_
    simp only [List.getElem_toArray, List.getElem_cons_zero, List.getElem_cons_succ, Act.put, List.setIfInBounds_toArray, List.set_cons_zero, List.set_cons_succ]
    refine wpAnyK_take (i := 9) (v := .pointer (some ⟨b, 7, none⟩)) rfl (by kernel_rfl) (by kernel_rfl) (by kernel_rfl) (by kernel_rfl) (fun _ _ _ h => h) (Or.inl ⟨by rfl, fun w hSw => by go_simp⟩) hHeld ?_
    simp only [List.getElem_toArray, List.getElem_cons_zero, List.getElem_cons_succ, Act.put, List.setIfInBounds_toArray, List.set_cons_zero, List.set_cons_succ]
    refine wpAnyK_take (i := 10) (v := .slice ta TL tc) rfl (by kernel_rfl) (by kernel_rfl) (by kernel_rfl) (by kernel_rfl) (fun _ _ _ h => h) (Or.inl ⟨by rfl, fun w hSw => by go_simp⟩) hHeld ?_
    simp only [List.getElem_toArray, List.getElem_cons_zero, List.getElem_cons_succ, Act.put, List.setIfInBounds_toArray, List.set_cons_zero, List.set_cons_succ]
    refine wpAnyK_take (i := 11) (v := .agg #[.slice wa WL wcap, .bool WE, .int .i64 WR]) rfl (by kernel_rfl) (by kernel_rfl) (by kernel_rfl) (by kernel_rfl) (fun _ _ _ h => h) (Or.inl ⟨by rfl, fun w hSw => by go_simp⟩) hHeld ?_
    simp only [List.getElem_toArray, List.getElem_cons_zero, List.getElem_cons_succ, Act.put, List.setIfInBounds_toArray, List.set_cons_zero, List.set_cons_succ]
    refine wpAnyK_take (i := 13) (v := .pointer (some ⟨g7, 2, none⟩)) rfl (by kernel_rfl) (by kernel_rfl) (by kernel_rfl) (by kernel_rfl) (fun _ _ _ h => h) (Or.inl ⟨by rfl, fun w hSw => by go_simp⟩) hHeld ?_
    simp only [List.getElem_toArray, List.getElem_cons_zero, List.getElem_cons_succ, Act.put, List.setIfInBounds_toArray, List.set_cons_zero, List.set_cons_succ]
    refine wpAnyK_take (i := 14) (v := .int .i64 NR) rfl (by kernel_rfl) (by kernel_rfl) (by kernel_rfl) (by kernel_rfl) (fun _ _ _ h => h) (Or.inl ⟨by rfl, fun w hSw => by go_simp⟩) hHeld ?_
    simp only [List.getElem_toArray, List.getElem_cons_zero, List.getElem_cons_succ, Act.put, List.setIfInBounds_toArray, List.set_cons_zero, List.set_cons_succ]
    refine wpAnyK_one (i := 12) (by kernel_rfl) rfl (fun K hK => ?_)
    (try simp only [List.getElem_toArray, List.getElem_cons_zero, List.getElem_cons_succ, Act.put, List.setIfInBounds_toArray, List.set_cons_zero, List.set_cons_succ])
    go_simp
    refine HHL.out.mono ?_
    rintro e w4 ⟨⟨gl, rfl, hgl, X, hX⟩, b4⟩
    have S4 := HC.out w4 b4
    refine hK.out _ _ (fun _ => S4) (fun hHeld0 => ?_)
    have hHeld := hHeld0 (by decide)
    clear hHeld0 hK K
    (try simp only [List.getElem_toArray, List.getElem_cons_zero, List.getElem_cons_succ, Act.put, List.setIfInBounds_toArray, List.set_cons_zero, List.set_cons_succ])
    refine wpAnyK_take (i := 15) (v := .agg #[.slice (some ⟨gl, 0, none⟩) S.pg S.pg, .bool false, .int .i64 NR]) rfl (by kernel_rfl) (by kernel_rfl) (by kernel_rfl) (by kernel_rfl) (fun _ _ _ h => h) (Or.inl ⟨by rfl, fun w hSw => by go_simp⟩) hHeld ?_
    simp only [List.getElem_toArray, List.getElem_cons_zero, List.getElem_cons_succ, Act.put, List.setIfInBounds_toArray, List.set_cons_zero, List.set_cons_succ]
    have hF4 := HF2d.out.old b4
    obtain ⟨w5, hr5, hm5, hg5⟩ := hF4.hm.store HCB.out.2.1 hx hy (.agg #[.slice (some ⟨gl, 0, none⟩) S.pg S.pg, .bool false, .int .i64 NR])
    have HR5 : Hid ((Instr.mapUpdate 91 (.map (some m)) (.agg #[.int .i64 x, .int .i64 y]) (.agg #[.slice (some ⟨gl, 0, none⟩) S.pg S.pg, .bool false, .int .i64 NR])).run Tryd.prog w4 = .ok () w5) := hr5
    have hr5' := HR5.out
    clear hr5
    refine wpAnyK_one (i := 16) (by kernel_rfl) rfl (fun K hK => ?_)
    (try simp only [List.getElem_toArray, List.getElem_cons_zero, List.getElem_cons_succ, Act.put, List.setIfInBounds_toArray, List.set_cons_zero, List.set_cons_succ])
    go_simp
    refine hK.out _ _ (fun h => absurd rfl h) (fun _ => ?_)
    clear hK K
    (try simp only [List.getElem_toArray, List.getElem_cons_zero, List.getElem_cons_succ, Act.put, List.setIfInBounds_toArray, List.set_cons_zero, List.set_cons_succ])
    refine wpAnyK_done (by kernel_rfl) ?_ _
    have k5 : Kp (fun k => k = m) w4 w5 := Kp.grown hg5 (fun i e => by injection e with e; exact e.symm)
    have hgl2 : v2.heap.size ≤ gl := hgl
    have hgl4 : gl < w4.heap.size := (Array.getElem?_eq_some_iff.1 hX).1
    obtain ⟨cb1, cb2, cb3, cb4, cb5, cb6⟩ := HCB.out
    have hlen : (la21 S.pg S.tn (sh21 S x y).b).length = S.pg := la21_len _ _ _ hO.tn HOS.1
    have hbd : ∀ z ∈ la21 S.pg S.tn (sh21 S x y).b, 0 ≤ z ∧ z ≤ 255 := la21_bd _ _ _ HF2d.out.ht.1.mem HSL.out.1.mem
    have hsg : Seg w4 (some ⟨gl, 0, none⟩) (la21 S.pg S.tn (sh21 S x y).b) := by
      refine ⟨fun i hi => ⟨gl, 0, rfl, ?_⟩, by decide, getD_bd (by decide) hbd⟩
      have hi' : i < S.pg := by omega
      simp [World.cell?, hX, List.getD, hi, List.getElem?_append]
    have hsv : Sv21 w4 (fun k => V k ∨ k = gl) (.agg #[.slice (some ⟨gl, 0, none⟩) S.pg S.pg, .bool false, .int .i64 NR]) ⟨la21 S.pg S.tn (sh21 S x y).b, false, nn.wr⟩ := ⟨some ⟨gl, 0, none⟩, S.pg, by rw [hlen, HN.out.2.2.1], hsg, .inr ⟨gl, rfl, .inr rfl⟩, by simp, by rw [hlen]; exact Nat.le_refl _⟩
    have hF5 := hF4.put (f' := f) k5 hm5 (V' := fun k => V k ∨ k = gl) (fun k e => .inl e) hsv cb1 (by rintro (e | e); (exact HF2d.out.vb e); omega) (by rintro (e | e); (exact HF2d.out.vm e); omega) (by
      intro k e h
      rcases h with h | h
      · exact HF2d.out.vl k e h
      · have := HF2d.out.lo e
        have : k < v2.heap.size := this.1
        omega) (by rintro k (e | e); (have := HVW.out k e; have := b4.size; have : v2.heap.size ≤ w4.heap.size := this; omega); omega)
    have p3 := hF5.cel (i := 3) rfl
    have p6 := hF5.cel (i := 6) rfl
    have p7 := hF5.cel (i := 7) rfl
    have f3 := hF5.fr 3
    have f6 := hF5.fr 6
    have f7 := hF5.fr 7
    have hp5 := hF5.hp
    have HF5 : Hid (Fi21 w5 b m (c + 1) (fun x' y' => if x' = x ∧ y' = y then some (.agg #[.slice (some ⟨gl, 0, none⟩) S.pg S.pg, .bool false, .int .i64 NR]) else f x' y') ta tc (some ⟨g, 0, none⟩) cap (fun k => V k ∨ k = gl) { S with lg := S.lg ++ [(kd, x, y)], pa := up21 S.pa x y ⟨la21 S.pg S.tn (sh21 S x y).b, false, nn.wr⟩ }) := hF5
    have HP5 : Hid (w5.heap[b]? = some (.cells #[.int .i64 (S.pg : Int), .int .i64 (S.ps : Int), .int .i64 S.ac, .bool S.on, .int .i64 S.lm, .map (some m), .int .i64 S.lf, .slice ta S.tn.length tc, .slice (some ⟨g, 0, none⟩) (S.lg ++ [(kd, x, y)]).length cap] 96 (0, 0))) := hp5
    have hrc : rc21 S = 213 := by simp [rc21, hlf]
    have hrn : rn21 S kd x y nn = cu21 S kd x y nn := by simp [rn21, hlf]
    clear hF5 hp5 hF4 hm5 hg5 hsv hsg hX
    go_wp2_with fail
    go_ret
    (try rw [hrc])
    (try rw [hrn])
    refine ⟨rfl, fun k => F k ∨ k = g ∨ k = gl, ?_, ?_, ?_⟩
    · refine ⟨m, c + 1, _, none, 0, some ⟨g, 0, none⟩, cap, fun k => V k ∨ k = gl, HF5.out.re (S' := cu21 S kd x y nn) ?_ rfl rfl ⟨SegK.nil (by decide) _ _, .inl rfl, fun _ => rfl, by simp [cu21]⟩ ?_, .inl hFb, .inl hFm, ?_, ?_, ?_⟩
      · exact ((Kp.set (S := fun k => k = b) rfl _).trans (Kp.set (S := fun k => k = b) rfl _) (fun _ _ e => e)).trans (Kp.set (S := fun k => k = b) rfl _) (fun _ _ e => e)
      · simp [World.setCell, Array.getElem?_modify, HP5.out, cu21]
      · intro k e
        simp [Value.ownBlock] at e
        exact .inr (.inl e.symm)
      · rintro k (e | e)
        · exact .inl (hFV k e)
        · exact .inr (.inr e)
      · have z5 := k5.size
        have z4 := b4.size
        have z4' : v2.heap.size ≤ w4.heap.size := z4
        rintro k (e | e | e)
        · have := hFs k e; simp; omega
        · have := (HF2.out.lo (k := g) rfl).1; subst e; simp; omega
        · subst e; simp; omega
    · rintro k (e | e | e)
      · exact .inl e
      · exact HFG.out k e
      · exact .inr (by subst e; omega)
    · have K1 : Kp F v2 w4 := by have := Kp.of_below (S := F) b4; exact ⟨this.os, this.tape, this.output, this.size, this.block⟩
      exact ((((HKA.out.trans K1 (fun _ _ e => e)).trans (k5.mono (S' := F) (fun i _ e => e ▸ hFm)) (fun _ _ e => e)).trans (Kp.set (S := F) hFb _) (fun _ _ e => e)).trans (Kp.set (S := F) hFb _) (fun _ _ e => e)).trans (Kp.set (S := F) hFb _) (fun _ _ e => e)
  · have hlf' : (S.lf == 1) = false := by simp [hlf]
    have HC0 : v2.drew.cell? ⟨b, 5, none⟩ = some (.map (some m)) ∧ v2.drew.cell? ⟨g5, 0, none⟩ = some (.int .i64 x) ∧ v2.drew.cell? ⟨g5, 1, none⟩ = some (.int .i64 y) ∧ v2.drew.cell? ⟨g7, 0, none⟩ = some (.slice ra NL rc) ∧ v2.drew.cell? ⟨g7, 1, none⟩ = some (.bool NE) ∧ v2.drew.cell? ⟨g7, 2, none⟩ = some (.int .i64 NR) := ⟨HF2d.out.cel (i := 5) rfl, two_cell0 n5, two_cell1 n5, three_cell0 n7, three_cell1 n7, three_cell2 n7⟩
    have HHC0 : Hid (v2.drew.cell? ⟨b, 5, none⟩ = some (.map (some m)) ∧ v2.drew.cell? ⟨g5, 0, none⟩ = some (.int .i64 x) ∧ v2.drew.cell? ⟨g5, 1, none⟩ = some (.int .i64 y) ∧ v2.drew.cell? ⟨g7, 0, none⟩ = some (.slice ra NL rc) ∧ v2.drew.cell? ⟨g7, 1, none⟩ = some (.bool NE) ∧ v2.drew.cell? ⟨g7, 2, none⟩ = some (.int .i64 NR)) := HC0
    clear HC0
    obtain ⟨y0, hy0⟩ : ∃ y0, y0 = v2.drew := ⟨_, rfl⟩
    have HY0 : Hid (v2.drew = y0) := hy0.symm
    rw [HY0.out] at HF2d HHC0
    have hF4 := HF2d.out
    obtain ⟨w5, hr5, hm5, hg5⟩ := hF4.hm.store HCB.out.2.1 hx hy (.agg #[.slice ra NL rc, .bool NE, .int .i64 NR])
    have k5 : Kp (fun k => k = m) y0 w5 := Kp.grown hg5 (fun i e => by injection e with e; exact e.symm)
    obtain ⟨cb1, cb2, cb3, cb4, cb5, cb6⟩ := HCB.out
    have hsz0 : y0.heap.size = v2.heap.size := by rw [hy0]; rfl
    have hkr : ∀ k, ra = some ⟨k, 0, none⟩ → w.heap.size ≤ k ∧ k < g7 := fun k e => ⟨by
      rcases HCL.out.1.2.1 with h | ⟨j, h1, h2, h3⟩
      · rw [h] at e; cases e
      · rw [h1] at e; cases e; exact h2, HCL.out.2 k e⟩
    have hg7v : g7 < v2.heap.size := (Array.getElem?_eq_some_iff.1 n7).1
    have hgr : ∀ k, ra = some ⟨k, 0, none⟩ → k ≠ g := fun k e => by
      have := hkr k e
      rcases HGL.out with h | h
      · have := (HF.out.lo h).1; omega
      · have := HZ.out.2.2.2; omega
    have hsl : Sl21 y0 (fun k => V k ∨ ra = some ⟨k, 0, none⟩) ra nn.b rc := by
      obtain ⟨h1, h2, h3, h4⟩ := HCL.out.1
      have hu' : Sl21 u (fun k => V k ∨ ra = some ⟨k, 0, none⟩) ra nn.b rc := ⟨h1, by rcases h2 with h2 | ⟨k, h2, _, _⟩; (exact .inl h2); (exact .inr ⟨k, h2, .inr h2⟩), h3, h4⟩
      refine hu'.kp (fun k e => ?_) (fun _ e => e)
      rw [hy0]
      refine HK2.out.block k ?_ ?_
      · rcases e with e | e
        · exact HFu.out.vs k e
        · have := hkr k e; have := HZ.out.2.2.2; omega
      · rintro (e' | e')
        · rcases e with e | e
          · exact HFu.out.vb (e' ▸ e)
          · have := hkr k e; omega
        · rcases e with e | e
          · exact HFu.out.vl k e' e
          · have := hkr k e; have := (HF.out.lo e').1; omega
    have hsv : Sv21 y0 (fun k => V k ∨ ra = some ⟨k, 0, none⟩) (.agg #[.slice ra NL rc, .bool NE, .int .i64 NR]) nn := ⟨ra, rc, by rw [HN.out.2.1, HN.out.2.2.1, HN.out.2.2.2], hsl⟩
    have hF5 := hF4.put (f' := f) k5 hm5 (V' := fun k => V k ∨ ra = some ⟨k, 0, none⟩) (fun k e => .inl e) hsv cb1 (by rintro (e | e); (exact hF4.vb e); (have := hkr _ e; omega)) (by rintro (e | e); (exact hF4.vm e); (have := hkr _ e; omega)) (by
      intro k e h
      rcases h with h | h
      · exact hF4.vl k e h
      · simp [Value.ownBlock] at e
        exact hgr k h e.symm) (by rintro k (e | e); (exact hF4.vs k e); (have := hkr k e; omega))
    have HF5 : Hid (Fi21 w5 b m (c + 1) (fun x' y' => if x' = x ∧ y' = y then some (.agg #[.slice ra NL rc, .bool NE, .int .i64 NR]) else f x' y') ta tc (some ⟨g, 0, none⟩) cap (fun k => V k ∨ ra = some ⟨k, 0, none⟩) { S with lg := S.lg ++ [(kd, x, y)], pa := up21 S.pa x y nn }) := hF5
    have p6 : w5.cell? ⟨b, 6, none⟩ = some (.int .i64 S.lf) := hF5.cel (i := 6) rfl
    have f6 := hF5.fr 6
    have HP5 : Hid (w5.heap[b]? = some (.cells #[.int .i64 (S.pg : Int), .int .i64 (S.ps : Int), .int .i64 S.ac, .bool S.on, .int .i64 S.lm, .map (some m), .int .i64 S.lf, .slice ta S.tn.length tc, .slice (some ⟨g, 0, none⟩) (S.lg ++ [(kd, x, y)]).length cap] 96 (0, 0))) := hF5.hp
    have hrc : rc21 S = 0 := by simp [rc21, hlf]
    have hrn : rn21 S kd x y nn = go21 S kd x y nn := by simp [rn21, hlf]
    have hwr : IntKind.i64.wrap (S.lf - 1) = S.lf - 1 := IntWalk.i64_in _ (by have := hO.lf; omega)
    have HKR : Hid (∀ k, ra = some ⟨k, 0, none⟩ → w.heap.size ≤ k ∧ k < g7) := hkr
    have HSZ : Hid (y0.heap.size = v2.heap.size ∧ g7 < v2.heap.size) := ⟨hsz0, hg7v⟩
    have HMX : Hid (∃ q, q = max 0 (S.lf - 1) ∧ (S.lf = 0 ∧ q = 0 ∨ 0 < S.lf - 1 ∧ q = S.lf - 1)) := ⟨_, rfl, by have := hO.lf; omega⟩
    have HFIN : ∀ w6 : World, w6 = w5.setCell ⟨b, 6, none⟩ (.int .i64 (max 0 (S.lf - 1))) → Fn21 w w6 b F (go21 S kd x y nn) := by
      intro w6 hw6
      refine ⟨fun k => F k ∨ k = g ∨ ra = some ⟨k, 0, none⟩, ?_, ?_, ?_⟩
      · refine ⟨m, c + 1, _, ta, tc, some ⟨g, 0, none⟩, cap, fun k => V k ∨ ra = some ⟨k, 0, none⟩, HF5.out.re (S' := go21 S kd x y nn) ?_ rfl rfl HF5.out.ht ?_, .inl hFb, .inl hFm, ?_, ?_, ?_⟩
        · rw [hw6]; exact Kp.set (S := fun k => k = b) rfl _
        · rw [hw6]; simp [World.setCell, Array.getElem?_modify, HP5.out, go21]
        · intro k e
          simp [Value.ownBlock] at e
          exact .inr (.inl e.symm)
        · rintro k (e | e)
          · exact .inl (hFV k e)
          · exact .inr (.inr e)
        · have z5 := k5.size
          rw [hw6]
          rintro k (e | e | e)
          · have := hFs k e; simp; omega
          · have := (HF2.out.lo (k := g) rfl).1; subst e; simp; omega
          · have := hkr k e; simp; omega
      · rintro k (e | e | e)
        · exact .inl e
        · exact HFG.out k e
        · exact .inr (hkr k e).1
      · have K1 : Kp F w y0 := by have := HKA.out; rw [hy0]; exact ⟨this.os, this.tape, this.output, this.size, this.block⟩
        rw [hw6]
        exact (K1.trans (k5.mono (S' := F) (fun i _ e => e ▸ hFm)) (fun _ _ e => e)).trans (Kp.set (S := F) hFb _) (fun _ _ e => e)
    have HFIN' : Hid (∀ w6 : World, w6 = w5.setCell ⟨b, 6, none⟩ (.int .i64 (max 0 (S.lf - 1))) → Fn21 w w6 b F (go21 S kd x y nn)) := HFIN
    clear hF5 hF4 hm5 hg5 hsv hsl hgr hkr hg7v hsz0 HFIN hy0
    go_wp2_with fail
    refine plain_region16 (fun Y => Y.cell? ⟨b, 5, none⟩ = some (.map (some m)) ∧ Y.cell? ⟨g5, 0, none⟩ = some (.int .i64 x) ∧ Y.cell? ⟨g5, 1, none⟩ = some (.int .i64 y) ∧ Y.cell? ⟨g7, 0, none⟩ = some (.slice ra NL rc) ∧ Y.cell? ⟨g7, 1, none⟩ = some (.bool NE) ∧ Y.cell? ⟨g7, 2, none⟩ = some (.int .i64 NR)) 6 (by kernel_rfl) (by rw [HY0.out]; exact HHC0.out) (fun hHeld => ?_)
    rw [HY0.out] at hHeld ⊢
    refine wpAnyK_take (i := 0) (v := .pointer (some ⟨b, 0, none⟩)) rfl (by kernel_rfl) (by kernel_rfl) (by kernel_rfl) (by kernel_rfl) (fun _ _ _ h => h) (Or.inl ⟨by rfl, fun w hSw => by go_simp⟩) hHeld ?_
    simp only [List.getElem_toArray, List.getElem_cons_zero, Act.put, List.setIfInBounds_toArray, List.set_cons_zero, List.set_cons_succ]
    refine wpAnyK_take (i := 1) (v := .pointer (some ⟨b, 0, none⟩)) rfl (by kernel_rfl) (by kernel_rfl) (by kernel_rfl) (by kernel_rfl) (fun _ _ _ h => h) (Or.inl ⟨by rfl, fun w hSw => by go_simp⟩) hHeld ?_
    simp only [List.getElem_toArray, List.getElem_cons_zero, List.getElem_cons_succ, Act.put, List.setIfInBounds_toArray, List.set_cons_zero, List.set_cons_succ]
    refine wpAnyK_take (i := 2) (v := .pointer (some ⟨b, 5, none⟩)) rfl (by kernel_rfl) (by kernel_rfl) (by kernel_rfl) (by kernel_rfl) (fun _ _ _ h => h) (Or.inl ⟨by rfl, fun w hSw => by go_simp⟩) hHeld ?_
    simp only [List.getElem_toArray, List.getElem_cons_zero, List.getElem_cons_succ, Act.put, List.setIfInBounds_toArray, List.set_cons_zero, List.set_cons_succ]
    refine wpAnyK_take (i := 3) (v := .map (some m)) rfl (by kernel_rfl) (by kernel_rfl) (by kernel_rfl) (by kernel_rfl) (fun _ _ _ h => h) (Or.inl ⟨by rfl, fun w hSw => by go_simp⟩) hHeld ?_
    simp only [List.getElem_toArray, List.getElem_cons_zero, List.getElem_cons_succ, Act.put, List.setIfInBounds_toArray, List.set_cons_zero, List.set_cons_succ]
    refine wpAnyK_take (i := 4) (v := .agg #[.int .i64 x, .int .i64 y]) rfl (by kernel_rfl) (by kernel_rfl) (by kernel_rfl) (by kernel_rfl) (fun _ _ _ h => h) (Or.inl ⟨by rfl, fun w hSw => by go_simp⟩) hHeld ?_
    simp only [List.getElem_toArray, List.getElem_cons_zero, List.getElem_cons_succ, Act.put, List.setIfInBounds_toArray, List.set_cons_zero, List.set_cons_succ]
    refine wpAnyK_take (i := 5) (v := .agg #[.slice ra NL rc, .bool NE, .int .i64 NR]) rfl (by kernel_rfl) (by kernel_rfl) (by kernel_rfl) (by kernel_rfl) (fun _ _ _ h => h) (Or.inl ⟨by rfl, fun w hSw => by go_simp⟩) hHeld ?_
    simp only [List.getElem_toArray, List.getElem_cons_zero, List.getElem_cons_succ, Act.put, List.setIfInBounds_toArray, List.set_cons_zero, List.set_cons_succ]
    refine wpAnyK_one (i := 6) (by kernel_rfl) rfl (fun K hK => ?_)
    (try simp only [List.getElem_toArray, List.getElem_cons_zero, List.getElem_cons_succ, Act.put, List.setIfInBounds_toArray, List.set_cons_zero, List.set_cons_succ])
    go_simp
    refine hK.out _ _ (fun h => absurd rfl h) (fun _ => ?_)
    clear hK K
    (try simp only [List.getElem_toArray, List.getElem_cons_zero, List.getElem_cons_succ, Act.put, List.setIfInBounds_toArray, List.set_cons_zero, List.set_cons_succ])
    refine wpAnyK_done (by kernel_rfl) ?_ _
    obtain ⟨q, hq, hqq⟩ := HMX.out
    rw [← hq] at HFIN'
    rcases hqq with ⟨h1, h2⟩ | ⟨h1, h2⟩
    · subst h2
      rw [h1] at p6
      clear hwr hq h1 HMX d6
      go_wp2_with fail
      go_ret
      (try rw [hrc])
      (try rw [hrn])
      exact ⟨rfl, HFIN'.out _ rfl⟩
    · have h3 : ¬ S.lf - 1 ≤ 0 := by omega
      have h4 : 1 < S.lf := by omega
      rw [h2] at HFIN'
      clear hq h2 HMX d6
      go_wp2_with fail
      go_ret
      (try rw [hrc])
      (try rw [hrn])
      exact ⟨rfl, HFIN'.out _ rfl⟩
end Go.Proofs.YtmjlpfmacblcpaaDoor
