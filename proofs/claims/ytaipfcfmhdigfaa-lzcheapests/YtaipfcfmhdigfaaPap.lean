import Derived.Test.YtaipfcfmhdigfaaPao
import Derived.Lib.SmallJoins
namespace Go.Proofs.Ytaipfcfmhdigfaa
open Go.RowKit
set_option linter.unusedVariables false
set_option linter.unusedSimpArgs false

/-- A store within a row of the call's own: it is still the call's own. -/
theorem own_setT {w : World} {base n c g : Nat} {e : TypeId} {xs : List Value} (h : w.ownsRow base e 3 (.slice (some ⟨g, 0, none⟩) n c) n xs) (i : Nat) (v : Value) : ∃ xs', (w.setCell ⟨g, i, none⟩ v).ownsRow base e 3 (.slice (some ⟨g, 0, none⟩) n c) n xs' := by
  rcases h.2 with ⟨h1, _⟩ | ⟨g', cap, cur, h1, h2, h3, h4, h5, h6, h7⟩
  · simp at h1
  · simp only [Value.slice.injEq, Option.some.injEq, Addr.mk.injEq] at h1
    obtain ⟨⟨rfl, _⟩, _, rfl⟩ := h1
    have hb := Go.Joins.block_setCell h3 (i := i) v
    refine ⟨(cur.setIfInBounds i v).toList.take (n * 3), ?_, .inr ⟨g, c, _, rfl, h2, hb, h4, h5, by simpa using h6, rfl⟩⟩
    have : n * 3 ≤ cur.size := by rw [h6]; exact Nat.mul_le_mul_right 3 h4
    simp [List.length_take]
    omega
theorem own_cellT {w : World} {base n c g : Nat} {e : TypeId} {xs : List Value} (h : w.ownsRow base e 3 (.slice (some ⟨g, 0, none⟩) n c) n xs) (j : Nat) (hj : j < n * 3) : (∃ v, w.cell? ⟨g, j, none⟩ = some v) ∧ w.frozen? ⟨g, j, none⟩ = false := by
  rcases h.2 with ⟨h1, _⟩ | ⟨g', cap, cur, h1, h2, h3, h4, h5, h6, h7⟩
  · simp at h1
  · simp only [Value.slice.injEq, Option.some.injEq, Addr.mk.injEq] at h1
    obtain ⟨⟨rfl, _⟩, _, rfl⟩ := h1
    have : j < cur.size := by rw [h6]; have := Nat.mul_le_mul_right 3 h4; omega
    exact ⟨⟨cur[j], by simp [World.cell?, h3, this]⟩, by simp [World.frozen?, h3]⟩
/-- Two values of three cells behind a row of the call's own, whatever it holds. -/
theorem wpList_appX2 {P : Program} {ops : Array Oper} {rest : List Oper} {o : Oper} {a : Act} {Q : Exit → Act → World → Prop} (hgd : o.guard = none) (s x : Operand) (t : TypeId)
    (ho : o.op = .call { callee := .builtin .append, args := #[s, x], argTypes := #[t, t] })
    (base : Nat) (e : TypeId) (i : TypeInfo) (z : Value) (bytes : Nat) (ht : P.underlying t = some (.slice e)) (hi : P.info? e = some i) (hz : i.zero = some z)
    (hsize : i.size = 3) (hby : i.bytes = bytes) (hzs : z.cells.size = 3) (w0 : World) (y y' : Tok7)
    {ra : Option Addr} {n rc : Nat} {xs : List Value} (hown : w0.ownsRow base e 3 (.slice ra n rc) n xs) (hs : a.eval s = .slice ra n rc) (hx : a.eval x = .slice (some ⟨w0.heap.size, 0, none⟩) 2 2)
    (h63 : n + 2 ≤ 140737488355328) (hbytes : (n + 2) * bytes ≤ 140737488355328) (hbase : base ≤ w0.heap.size)
    (h : ∀ (b : Option Addr) (c : Nat) (w' : World), Kp (fun k => (Value.slice ra n rc).ownBlock = some k) w0 w' → wpList P ops Q rest (a.put o.dst (.slice b (n + 2) c)) w') : wpList P ops Q (o :: rest) a (w0.alloc (.cells #[.int .u8 y.lit, .int .i64 y.len, .int .i64 y.dist, .int .u8 y'.lit, .int .i64 y'.len, .int .i64 y'.dist] e)) := by
  have hnew : ∀ j u, ([.int .u8 y.lit, .int .i64 y.len, .int .i64 y.dist, .int .u8 y'.lit, .int .i64 y'.len, .int .i64 y'.dist] : List Value)[j]? = some u → (w0.alloc (.cells #[.int .u8 y.lit, .int .i64 y.len, .int .i64 y.dist, .int .u8 y'.lit, .int .i64 y'.len, .int .i64 y'.dist] e)).cell? ((⟨w0.heap.size, 0, none⟩ : Addr).add j) = some u := by
    intro j u hu
    have hadd : (⟨w0.heap.size, 0, none⟩ : Addr).add j = ⟨w0.heap.size, j, none⟩ := by unfold Addr.add; split <;> simp_all
    rw [hadd]
    have hh := heap_alloc_new w0 (.cells #[.int .u8 y.lit, .int .i64 y.len, .int .i64 y.dist, .int .u8 y'.lit, .int .i64 y'.len, .int .i64 y'.dist] e)
    simp only [World.cell?, hh]
    simpa using hu
  refine wpList_append_own _ hgd s x t ho base e i z 3 bytes ht hi hz hsize hby hzs (by decide) _ n xs hs (hown.alloc _) ⟨w0.heap.size, 0, none⟩ 2 2 [.int .u8 y.lit, .int .i64 y.len, .int .i64 y.dist, .int .u8 y'.lit, .int .i64 y'.len, .int .i64 y'.dist] hx rfl hnew (by intro u hu; simp only [List.mem_cons, List.not_mem_nil, or_false] at hu; rcases hu with rfl | rfl | rfl | rfl | rfl | rfl <;> rfl) (by unfold maxLen; omega) hbytes (by simp; omega) ?_
  intro v' w' h1 h2 _
  obtain ⟨g, c, hv, _⟩ := own_shapeT h1 (by omega)
  subst hv
  refine h _ c w' ?_
  exact (Kp.alloc (S := fun k => (Value.slice ra n rc).ownBlock = some k) w0 _).trans (Kp.grown (S := fun k => (Value.slice ra n rc).ownBlock = some k) h2 (fun i e => e)) (fun _ _ e => e)
/-- The tokens are written over; whose list it is stays. -/
def OvI (w6 wr : World) (oa : Option Addr) (n c base : Nat) (ti : Value) : Prop := ∃ (i : Nat) (xs : List Value), i ≤ n ∧ ti = .int .i64 (i : Int) ∧ wr.ownsRow base 56 3 (.slice oa n c) n xs ∧ Kp (fun k => (Value.slice oa n c).ownBlock = some k) w6 wr
set_option maxRecDepth 100000 in
set_option maxHeartbeats 8000000 in
theorem lzParses_in (w : World) (a : Option Addr) (n cap : Nat) (D : List Int) (hn : D.length = n) (hs : Seg w a D) (hnil : a = none → cap = 0) (hl : n ≤ 1073741824) (win chain : Int) (lazy : Bool) :
    Calls Try.prog 5 #[.slice a n cap, look7 win chain lazy] w fun e w' => e = .returned (.bool true) ∧ Below w.heap.size w w' := by
  obtain ⟨i0, hi, hz0, hz1, hz2⟩ := info_parts info_tokA
  obtain ⟨wA, hwA⟩ : ∃ wA, wA = w.alloc (.cells #[.int .i64 win, .int .i64 chain, .bool lazy] 44) := ⟨_, rfl⟩
  have bA : Below w.heap.size w wA := by rw [hwA]; exact below_box _ _
  have lA : LkAt wA w.heap.size win chain lazy := boxL hwA
  have HWA : Hid (wA = w.alloc (.cells #[.int .i64 win, .int .i64 chain, .bool lazy] 44)) := hwA
  obtain ⟨ob, hob⟩ : ∃ ob, ob = w.heap.size := ⟨_, rfl⟩
  have HOB : Hid (ob = w.heap.size) := hob
  rw [← hob] at lA
  have hol := lA.lt
  have HLA : Hid (∀ W, Below wA.heap.size wA W → LkAt W ob win chain lazy) := fun W hW => lA.of_block (hW.block ob hol)
  have HSA : Hid (∀ W, Below wA.heap.size wA W → Seg W a D) := fun W hW => (hs.old bA).old hW
  subst hn
  have hTl := parse7_len (D := D) (win := win) (chain := chain) (lazy := lazy)
  have hTf := parse7_fit (D := D) (win := win) (chain := chain) (lazy := lazy) hs.mem (by omega)
  have CL := lend_any a D cap wA (hs.old bA) hnil (by omega)
  have CK : Hid (∀ W, Calls Try.prog 22 #[look7 win chain lazy] W fun e w' => e = .returned (look7 win chain lazy) ∧ Below W.heap.size W w') := look7_any win chain lazy
  have HR : Hid (∀ W, Below wA.heap.size wA W → Calls Try.prog 23 #[.slice a D.length cap, look7 win chain lazy] W (ParQ W 73 (parse7 D win chain lazy) (opt7 win chain))) := fun W hW => rpar7 D a D.length cap win chain lazy rfl W (HSA.out W hW) (by omega)
  have HO1 : Hid (∀ W, Calls Try.prog 24 #[look7 win chain lazy] W fun e w' => e = .returned (.int .i64 (opt7 win chain)) ∧ Below W.heap.size W w') := popt7 win chain lazy
  have HO2 : Hid (∀ W, Calls Try.prog 25 #[look7 win chain lazy] W fun e w' => e = .returned (.int .i64 (opt7 win chain)) ∧ Below W.heap.size W w') := ropt7 win chain lazy
  have HLK : Hid (look7 win chain lazy = .agg #[.int .i64 win, .int .i64 chain, .bool lazy]) := rfl
  clear hwA hob lA hs
  rw [HLK.out]
  go_enter Try.func5, Try.ntmps5
  go_wp2_with fail
  rw [← HWA.out, ← HOB.out]
  refine CL.mono ?_
  rintro e w1 ⟨g, cp, rfl, O1, b1⟩
  obtain ⟨k0, k1, k2⟩ := HLA.out w1 b1
  obtain ⟨_, a', cc, hv, sl, hx, hcp, _⟩ := own_seg O1 (M := 255) (by decide) (lent_bd (HSA.out w1 b1).mem)
  cases hv
  have s1 : Seg w1 (some ⟨g, 0, none⟩) D := by have := SegK.take sl D.length; rwa [lent_take] at this
  have HP : Hid (∀ W, Below w1.heap.size w1 W → Calls Try.prog 21 #[.slice (some ⟨g, 0, none⟩) D.length cp, look7 win chain lazy] W (ParQ W 56 (parse7 D win chain lazy) (opt7 win chain))) := fun W hW => ppar7 D (some ⟨g, 0, none⟩) D.length cp win chain lazy rfl W (s1.old hW) (by omega) (by intro h; cases h) hl
  have HKP : Hid (∀ W, Below w1.heap.size w1 W → Below wA.heap.size wA W → Calls Try.prog 27 #[.slice (some ⟨g, 0, none⟩) (lentL D).length cp, .slice a D.length cap] W fun e w' => e = .returned (.bool true) ∧ Below W.heap.size W w') := fun W hW hW2 => by
    have := kept_any a (some ⟨g, 0, none⟩) (lentL D) D cp cap W (sl.old hW) (HSA.out W hW2) hnil (by omega)
    rwa [beq_self_eq_true] at this
  clear O1 sl s1 CL hx
  generalize parse7 D win chain lazy = T at *
  generalize opt7 win chain = op at *
  generalize (lentL D).length = ll at *
  go_wp2_with fail
  refine (CK.out w1).mono ?_
  rintro e w2 ⟨rfl, b2⟩
  have B2 : Below wA.heap.size wA w2 := b1.trans (b2.mono b1.size)
  go_wp2_with fail
  refine (HP.out w2 b2).mono ?_
  rintro e w3 ⟨xa, xc, rfl, O3, b3⟩
  have b13 : Below w1.heap.size w1 w3 := b2.trans (b3.mono b2.size)
  have B3 : Below wA.heap.size wA w3 := b1.trans (b13.mono b1.size)
  obtain ⟨m0, m1, m2⟩ := HLA.out w3 B3
  clear k0 k1 k2
  go_wp2_with fail
  refine (CK.out w3).mono ?_
  rintro e w4 ⟨rfl, b4⟩
  have b14 : Below w1.heap.size w1 w4 := b13.trans (b4.mono b13.size)
  go_wp2_with fail
  refine (HP.out w4 b14).mono ?_
  rintro e w5 ⟨ya, yc, rfl, O5, b5⟩
  have b15 : Below w1.heap.size w1 w5 := b14.trans (b5.mono b14.size)
  have B5 : Below wA.heap.size wA w5 := b1.trans (b15.mono b1.size)
  obtain ⟨n0, n1, n2⟩ := HLA.out w5 B5
  have CR := HR.out w5 B5
  rw [HLK.out] at CR
  clear m0 m1 m2
  go_wp2_with fail
  refine CR.mono ?_
  rintro e w6 ⟨va, vc, rfl, O6, b6⟩
  have b16 : Below w1.heap.size w1 w6 := b15.trans (b6.mono b15.size)
  have B6 : Below wA.heap.size wA w6 := b1.trans (b16.mono b1.size)
  have b36 : Below w3.heap.size w3 w6 := (b4.trans (b5.mono b4.size)).trans (b6.mono (Nat.le_trans b4.size b5.size))
  have O36 := own_belowT O3 b36
  have O56 := own_belowT O5 b6
  have sx : SegT w6 xa T := own_segT O36 rfl hTf
  have sy : SegT w6 ya T := own_segT O56 rfl hTf
  have sv : SegT w6 va T := own_segT O6 rfl hTf
  have HSS : Hid (∀ (W : World) (pa : Option Addr) (pc : Nat), (pa = xa ∨ pa = ya) → Below w6.heap.size w6 W → Calls Try.prog 26 #[.slice pa T.length pc, .slice va T.length vc] W fun e w' => e = .returned (.bool true) ∧ Below w6.heap.size w6 w') := fun W pa pc hpa hW => by
    have sp : SegT W pa T := by
      rcases hpa with rfl | rfl
      · exact sx.old hW
      · exact sy.old hW
    refine (same7 T pa va T.length pc vc rfl W sp (sv.old hW) (by omega)).mono ?_
    rintro e w' ⟨rfl, hb⟩
    exact ⟨rfl, hW.trans (hb.mono hW.size)⟩
  have H1 : Hid (∀ W, Below w6.heap.size w6 W → Calls Try.prog 22 #[.agg #[.int .i64 win, .int .i64 chain, .bool lazy]] W fun e w' => e = .returned (look7 win chain lazy) ∧ Below w6.heap.size w6 w') := fun W hW => by
    refine (CK.out W).mono ?_
    rintro e w' ⟨rfl, hb⟩
    exact ⟨rfl, hW.trans (hb.mono hW.size)⟩
  have H2 : Hid (∀ W, Below w6.heap.size w6 W → Calls Try.prog 24 #[look7 win chain lazy] W fun e w' => e = .returned (.int .i64 op) ∧ Below w6.heap.size w6 w') := fun W hW => by
    refine (HO1.out W).mono ?_
    rintro e w' ⟨rfl, hb⟩
    exact ⟨rfl, hW.trans (hb.mono hW.size)⟩
  have H3 : Hid (∀ W, Below w6.heap.size w6 W → Calls Try.prog 25 #[.agg #[.int .i64 win, .int .i64 chain, .bool lazy]] W fun e w' => e = .returned (.int .i64 op) ∧ Below w6.heap.size w6 w') := fun W hW => by
    refine (HO2.out W).mono ?_
    rintro e w' ⟨rfl, hb⟩
    exact ⟨rfl, hW.trans (hb.mono hW.size)⟩
  have H4 : Hid (∀ W, Below w6.heap.size w6 W → Calls Try.prog 27 #[.slice (some ⟨g, 0, none⟩) ll cp, .slice a D.length cap] W fun e w' => e = .returned (.bool true) ∧ Below w6.heap.size w6 w') := fun W hW => by
    refine (HKP.out W (b16.trans (hW.mono b16.size)) (B6.trans (hW.mono B6.size))).mono ?_
    rintro e w' ⟨rfl, hb⟩
    exact ⟨rfl, hW.trans (hb.mono hW.size)⟩
  have HCL : Hid (∀ W, Below w6.heap.size w6 W → W.cell? ⟨ob, 0, none⟩ = some (.int .i64 win) ∧ W.cell? ⟨ob, 1, none⟩ = some (.int .i64 chain) ∧ W.cell? ⟨ob, 2, none⟩ = some (.bool lazy)) := fun W hW => by
    have := HLA.out W (B6.trans (hW.mono B6.size))
    exact ⟨this.c0, this.c1, this.c2⟩
  have bt0 : Below w6.heap.size w6 w6.drew := (Below.refl _ _).drew
  have hcd := HCL.out _ bt0
  have hd0 := hcd.1
  have hd1 := hcd.2.1
  have hd2 := hcd.2.2
  clear hcd n0 n1 n2 CR CK HO1 HO2 HKP HP HR
  have HTL : Hid (T.length ≤ 1073741824) := by show _ ≤ _; omega
  have hXY : ∀ k, (Value.slice xa T.length xc).ownBlock = some k → w2.heap.size ≤ k ∧ k < w3.heap.size := fun k e => O3.lt k e
  have hyf : ∀ b off, ya = some ⟨b, off, none⟩ → 0 < T.length → ¬ (Value.slice xa T.length xc).ownBlock = some b := fun b off e _ h => by
    have h1 := (O5.lt b (by rw [e]; rfl)).1
    have h2 := (hXY b h).2
    have := b4.size
    omega
  have hvf : ∀ b off, va = some ⟨b, off, none⟩ → 0 < T.length → ¬ (Value.slice xa T.length xc).ownBlock = some b := fun b off e _ h => by
    have h1 := (O6.lt b (by rw [e]; rfl)).1
    have h2 := (hXY b h).2
    have := b4.size
    have := b5.size
    omega
  have HEND : Hid (∀ W, Kp (fun k => (Value.slice xa T.length xc).ownBlock = some k) w6 W → (Calls Try.prog 26 #[.slice ya T.length yc, .slice va T.length vc] W fun e w' => e = .returned (.bool true) ∧ Below W.heap.size W w') ∧ Below wA.heap.size wA W) := fun W hK => ⟨same7 T ya va T.length yc vc rfl W (sy.kp hK hyf) (sv.kp hK hvf) (by omega), B6.trans (hK.below (fun k e => by have := (hXY k e).1; have := B2.size; omega) B6.size)⟩
  have hz2w : w2.heap.size ≤ w6.heap.size := by have := b36.size; have := b3.size; omega
  clear O3 O5 O6 sx sy sv hyf hvf O56 hTl
  generalize T.length = tl at *
  go_wp2_with fail
  go_region_held3 (fun w' => w'.cell? ⟨ob, 0, none⟩ = some (.int .i64 win) ∧ w'.cell? ⟨ob, 1, none⟩ = some (.int .i64 chain) ∧ w'.cell? ⟨ob, 2, none⟩ = some (.bool lazy))
    (first | (exact HCL.out _ (by assumption)) | (exact ⟨hd0, hd1, hd2⟩) | go_keep)
    (first
      | (go_at_call 22; refine (H1.out _ (by assumption)).mono ?_; rintro e wl ⟨rfl, btl⟩)
      | (go_at_call 24; refine (H2.out _ (by assumption)).mono ?_; rintro e wm ⟨rfl, btm⟩)
      | (go_at_call 25; refine (H3.out _ (by assumption)).mono ?_; rintro e wn ⟨rfl, btn⟩)
      | (go_at_call 26; refine (HSS.out _ _ _ (by first | exact .inl rfl | exact .inr rfl) (by assumption)).mono ?_; rintro e wo ⟨rfl, bto⟩)
      | (go_at_call 27; refine (H4.out _ (by assumption)).mono ?_; rintro e wq ⟨rfl, btq⟩))
  all_goals
    have hT46 : tl ≤ 1073741824 := HTL.out
    have OQ := own_belowT O36 btq
    have hzq : w2.heap.size ≤ wq.heap.size := Nat.le_trans hz2w btq.size
    have Kq : Kp (fun k => (Value.slice xa tl xc).ownBlock = some k) w6 wq := Kp.of_below btq
    go_wp2_with fail
    go_loopw [70] (fun ti wr => OvI w6 wr xa tl xc w2.heap.size ti) (fun ti _ => tl - (intOf ti).toNat)
    case atStart => exact ⟨0, _, by omega, rfl, OQ, Kq⟩
    case round =>
      obtain ⟨i, xs, hi0, rfl, OR, KR⟩ := hrel
      by_cases hin : i < tl
      · have hii : (i : Int) < (tl : Int) := by omega
        obtain ⟨gx, _, hv, _⟩ := own_shapeT OR (by omega)
        simp only [Value.slice.injEq] at hv
        obtain ⟨rfl, _, rfl⟩ := hv
        obtain ⟨⟨u0, v0⟩, f0⟩ := own_cellT OR (i * 3) (by omega)
        obtain ⟨⟨u1, v1⟩, f1⟩ := own_cellT OR (i * 3 + 1) (by omega)
        obtain ⟨⟨u2, v2⟩, f2⟩ := own_cellT OR (i * 3 + 2) (by omega)
        have HS3 : Hid (∃ xs', (((wr.setCell ⟨gx, i * 3, none⟩ (.int .u8 0)).setCell ⟨gx, i * 3 + 1, none⟩ (.int .i64 (-1))).setCell ⟨gx, i * 3 + 2, none⟩ (.int .i64 0)).ownsRow w2.heap.size 56 3 (.slice (some ⟨gx, 0, none⟩) tl xc) tl xs') := by
          obtain ⟨x1, o1⟩ := own_setT OR (i * 3) (.int .u8 0)
          obtain ⟨x2, o2⟩ := own_setT o1 (i * 3 + 1) (.int .i64 (-1))
          exact own_setT o2 (i * 3 + 2) (.int .i64 0)
        have HK3 : Hid (Kp (fun k => (Value.slice (some ⟨gx, 0, none⟩) tl xc).ownBlock = some k) w6 (((wr.setCell ⟨gx, i * 3, none⟩ (.int .u8 0)).setCell ⟨gx, i * 3 + 1, none⟩ (.int .i64 (-1))).setCell ⟨gx, i * 3 + 2, none⟩ (.int .i64 0))) :=
          KR.trans (((Kp.set (S := fun k => (Value.slice (some ⟨gx, 0, none⟩) tl xc).ownBlock = some k) (i := i * 3) rfl _).trans (Kp.set (S := fun k => (Value.slice (some ⟨gx, 0, none⟩) tl xc).ownBlock = some k) (i := i * 3 + 1) rfl _) (fun _ _ e => e)).trans (Kp.set (S := fun k => (Value.slice (some ⟨gx, 0, none⟩) tl xc).ownBlock = some k) (i := i * 3 + 2) rfl _) (fun _ _ e => e)) (fun _ _ e => e)
        clear OR KR
        go_wp2_with fail
        go_roundw
        case rel =>
          obtain ⟨xs', o3⟩ := HS3.out
          exact ⟨i + 1, xs', by omega, by go_num, o3, HK3.out⟩
        case measure => simp [intOf]; omega
      · have hge : ¬ (i : Int) < (tl : Int) := by omega
        have hzr : w2.heap.size ≤ wr.heap.size := Nat.le_trans hz2w KR.size
        clear hi0
        go_wp2_with (first | (at_builtin; refine wpList_appX2 rfl (.tmp 78) (.tmp 81) 24 rfl w2.heap.size 56 i0 _ 24 Try.underlying24 hi hz0 hz1 hz2 rfl wr ⟨0, -2, 0⟩ ⟨0, -3, 0⟩ OR rfl rfl (by omega) (by omega) hzr ?_; intro ga gc w8 K8))
        obtain ⟨es, eb⟩ := HEND.out w8 (KR.trans K8 (fun _ _ e => e))
        refine es.mono ?_
        rintro e w9 ⟨rfl, b9⟩
        have B9 := eb.trans (b9.mono eb.size)
        go_wp2_with fail
        refine (lives7 w9).mono ?_
        rintro e w10 ⟨rfl, b10⟩
        have B10 := B9.trans (b10.mono B9.size)
        go_wp2_with fail
        go_ret
        exact ⟨rfl, bA.trans (B10.mono bA.size)⟩
end Go.Proofs.Ytaipfcfmhdigfaa
