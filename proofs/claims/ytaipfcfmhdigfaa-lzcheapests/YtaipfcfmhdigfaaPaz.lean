import Derived.Test.YtaipfcfmhdigfaaPau
namespace Go.Proofs.Ytaipfcfmhdigfaa
open Go.RowKit
set_option linter.unusedVariables false
set_option linter.unusedSimpArgs false

/-- The table from place p on. -/
structure ChT (D : List Int) (W : Nat) (c : Pr7) (wr : World) (gl gf n p : Nat) (A : Nat → Int) (F : Nat → Tok7) : Prop where
  ri : RowI wr gl (n + 1) A
  rk : RowK wr gf (n + 1) F
  le : ∀ q, p ≤ q → q ≤ n → A q = (lea7 D W c q).1
  fi : ∀ q, p ≤ q → q ≤ n → F q = (lea7 D W c q).2
/-- What Cheapest answers. -/
def CheQ (w : World) (ty : TypeId) (T : List Tok7) (v : Int) (e : Ending) (w' : World) : Prop := ∃ oa oc, e = .returned (.tuple #[.slice oa T.length oc, .int .i64 v, .int .i64 0]) ∧ w'.ownsRow w.heap.size ty 3 (.slice oa T.length oc) T.length (flatT T) ∧ Below w.heap.size w w'
def ChI (D : List Int) (W : Nat) (c : Pr7) (wB wr : World) (gl gf n : Nat) (tp : Value) : Prop := ∃ (p : Nat) (A : Nat → Int) (F : Nat → Tok7), p ≤ n ∧ tp = .int .i64 ((p : Int) - 1) ∧ ChT D W c wr gl gf n p A F ∧ Below wB.heap.size wB wr ∧ gl < wr.heap.size ∧ gf < wr.heap.size
def ChJ (D : List Int) (W : Nat) (c : Pr7) (wB wr : World) (gl gf n p : Nat) (tl : Value) : Prop := ∃ (j : Nat) (x : Int × Tok7) (A : Nat → Int) (F : Nat → Tok7), j ≤ 256 ∧ tl = .int .i64 ((j : Int) + 2) ∧ RowI wr gl (n + 1) A ∧ RowK wr gf (n + 1) F ∧ (∀ q, p + 1 ≤ q → q ≤ n → A q = (lea7 D W c q).1) ∧ (∀ q, p + 1 ≤ q → q ≤ n → F q = (lea7 D W c q).2) ∧ A p = x.1 ∧ F p = x.2 ∧
  lea7 D W c p = chg7 D W c p (tab7 D W c (D.length - (p + 1))) j x ∧ Below wB.heap.size wB wr ∧ gl < wr.heap.size ∧ gf < wr.heap.size
def ChO (D : List Int) (W : Nat) (c : Pr7) (w5 wr : World) (n : Nat) (tl tp : Value) : Prop := ∃ (p m oc : Nat) (oa : Option Addr) (T : List Tok7), p ≤ n ∧ m ≤ p ∧ tp = .int .i64 (p : Int) ∧ tl = .slice oa m oc ∧ T.length = m ∧ che7 D W c = T ++ outg7 D W c (D.length - p) p ∧
  wr.ownsRow w5.heap.size 73 3 (.slice oa m oc) m (flatT T) ∧ Below w5.heap.size w5 wr
theorem make_ints7 (n : Nat) (h : n ≤ 1099511627777) (w : World) : (Instr.makeSlice 89 (.int .i64 (n : Int)) (.int .i64 (n : Int))).run Try.prog w = .ok (.slice (some ⟨w.heap.size, 0, none⟩) n n) (w.alloc (.cells (madeCells #[.int .i64 0] n) 3)) :=
  run_make_row' 89 3 (.int .i64 0) 8 Try.underlying89 (by kernel_rfl) rfl .i64 .i64 n (by omega) (by omega) w
theorem make_toks7 (n : Nat) (h : n ≤ 1099511627777) (w : World) : (Instr.makeSlice 23 (.int .i64 (n : Int)) (.int .i64 (n : Int))).run Try.prog w = .ok (.slice (some ⟨w.heap.size, 0, none⟩) n n) (w.alloc (.cells (madeCells #[.int .u8 0, .int .i64 0, .int .i64 0] (n * 3)) 73)) := by
  obtain ⟨i0, hi, hz0, hz1, hz2⟩ := info_parts info_tok7
  have hr := run_make (P := Try.prog) w 23 73 i0 _ Try.underlying23 hi hz0 .i64 .i64 (n : Int) (n : Int) (by omega) (Int.le_refl _) (by rw [hz2]; omega) (by omega)
  simp only [Int.toNat_natCast, hz1] at hr
  exact hr
/-- As wpList_appT; and which blocks are kept. -/
theorem wpList_appTK {P : Program} {ops : Array Oper} {rest : List Oper} {o : Oper} {a : Act} {Q : Exit → Act → World → Prop} (hgd : o.guard = none) (s x : Operand) (t : TypeId)
    (ho : o.op = .call { callee := .builtin .append, args := #[s, x], argTypes := #[t, t] })
    (base : Nat) (e : TypeId) (i : TypeInfo) (z : Value) (bytes : Nat) (ht : P.underlying t = some (.slice e)) (hi : P.info? e = some i) (hz : i.zero = some z)
    (hsize : i.size = 3) (hby : i.bytes = bytes) (hzs : z.cells.size = 3) (w0 : World) (y : Tok7)
    {ra : Option Addr} {n rc : Nat} {l : List Tok7} (hown : w0.ownsRow base e 3 (.slice ra n rc) n (flatT l)) (hs : a.eval s = .slice ra n rc) (hx : a.eval x = .slice (some ⟨w0.heap.size, 0, none⟩) 1 1)
    (h63 : n + 1 ≤ 140737488355328) (hbytes : (n + 1) * bytes ≤ 140737488355328) (hbase : base ≤ w0.heap.size)
    (h : ∀ (b : Option Addr) (c : Nat) (w' : World), w'.ownsRow base e 3 (.slice b (n + 1) c) (n + 1) (flatT (l ++ [y])) → Below base w0 w' → Kp (fun k => (Value.slice ra n rc).ownBlock = some k) w0 w' → wpList P ops Q rest (a.put o.dst (.slice b (n + 1) c)) w') : wpList P ops Q (o :: rest) a (w0.alloc (.cells #[.int .u8 y.lit, .int .i64 y.len, .int .i64 y.dist] e)) := by
  have hnew : ∀ j u, ([.int .u8 y.lit, .int .i64 y.len, .int .i64 y.dist] : List Value)[j]? = some u → (w0.alloc (.cells #[.int .u8 y.lit, .int .i64 y.len, .int .i64 y.dist] e)).cell? ((⟨w0.heap.size, 0, none⟩ : Addr).add j) = some u := by
    intro j u hu
    have hadd : (⟨w0.heap.size, 0, none⟩ : Addr).add j = ⟨w0.heap.size, j, none⟩ := by unfold Addr.add; split <;> simp_all
    rw [hadd]
    have hh := heap_alloc_new w0 (.cells #[.int .u8 y.lit, .int .i64 y.len, .int .i64 y.dist] e)
    simp only [World.cell?, hh]
    simpa using hu
  refine wpList_append_own _ hgd s x t ho base e i z 3 bytes ht hi hz hsize hby hzs (by decide) _ n (flatT l) hs (hown.alloc _) ⟨w0.heap.size, 0, none⟩ 1 1 [.int .u8 y.lit, .int .i64 y.len, .int .i64 y.dist] hx rfl hnew (by intro u hu; simp only [List.mem_cons, List.not_mem_nil, or_false] at hu; rcases hu with rfl | rfl | rfl <;> rfl) (by unfold maxLen; omega) hbytes (by simp; omega) ?_
  intro v' w' h1 h2 _
  obtain ⟨b, c, rfl⟩ : ∃ b c, v' = .slice b (n + 1) c := by
    rcases h1.2 with ⟨rfl, h0⟩ | ⟨g, cp, cur, rfl, _⟩
    · exact ⟨none, 0, by rw [h0]⟩
    · exact ⟨_, _, rfl⟩
  refine h b c w' (by rw [flatT_app]; exact h1) ?_ ((Kp.alloc (S := fun k => (Value.slice ra n rc).ownBlock = some k) w0 _).trans (Kp.grown (S := fun k => (Value.slice ra n rc).ownBlock = some k) h2 (fun i e => e)) (fun _ _ e => e))
  have b1 : Below base w0 (w0.alloc (.cells #[.int .u8 y.lit, .int .i64 y.len, .int .i64 y.dist] e)) := (Below.refl _ _).alloc hbase _
  exact b1.trans ((Below.refl _ _).grown h2 (Nat.le_trans hbase b1.size) (fun k hk => (hown.lt k hk).1))
theorem mul_bd9 {f b : Int} (h1 : 0 ≤ f) (h2 : f ≤ 1048576) (h3 : 0 ≤ b) (h4 : b ≤ 16) : 0 ≤ f * b ∧ f * b ≤ 16777216 := by
  refine ⟨Int.mul_nonneg h1 h3, ?_⟩
  have : f * b ≤ 1048576 * 16 := Int.mul_le_mul h2 h4 h3 (by omega)
  omega
/-- One length tried, by what the table says behind it. -/
theorem try7_eq {D : List Int} {W : Nat} {c : Pr7} {P l : Nat} (hl : 1 ≤ l) (hf : P + l ≤ D.length) (x : Int × Tok7) : try7 D W c P (tab7 D W c (D.length - (P + 1))) l x = if nst7 D P l W ≠ 0 ∧ mc7 c (nst7 D P l W) + (lea7 D W c (P + l)).1 < x.1 then (mc7 c (nst7 D P l W) + (lea7 D W c (P + l)).1, ⟨0, (l : Int), (nst7 D P l W : Int)⟩) else x := by
  unfold try7
  rw [tab7_next D W c P l hl hf]
  by_cases h : nst7 D P l W ≠ 0 ∧ mc7 c (nst7 D P l W) + (lea7 D W c (P + l)).1 < x.1
  · rw [if_pos h, if_pos ⟨hf, h⟩]
  · rw [if_neg h, if_neg (fun e => h e.2)]
theorem try7_out {D : List Int} {W : Nat} {c : Pr7} {P l : Nat} {T : List (Int × Tok7)} (hf : ¬ P + l ≤ D.length) (x : Int × Tok7) : try7 D W c P T l x = x := by
  unfold try7
  rw [if_neg (fun e => hf e.1)]
set_option maxRecDepth 100000 in
set_option maxHeartbeats 16000000 in
theorem rchea7_ok (D : List Int) (a : Option Addr) (n cap W C : Nat) (lazy : Bool) (c : Pr7) (hn : Hid (D.length = n)) (w : World) (hs : Seg w a D) (hl : n ≤ 1099511627776) (hW1 : 1 ≤ W) (hW2 : W ≤ 32768) (hC : C ≤ 4096) (hc : ¬ badP c) :
    Calls Try.prog 32 #[.slice a n cap, look7 W C lazy, price7 c] w (CheQ w 73 (che7 D W c) (lea7 D W c 0).1) := by
  obtain ⟨i0, hi, hz0, hz1, hz2⟩ := info_parts info_tok7
  have hbp : (0 ≤ c.lit ∧ c.lit ≤ 1048576) ∧ (0 ≤ c.mat ∧ c.mat ≤ 1048576) ∧ (0 ≤ c.far ∧ c.far ≤ 1048576) := by unfold badP at hc; omega
  have HBD : Hid (∀ p, p ≤ n → 0 ≤ (lea7 D W c p).1 ∧ (lea7 D W c p).1 ≤ 1152921504606846976) := fun p hp => by
    refine ⟨lea7_nonneg hbp.1.1 hbp.2.1.1 hbp.2.2.1 (n - p) p (by rw [hn.out]; exact hp) (by rw [hn.out]; omega), ?_⟩
    have h1 := lea7_le D W c hbp.2.2.1 p (by rw [hn.out]; exact hp)
    have h2 : c.lit * ((D.length - p : Nat) : Int) ≤ 1048576 * 1099511627776 := Int.mul_le_mul hbp.1.2 (by rw [hn.out]; omega) (by omega) (by omega)
    omega
  obtain ⟨wA, hwA⟩ : ∃ wA, wA = w.alloc (.cells #[.int .i64 (W : Int), .int .i64 (C : Int), .bool lazy] 44) := ⟨_, rfl⟩
  obtain ⟨wB, hwB⟩ : ∃ wB, wB = wA.alloc (.cells #[.int .i64 c.lit, .int .i64 c.mat, .int .i64 c.far] 64) := ⟨_, rfl⟩
  have bA : Below w.heap.size w wA := by rw [hwA]; exact below_box _ _
  have bB : Below wA.heap.size wA wB := by rw [hwB]; exact below_box _ _
  have BB : Below w.heap.size w wB := bA.trans (bB.mono bA.size)
  have HWA : Hid (wA = w.alloc (.cells #[.int .i64 (W : Int), .int .i64 (C : Int), .bool lazy] 44)) := hwA
  have HWB : Hid (wB = wA.alloc (.cells #[.int .i64 c.lit, .int .i64 c.mat, .int .i64 c.far] 64)) := hwB
  have CO := ropt7 W C lazy wB
  rw [show opt7 W C = 0 by unfold opt7; rw [if_neg (by omega)]] at CO
  have lB := (boxL hwA).of_block (bB.block w.heap.size (boxL hwA).lt)
  have hB : wB.heap[wA.heap.size]? = some (.cells #[.int .i64 c.lit, .int .i64 c.mat, .int .i64 c.far] 64 (0, 0)) := by rw [hwB]; exact heap_alloc_new wA _
  have p0 : wB.cell? ⟨wA.heap.size, 0, none⟩ = some (.int .i64 c.lit) := by simp [World.cell?, hB]
  have p1 : wB.cell? ⟨wA.heap.size, 1, none⟩ = some (.int .i64 c.mat) := by simp [World.cell?, hB]
  have p2 : wB.cell? ⟨wA.heap.size, 2, none⟩ = some (.int .i64 c.far) := by simp [World.cell?, hB]
  have hpl := World.block_lt_of_cell? wB _ p0
  have hll := lB.lt
  obtain ⟨zb, hzb⟩ : ∃ zb, zb = wA.heap.size := ⟨_, rfl⟩
  obtain ⟨ob, hob⟩ : ∃ ob, ob = w.heap.size := ⟨_, rfl⟩
  have HZB : Hid (w.heap.size + 1 = zb) := by show _ = _; rw [hzb, hwA]; simp
  have HOB : Hid (ob = w.heap.size) := hob
  rw [← hzb] at p0 p1 p2 hpl
  rw [← hob] at lB hll
  have HPC : Hid (∀ W', Below wB.heap.size wB W' → (W'.cell? ⟨zb, 0, none⟩ = some (.int .i64 c.lit) ∧ W'.cell? ⟨zb, 1, none⟩ = some (.int .i64 c.mat) ∧ W'.cell? ⟨zb, 2, none⟩ = some (.int .i64 c.far)) ∧ W'.cell? ⟨ob, 0, none⟩ = some (.int .i64 (W : Int))) := fun W' hW => ⟨⟨(hW.cell (p := ⟨zb, 0, none⟩) hpl).trans p0, (hW.cell (p := ⟨zb, 1, none⟩) hpl).trans p1, (hW.cell (p := ⟨zb, 2, none⟩) hpl).trans p2⟩, (hW.cell (p := ⟨ob, 0, none⟩) hll).trans lB.c0⟩
  have HSB : Hid (Seg wB a D) := hs.old BB
  obtain ⟨k, hk⟩ : ∃ k, k = n + 1 := ⟨_, rfl⟩
  have hwk : IntKind.i64.wrap ((n : Int) + 1) = (k : Int) := by rw [IntWalk.i64_in _ (by omega)]; omega
  have hwk2 : (n : Int) + 1 = (k : Int) := by omega
  have M1 := make_ints7 k (by omega)
  have M2 := make_toks7 k (by omega)
  have HKN : Hid (k = n + 1) := hk
  have HNR : Hid (∀ (W' : World) (p l : Nat), Below wB.heap.size wB W' → p < n → l ≤ 258 → Calls Try.prog 42 #[.slice a n cap, .int .i64 (p : Int), .int .i64 (l : Int), .int .i64 (W : Int)] W' fun e w' => e = .returned (.int .i64 (nst7 D p l W : Int)) ∧ Below W'.heap.size W' w') := fun W' p l hb hp hl8 =>
    rnear7 D a n cap p l W hn W' ((show Seg wB a D from HSB.out).old hb) hp (by omega) hW2 hl8
  have hl0 := hbp.1
  have hl1 := hbp.2.1
  have hl2 := hbp.2.2
  clear hwA hwB hB p0 p1 p2 hpl hll hzb hob lB hk hbp hs hc
  obtain ⟨lt, mt, fr⟩ := c
  unfold look7 at CO
  unfold look7 price7
  simp only at HWB HPC hl0 hl1 hl2
  obtain ⟨f1, f2⟩ := hl0
  obtain ⟨f3, f4⟩ := hl1
  obtain ⟨f5, f6⟩ := hl2
  go_enter Try.func32, Try.ntmps32
  go_wp2_with fail
  rw [HZB.out, ← HWA.out, ← HWB.out, ← HOB.out]
  refine CO.mono ?_
  rintro e w1 ⟨rfl, b1⟩
  obtain ⟨⟨q0, q1, q2⟩, q3⟩ := HPC.out w1 b1
  obtain ⟨wL, hwL⟩ : ∃ wL, wL = w1.alloc (.cells (madeCells #[.int .i64 0] k) 3) := ⟨_, rfl⟩
  obtain ⟨wF, hwF⟩ : ∃ wF, wF = wL.alloc (.cells (madeCells #[.int .u8 0, .int .i64 0, .int .i64 0] (k * 3)) 73) := ⟨_, rfl⟩
  have bL : Below w1.heap.size w1 wL := by rw [hwL]; exact below_box _ _
  have bF : Below wL.heap.size wL wF := by rw [hwF]; exact below_box _ _
  have HWL : Hid (wL = w1.alloc (.cells (madeCells #[.int .i64 0] k) 3)) := hwL
  have HWF : Hid (wF = wL.alloc (.cells (madeCells #[.int .u8 0, .int .i64 0, .int .i64 0] (k * 3)) 73)) := hwF
  obtain ⟨gl, hgl⟩ : ∃ gl, gl = w1.heap.size := ⟨_, rfl⟩
  obtain ⟨gf, hgf⟩ : ∃ gf, gf = wL.heap.size := ⟨_, rfl⟩
  have HGL : Hid (gl = w1.heap.size) := hgl
  have HGF : Hid (w1.heap.size + 1 = gf) := by show _ = _; rw [hgf, hwL]; simp
  have hglL : gl < wL.heap.size := by rw [hgl, hwL]; simp
  have hgfF : gf < wF.heap.size := by rw [hgf, hwF]; simp
  have hglF : gl < wF.heap.size := Nat.lt_of_lt_of_le hglL bF.size
  have hne : gl ≠ gf := by rw [hgf]; omega
  have hBl : wB.heap.size ≤ gl := by rw [hgl]; exact b1.size
  have hBf : wB.heap.size ≤ gf := by rw [hgf]; exact Nat.le_trans b1.size bL.size
  have BF : Below wB.heap.size wB wF := (b1.trans (bL.mono b1.size)).trans (bF.mono (Nat.le_trans b1.size bL.size))
  have rI : RowI wF gl (n + 1) (fun _ => 0) := by
    have h := rowI_made w1 k 3
    rw [← hwL, ← hgl, HKN.out] at h
    exact h.of_block (bF.block gl hglL)
  have rK : RowK wF gf (n + 1) (fun _ => tk0) := by
    have h := rowK_made wL k 73
    rw [← hwF, ← hgf, HKN.out] at h
    exact h
  have HI0 : Hid (ChI D W ⟨lt, mt, fr⟩ wB wF gl gf n (.int .i64 ((n : Int) - 1))) := ⟨n, _, _, Nat.le_refl _, rfl, ⟨rI, rK, fun q h1 h2 => by
      obtain rfl : q = n := by omega
      have := lea7_end D W ⟨lt, mt, fr⟩
      rw [hn.out] at this
      rw [this], fun q h1 h2 => by
      obtain rfl : q = n := by omega
      have := lea7_end D W ⟨lt, mt, fr⟩
      rw [hn.out] at this
      rw [this]⟩, BF, hglF, hgfF⟩
  have e1 : decide (lt < 0) = false := decide_eq_false (by omega)
  have e2 : decide (1048576 < lt) = false := decide_eq_false (by omega)
  have e3 : decide (mt < 0) = false := decide_eq_false (by omega)
  have e4 : decide (1048576 < mt) = false := decide_eq_false (by omega)
  have e5 : decide (fr < 0) = false := decide_eq_false (by omega)
  have e6 : decide (1048576 < fr) = false := decide_eq_false (by omega)
  clear hwL hwF hgl hgf rI rK bL bF BF hglL hglF hgfF
  go_wp2_with fail
  rw [HGF.out, ← HWL.out, ← HWF.out, ← HGL.out]
  try simp only [e1, e2, e3, e4, e5, e6, Bool.or_self]
  clear e1 e2 e3 e4 e5 e6
  go_loopw [13] (fun tp wr => ChI D W ⟨lt, mt, fr⟩ wB wr gl gf n tp) (fun tp _ => (intOf tp + 1).toNat)
  case atStart => exact HI0.out
  case round =>
    obtain ⟨p, A, F, hpn, rfl, hT, BR, hgl2, hgf2⟩ := hrel
    clear HI0
    obtain ⟨⟨z0, z1, z2⟩, z3⟩ := HPC.out wr BR
    by_cases hp0 : p = 0
    · subst hp0
      rw [show ((0 : Nat) : Int) - 1 = -1 from rfl]
      have HT5 : Hid (∀ W', Below wr.heap.size wr W' → ∀ q, q < n → TkAt W' gf (q * 3) (lea7 D W ⟨lt, mt, fr⟩ q).2) := fun W' hb q hq => by
        have h5 := (hT.rk.of_block (hb.block gf hgf2)).at_ q (by omega)
        rw [hT.fi q (by omega) (by omega)] at h5
        exact h5
      have HL5 : Hid (∀ W', Below wr.heap.size wr W' → W'.cell? ⟨gl, 0, none⟩ = some (.int .i64 (lea7 D W ⟨lt, mt, fr⟩ 0).1)) := fun W' hb => by
        have h5 := (hT.ri.of_block (hb.block gl hgl2)).at_ 0 (by omega)
        rw [hT.le 0 (by omega) (by omega)] at h5
        exact h5
      have HST : Hid (∀ q, q < n → ∃ kk : Nat, 1 ≤ kk ∧ q + kk ≤ n ∧ (((lea7 D W ⟨lt, mt, fr⟩ q).2.len = 0 ∧ kk = 1) ∨ ((lea7 D W ⟨lt, mt, fr⟩ q).2.len = (kk : Int) ∧ 3 ≤ kk)) ∧ outg7 D W ⟨lt, mt, fr⟩ (D.length - q) q = (lea7 D W ⟨lt, mt, fr⟩ q).2 :: outg7 D W ⟨lt, mt, fr⟩ (D.length - (q + kk)) (q + kk)) := fun q hq => by
        obtain ⟨kk, a1, a2, a3, a4⟩ := outg7_step (D := D) (W := W) (c := ⟨lt, mt, fr⟩) (p := q) (by rw [hn.out]; exact hq)
        rw [hn.out] at a2
        exact ⟨kk, a1, a2, a3, a4⟩
      have BW : Below w.heap.size w wr := BB.trans (BR.mono BB.size)
      have HO0 : Hid (ChO D W ⟨lt, mt, fr⟩ wr wr n (.slice none 0 0) (.int .i64 0)) := ⟨0, 0, 0, none, [], by omega, by omega, rfl, rfl, rfl, rfl, World.ownsRow_nil _ _ _ _, Below.refl _ _⟩
      obtain ⟨w5, hw5⟩ : ∃ w5, w5 = wr := ⟨_, rfl⟩
      subst hw5
      have hk0 : (0 : Int) < (k : Int) := by have := HKN.out; omega
      clear hT BR z0 z1 z2 z3
      go_wp2_with fail
      go_loopw [17, 18] (fun tl tp wr => ChO D W ⟨lt, mt, fr⟩ w5 wr n tl tp) (fun _ tp _ => n - (intOf tp).toNat)
      case atStart => exact HO0.out
      case round =>
        obtain ⟨p, m, oc, oa, T, hpn, hmp, rfl, rfl, hTl, hche, OO, BR⟩ := hrel
        clear HO0
        have HTL : Hid (T.length = m) := hTl
        have HCE : Hid _ := hche
        have hsr := BR.size
        clear hTl hche
        by_cases hlt : p < n
        · have hlti : (p : Int) < (n : Int) := by omega
          have hpk : (p : Int) < (k : Int) := by have := HKN.out; omega
          obtain ⟨kk, a1, a2, a3, a4⟩ := HST.out p hlt
          obtain ⟨t0, t1, t2⟩ := HT5.out wr BR p hlt
          have HCE2 : Hid (che7 D W ⟨lt, mt, fr⟩ = (T ++ [(lea7 D W ⟨lt, mt, fr⟩ p).2]) ++ outg7 D W ⟨lt, mt, fr⟩ (D.length - (p + kk)) (p + kk)) := by
            show _ = _
            rw [show che7 D W ⟨lt, mt, fr⟩ = T ++ outg7 D W ⟨lt, mt, fr⟩ (D.length - p) p from HCE.out, a4, List.append_assoc]
            rfl
          generalize (lea7 D W ⟨lt, mt, fr⟩ p).2 = t at *
          obtain ⟨wX, hwX⟩ : ∃ wX, wX = wr.alloc (.cells #[.int .u8 t.lit, .int .i64 t.len, .int .i64 t.dist] 73) := ⟨_, rfl⟩
          have bX : Below wr.heap.size wr wX := by rw [hwX]; exact below_box _ _
          have HWX : Hid (wX = wr.alloc (.cells #[.int .u8 t.lit, .int .i64 t.len, .int .i64 t.dist] 73)) := hwX
          have HSZ : Hid (wr.heap.size + 1 = wX.heap.size) := by show _ = _; rw [hwX]; simp
          have tX : TkAt wX wr.heap.size 0 t := boxT hwX
          have BX : Below w5.heap.size w5 wX := BR.trans (bX.mono BR.size)
          have OX := own_belowT OO bX
          have hsX := BX.size
          obtain ⟨ob2, hob2⟩ : ∃ ob2, ob2 = wr.heap.size := ⟨_, rfl⟩
          have HOB2 : Hid (ob2 = wr.heap.size) := hob2
          rw [← hob2] at tX
          have hol2 := tX.lt
          have hno : ∀ k, (Value.slice oa m oc).ownBlock = some k → k < ob2 := fun k e => by rw [hob2]; exact (OO.lt k e).2
          obtain ⟨pk, hpk9⟩ : ∃ pk, pk = p + kk := ⟨_, rfl⟩
          have HPK : Hid (pk = p + kk) := hpk9
          have HT9 : Hid ((T ++ [t]).length = m + 1) := by show _ = _; rw [List.length_append, HTL.out]; rfl
          rw [← hpk9] at HCE2 a2
          have hpm : m + 1 ≤ pk := by omega
          have hppk : p < pk := by omega
          have hw1k : IntKind.i64.wrap ((p : Int) + (kk : Int)) = (pk : Int) := by rw [IntWalk.i64_in _ (by omega)]; omega
          clear hwX OO a4 hob2 HCE
          have hmb : m ≤ 1099511627776 := by omega
          obtain ⟨z, ln, ds⟩ := t
          simp only at t0 t1 t2 a3 HWX
          rcases a3 with ⟨rfl, rfl⟩ | ⟨rfl, hk3⟩
          · have hw11 : IntKind.i64.wrap ((p : Int) + 1) = (pk : Int) := hw1k
            go_wp2_with (first | (at_builtin; rw [HSZ.out, ← HWX.out, ← HOB2.out]; refine wpList_appTK rfl (.tmp 141) (.tmp 143) 23 rfl w5.heap.size 73 i0 _ 24 Try.underlying23 hi hz0 hz1 hz2 rfl wX ⟨z, 0, ds⟩ OX rfl rfl (by omega) (by omega) hsX ?_; intro ga gc w7 own7 b7 k7; have cl : w7.cell? ⟨ob2, 1, none⟩ = some (.int .i64 0) := (World.cell?_of_block (a := ⟨ob2, 1, none⟩) (k7.block ob2 hol2 (fun e => Nat.lt_irrefl _ (hno ob2 e)))).trans tX.c1))
            have B7 := BX.trans b7
            go_roundw
            case rel => exact ⟨pk, m + 1, gc, ga, T ++ [⟨z, 0, ds⟩], a2, hpm, (by have h9 := HPK.out; congr 1; omega), rfl, HT9.out, HCE2.out, own7, B7⟩
            case measure => simp [intOf]; omega
          · have hkn : ¬ (kk : Int) = 0 := by omega
            have hknn : ¬ kk = 0 := by omega
            go_wp2_with (first | (at_builtin; rw [HSZ.out, ← HWX.out, ← HOB2.out]; refine wpList_appTK rfl (.tmp 141) (.tmp 143) 23 rfl w5.heap.size 73 i0 _ 24 Try.underlying23 hi hz0 hz1 hz2 rfl wX ⟨z, kk, ds⟩ OX rfl rfl (by omega) (by omega) hsX ?_; intro ga gc w7 own7 b7 k7; have cl : w7.cell? ⟨ob2, 1, none⟩ = some (.int .i64 (kk : Int)) := (World.cell?_of_block (a := ⟨ob2, 1, none⟩) (k7.block ob2 hol2 (fun e => Nat.lt_irrefl _ (hno ob2 e)))).trans tX.c1))
            have B7 := BX.trans b7
            go_roundw
            case rel => exact ⟨pk, m + 1, gc, ga, T ++ [⟨z, kk, ds⟩], a2, hpm, (by have h9 := HPK.out; congr 1; omega), rfl, HT9.out, HCE2.out, own7, B7⟩
            case measure => simp [intOf]; omega
        · have hge : ¬ (p : Int) < (n : Int) := by omega
          have HE : Hid (che7 D W ⟨lt, mt, fr⟩ = T) := by
            show _ = _
            rw [show che7 D W ⟨lt, mt, fr⟩ = T ++ outg7 D W ⟨lt, mt, fr⟩ (D.length - p) p from HCE.out, show D.length - p = 0 by rw [hn.out]; omega, outg7, List.append_nil]
          have bD : Below w5.heap.size w5 wr.drew := BR.drew
          have l0 := HL5.out wr.drew bD
          have HFIN : Hid (wr.drew.ownsRow w.heap.size 73 3 (.slice oa m oc) m (flatT T) ∧ Below w.heap.size w wr.drew) := ⟨own_baseT (own_belowT OO ((Below.refl _ _).drew)) BW.size, BW.trans (bD.mono BW.size)⟩
          clear HCE OO
          have hk0n : 0 < k := by have := HKN.out; omega
          have hk0m : ¬ k = 0 := by omega
          generalize hgv : (lea7 D W ⟨lt, mt, fr⟩ 0).1 = vv at *
          have HGV : Hid ((lea7 D W ⟨lt, mt, fr⟩ 0).1 = vv) := hgv
          go_wp2_with fail
          go_region_held3 (fun w' => w'.cell? ⟨gl, 0, none⟩ = some (.int .i64 vv)) (first | (exact l0) | go_keep) (fail)
          all_goals
            go_wp2_with fail
            refine bodyPost_ret (results_tmp3 rfl _ _ _) rfl ?_
            refine ⟨oa, oc, ?_, ?_, HFIN.out.2⟩
            · rw [HE.out, HTL.out]; rfl
            · rw [HE.out, HTL.out]; exact HFIN.out.1
    · obtain ⟨P, hPp⟩ : ∃ P, p = P + 1 := ⟨p - 1, by omega⟩
      have hP1 : (p : Int) - 1 = (P : Int) := by omega
      rw [hP1]
      have hPn : P < n := by omega
      have hP0 : (0 : Int) ≤ (P : Int) := by omega
      have x1 := HBD.out p hpn
      have hA1 := hT.le p (Nat.le_refl _) hpn
      have c1 := hT.ri.at_ p (by omega)
      rw [hA1] at c1
      have c0 := hT.ri.at_ P (by omega)
      have cf := hT.ri.fr P
      have sg : Seg wr a D := (show Seg wB a D from HSB.out).old BR
      obtain ⟨g, off, rfl, cz⟩ := sg.at_ P (by rw [hn.out]; exact hPn)
      have hgB : g < wB.heap.size := (show Seg wB _ D from HSB.out).lt g off rfl (by rw [hn.out]; omega)
      have hlea := lea7_step D W ⟨lt, mt, fr⟩ P (by rw [hn.out]; exact hPn)
      rw [lit7_eq D W ⟨lt, mt, fr⟩ P (by rw [hn.out]; exact hPn)] at hlea
      rw [← hPp] at hlea
      have hzb9 := getD_bd7 sg.mem P
      generalize D.getD P 0 = z at *
      obtain ⟨v0, hv0⟩ : ∃ v0, v0 = lt + (lea7 D W ⟨lt, mt, fr⟩ p).1 := ⟨_, rfl⟩
      have hw0 : IntKind.i64.wrap (lt + (lea7 D W ⟨lt, mt, fr⟩ p).1) = v0 := by rw [← hv0]; exact IntWalk.i64_in _ (by omega)
      have HLE : Hid (lea7 D W ⟨lt, mt, fr⟩ P = chg7 D W ⟨lt, mt, fr⟩ P (tab7 D W ⟨lt, mt, fr⟩ (D.length - p)) 256 (v0, ⟨z, 0, 0⟩)) := by show _ = _; rw [hlea, hv0]
      have hwP : IntKind.i64.wrap ((P : Int) + 1) = (p : Int) := by rw [IntWalk.i64_in _ (by omega)]; omega
      have hPk : (p : Int) < (k : Int) := by have := HKN.out; omega
      have hPk2 : (P : Int) < (k : Int) := by have := HKN.out; omega
      have hPnI : (P : Int) < (n : Int) := by omega
      have hp00 : (0 : Int) ≤ (p : Int) := by omega
      have HT : Hid (ChT D W ⟨lt, mt, fr⟩ wr gl gf n p A F) := hT
      have HPP : Hid (p = P + 1) := hPp
      have hzl : zb < wB.heap.size := World.block_lt_of_cell? wB _ ((HPC.out wB (Below.refl _ _)).1.1)
      have hzg : zb ≠ gl := by omega
      have k1 : (wr.setCell ⟨gl, P, none⟩ (.int .i64 v0)).drew.cell? ⟨gl, p, none⟩ = some (.int .i64 (lea7 D W ⟨lt, mt, fr⟩ p).1) := by
        have : (wr.setCell ⟨gl, P, none⟩ (.int .i64 v0)).cell? ⟨gl, p, none⟩ = some (.int .i64 (lea7 D W ⟨lt, mt, fr⟩ p).1) := by rw [sc_other7 (by omega)]; exact c1
        exact this
      have k2 : (wr.setCell ⟨gl, P, none⟩ (.int .i64 v0)).drew.cell? ⟨zb, 0, none⟩ = some (.int .i64 lt) := by
        have : (wr.setCell ⟨gl, P, none⟩ (.int .i64 v0)).cell? ⟨zb, 0, none⟩ = some (.int .i64 lt) := by
          rw [World.cell?_setCell_other _ _ _ _ (by intro e; cases e; exact hzg rfl)]; exact z0
        exact this
      clear hT hv0 hlea sg hA1 hP1 hPp hp0
      generalize (lea7 D W ⟨lt, mt, fr⟩ p).1 = y1 at *
      generalize A P = aP at *
      go_wp2_with fail
      go_region_held3 (fun w' => w'.cell? ⟨gl, p, none⟩ = some (.int .i64 y1) ∧ w'.cell? ⟨zb, 0, none⟩ = some (.int .i64 lt)) (first | go_keep | (exact ⟨k1, k2⟩) | (exact k1) | (exact k2)) (fail)
      have rI2 : RowI (wr.setCell ⟨gl, P, none⟩ (.int .i64 v0)).drew gl (n + 1) (updI A P v0) := by
        have h5 := (show ChT D W ⟨lt, mt, fr⟩ wr gl gf n p A F from HT.out).ri.set (i := P) (by omega) v0
        exact ⟨h5.at_, h5.fr⟩
      have rK2 : RowK (wr.setCell ⟨gl, P, none⟩ (.int .i64 v0)).drew gf (n + 1) F :=
        (show ChT D W ⟨lt, mt, fr⟩ wr gl gf n p A F from HT.out).rk.of_block (heap_setCell_other wr ⟨gl, P, none⟩ gf _ (fun e => hne e.symm))
      have BW2 : Below wB.heap.size wB (wr.setCell ⟨gl, P, none⟩ (.int .i64 v0)).drew := (BR.setCell (p := ⟨gl, P, none⟩) hBl _).drew
      have sz2 : (wr.setCell ⟨gl, P, none⟩ (.int .i64 v0)).drew.heap.size = wr.heap.size := by simp
      have cz2 : (wr.setCell ⟨gl, P, none⟩ (.int .i64 v0)).drew.cell? ⟨g, off + P, none⟩ = some (.int .u8 z) := by
        have : (wr.setCell ⟨gl, P, none⟩ (.int .i64 v0)).cell? ⟨g, off + P, none⟩ = some (.int .u8 z) := by
          rw [World.cell?_setCell_other _ _ _ _ (by intro e; have h9 := congrArg Addr.block e; simp at h9; omega)]; exact cz
        exact this
      clear k1 k2 c0 cf c1 cz z0 z1 z2 z3
      rw [← sz2] at hgl2 hgf2
      clear sz2
      generalize (wr.setCell ⟨gl, P, none⟩ (.int .i64 v0)).drew = w2 at *
      obtain ⟨t0, t1, t2⟩ := rK2.at_ P (by omega)
      have fr0 := rK2.fr (P * 3)
      have fr1 := rK2.fr (P * 3 + 1)
      have fr2 := rK2.fr (P * 3 + 2)
      obtain ⟨w3, hw3⟩ : ∃ w3, w3 = ((w2.setCell ⟨gf, P * 3, none⟩ (.int .u8 z)).setCell ⟨gf, P * 3 + 1, none⟩ (.int .i64 0)).setCell ⟨gf, P * 3 + 2, none⟩ (.int .i64 0) := ⟨_, rfl⟩
      have rK3 : RowK w3 gf (n + 1) (updK F P ⟨z, 0, 0⟩) := by rw [hw3]; exact rK2.set (by omega) ⟨z, 0, 0⟩
      have kp3 : Kp (fun k => k = gf) w2 w3 := by rw [hw3]; exact ((Kp.set (S := fun k => k = gf) rfl _).trans (Kp.set (S := fun k => k = gf) rfl _) (fun _ _ e => e)).trans (Kp.set (S := fun k => k = gf) rfl _) (fun _ _ e => e)
      have rI3 : RowI w3 gl (n + 1) (updI A P v0) := rI2.of_block (kp3.block gl hgl2 hne)
      have BW3 : Below wB.heap.size wB w3 := BW2.trans (kp3.below (fun k e => by omega) BW2.size)
      have HW3 : Hid (w3 = ((w2.setCell ⟨gf, P * 3, none⟩ (.int .u8 z)).setCell ⟨gf, P * 3 + 1, none⟩ (.int .i64 0)).setCell ⟨gf, P * 3 + 2, none⟩ (.int .i64 0)) := hw3
      have HJ0 : Hid (ChJ D W ⟨lt, mt, fr⟩ wB w3 gl gf n P (.int .i64 258)) := by
        have hTT := (show ChT D W ⟨lt, mt, fr⟩ wr gl gf n p A F from HT.out)
        have hpp := HPP.out
        refine ⟨256, (v0, ⟨z, 0, 0⟩), updI A P v0, updK F P ⟨z, 0, 0⟩, by omega, rfl, rI3, rK3, ?_, ?_, by simp [updI], by simp [updK], by rw [← hpp]; exact HLE.out, BW3, Nat.lt_of_lt_of_le hgl2 kp3.size, Nat.lt_of_lt_of_le hgf2 kp3.size⟩
        · intro q h1 h2
          unfold updI
          rw [if_neg (by omega)]
          exact hTT.le q (by omega) h2
        · intro q h1 h2
          unfold updK
          rw [if_neg (by omega)]
          exact hTT.fi q (by omega) h2
      clear hw3 rI2 rK2 rI3 rK3 BW2 kp3 HLE
      go_wp2_with fail
      rw [← HW3.out]
      clear t0 t1 t2 fr0 fr1 fr2 cz2 HW3
      go_loopw [14] (fun tl wr => ChJ D W ⟨lt, mt, fr⟩ wB wr gl gf n P tl) (fun tl _ => (intOf tl).toNat)
      case atStart => exact HJ0.out
      case round =>
        obtain ⟨j, x, A, F, hj, rfl, rI, rK, hle, hfi, hAP, hFP, hch, BR, hgl3, hgf3⟩ := hrel
        clear HJ0
        by_cases hj0 : j = 0
        · subst hj0
          rw [show ((0 : Nat) : Int) + 2 = 2 from rfl]
          have HE : Hid (lea7 D W ⟨lt, mt, fr⟩ P = x) := hch
          have hwp : IntKind.i64.wrap ((P : Int) - 1) = (P : Int) - 1 := IntWalk.i64_in _ (by omega)
          have HFIN : Hid (ChI D W ⟨lt, mt, fr⟩ wB wr gl gf n (.int .i64 ((P : Int) - 1))) := by
            refine ⟨P, A, F, by omega, rfl, ⟨rI, rK, ?_, ?_⟩, BR, hgl3, hgf3⟩
            · intro q h1 h2
              by_cases e : q = P
              · subst e; rw [hAP, HE.out]
              · exact hle q (by omega) h2
            · intro q h1 h2
              by_cases e : q = P
              · subst e; rw [hFP, HE.out]
              · exact hfi q (by omega) h2
          clear hch rI rK hle hfi hAP hFP
          go_wp2_with fail
          go_roundw
          case rel => exact HFIN.out
          case measure => simp [intOf]
        · obtain ⟨i, hji⟩ : ∃ i, j = i + 1 := ⟨j - 1, by omega⟩
          obtain ⟨l, hl9⟩ : ∃ l, l = i + 3 := ⟨_, rfl⟩
          have hlI : (j : Int) + 2 = (l : Int) := by omega
          rw [hlI]
          have hl3 : ¬ (l : Int) < 3 := by omega
          have hl3' : (3 : Int) ≤ (l : Int) := by omega
          have hl258 : l ≤ 258 := by omega
          have hwl1 : IntKind.i64.wrap ((l : Int) - 1) = (i : Int) + 2 := by rw [IntWalk.i64_in _ (by omega)]; omega
          have HC1 : Hid (lea7 D W ⟨lt, mt, fr⟩ P = chg7 D W ⟨lt, mt, fr⟩ P (tab7 D W ⟨lt, mt, fr⟩ (D.length - (P + 1))) i (try7 D W ⟨lt, mt, fr⟩ P (tab7 D W ⟨lt, mt, fr⟩ (D.length - (P + 1))) l x)) := by
            show _ = _
            rw [hch, hji, chg7, hl9]
          obtain ⟨pl, hpl⟩ : ∃ pl, pl = P + l := ⟨_, rfl⟩
          have hwpl : IntKind.i64.wrap ((P : Int) + (l : Int)) = (pl : Int) := by rw [IntWalk.i64_in _ (by omega)]; omega
          have HAR : Hid (RowI wr gl (n + 1) A ∧ RowK wr gf (n + 1) F ∧ (∀ q, P + 1 ≤ q → q ≤ n → A q = (lea7 D W ⟨lt, mt, fr⟩ q).1) ∧ (∀ q, P + 1 ≤ q → q ≤ n → F q = (lea7 D W ⟨lt, mt, fr⟩ q).2) ∧ A P = x.1 ∧ F P = x.2) := ⟨rI, rK, hle, hfi, hAP, hFP⟩
          have HKEEP : Hid (∀ W', lea7 D W ⟨lt, mt, fr⟩ P = chg7 D W ⟨lt, mt, fr⟩ P (tab7 D W ⟨lt, mt, fr⟩ (D.length - (P + 1))) i x → Below wr.heap.size wr W' → ChJ D W ⟨lt, mt, fr⟩ wB W' gl gf n P (.int .i64 ((i : Int) + 2))) := fun W' hE hb => ⟨i, x, A, F, by omega, rfl, rI.of_block (hb.block gl hgl3), rK.of_block (hb.block gf hgf3), hle, hfi, hAP, hFP, hE, BR.trans (hb.mono BR.size), Nat.lt_of_lt_of_le hgl3 hb.size, Nat.lt_of_lt_of_le hgf3 hb.size⟩
          have hmeas : i + 2 < l := by omega
          have HJI : Hid (j = i + 1 ∧ l = i + 3 ∧ pl = P + l) := ⟨hji, hl9, hpl⟩
          obtain ⟨⟨z0, z1, z2⟩, z3⟩ := HPC.out wr BR
          clear hch hlI hj0 hji hl9
          by_cases hfit : pl ≤ n
          · have hfiti : ¬ (n : Int) < (pl : Int) := by omega
            have hTR := try7_eq (D := D) (W := W) (c := ⟨lt, mt, fr⟩) (P := P) (l := l) (by omega) (by rw [hn.out]; omega) x
            rw [← hpl] at hTR
            have CN := HNR.out wr P l BR hPn hl258
            have hdW := nst7_spec D P l W
            have hdb : nst7 D P l W ≤ 32768 := by rcases hdW with e | e <;> omega
            have x9 := HBD.out pl hfit
            have hA9 := hle pl (by omega) hfit
            have c9 := rI.at_ pl (by omega)
            rw [hA9] at c9
            have hbb := bits7_le 16 (nst7 D P l W) (by omega)
            generalize nst7 D P l W = d at *
            by_cases hd0 : d = 0
            · have HE : Hid (lea7 D W ⟨lt, mt, fr⟩ P = chg7 D W ⟨lt, mt, fr⟩ P (tab7 D W ⟨lt, mt, fr⟩ (D.length - (P + 1))) i x) := by
                show _ = _
                rw [HC1.out, hTR, if_neg (fun e => e.1 hd0)]
              subst hd0
              clear hTR hdW hA9 c9 rI rK hle hfi hAP hFP hpl
              go_wp2_with fail
              refine CN.mono ?_
              rintro e w4 ⟨rfl, b4⟩
              go_wp2_with fail
              go_roundw
              case rel => exact HKEEP.out w4 HE.out b4
              case measure => simp [intOf]; omega
            · have hd0i : ¬ (d : Int) = 0 := by omega
              have HBT : Hid (∀ W', Calls Try.prog 43 #[.int .i64 (d : Int)] W' fun e w' => e = .returned (.int .i64 (bits7 d : Int)) ∧ w' = W') := fun W' => rbits7 d (by omega) W'
              have hmb := mul_bd9 f5 f6 (show (0 : Int) ≤ (bits7 d : Int) by omega) (by omega)
              have hTR2 : try7 D W ⟨lt, mt, fr⟩ P (tab7 D W ⟨lt, mt, fr⟩ (D.length - (P + 1))) l x = if mt + fr * (bits7 d : Int) + (lea7 D W ⟨lt, mt, fr⟩ pl).1 < x.1 then (mt + fr * (bits7 d : Int) + (lea7 D W ⟨lt, mt, fr⟩ pl).1, ⟨0, (l : Int), (d : Int)⟩) else x := by
                rw [hTR]
                unfold mc7
                by_cases h : mt + fr * (bits7 d : Int) + (lea7 D W ⟨lt, mt, fr⟩ pl).1 < x.1
                · rw [if_pos ⟨hd0, h⟩, if_pos h]
                · rw [if_neg (fun e => h e.2), if_neg h]
              generalize bits7 d = bt at *
              generalize (lea7 D W ⟨lt, mt, fr⟩ pl).1 = y9 at *
              obtain ⟨m1, hm1⟩ : ∃ m1 : Int, m1 = fr * (bt : Int) := ⟨_, rfl⟩
              rw [← hm1] at hTR2 hmb
              have hwm1 : IntKind.i64.wrap (fr * (bt : Int)) = m1 := by rw [← hm1]; exact IntWalk.i64_in _ (by omega)
              obtain ⟨v, hv⟩ : ∃ v : Int, v = mt + m1 + y9 := ⟨_, rfl⟩
              rw [← hv] at hTR2
              have hwm2 : IntKind.i64.wrap (mt + m1) = mt + m1 := IntWalk.i64_in _ (by omega)
              have hwm3 : IntKind.i64.wrap (mt + m1 + y9) = v := by rw [← hv]; exact IntWalk.i64_in _ (by omega)
              have hplk : (pl : Int) < (k : Int) := by have := HKN.out; omega
              have hpl0 : (0 : Int) ≤ (pl : Int) := by omega
              have HT2 : Hid _ := hTR2
              have HSTO : Hid (∀ W', lea7 D W ⟨lt, mt, fr⟩ P = chg7 D W ⟨lt, mt, fr⟩ P (tab7 D W ⟨lt, mt, fr⟩ (D.length - (P + 1))) i (v, ⟨0, (l : Int), (d : Int)⟩) → Below wr.heap.size wr W' → ChJ D W ⟨lt, mt, fr⟩ wB ((((W'.drew.setCell ⟨gl, P, none⟩ (.int .i64 v)).setCell ⟨gf, P * 3, none⟩ (.int .u8 0)).setCell ⟨gf, P * 3 + 1, none⟩ (.int .i64 (l : Int))).setCell ⟨gf, P * 3 + 2, none⟩ (.int .i64 (d : Int))) gl gf n P (.int .i64 ((i : Int) + 2))) := fun W' hE hb => by
                have a1 : RowI W'.drew gl (n + 1) A := rI.of_block (hb.block gl hgl3)
                have a2 : RowK W'.drew gf (n + 1) F := rK.of_block (hb.block gf hgf3)
                have a3 := a1.set (i := P) (by omega) v
                have a4 : RowK (W'.drew.setCell ⟨gl, P, none⟩ (.int .i64 v)) gf (n + 1) F := a2.of_block (heap_setCell_other W'.drew ⟨gl, P, none⟩ gf _ (fun e => hne e.symm))
                have a5 := a4.set (i := P) (by omega) ⟨0, (l : Int), (d : Int)⟩
                have kk : Kp (fun k => k = gf) (W'.drew.setCell ⟨gl, P, none⟩ (.int .i64 v)) ((((W'.drew.setCell ⟨gl, P, none⟩ (.int .i64 v)).setCell ⟨gf, P * 3, none⟩ (.int .u8 0)).setCell ⟨gf, P * 3 + 1, none⟩ (.int .i64 (l : Int))).setCell ⟨gf, P * 3 + 2, none⟩ (.int .i64 (d : Int))) := ((Kp.set (S := fun k => k = gf) rfl _).trans (Kp.set (S := fun k => k = gf) rfl _) (fun _ _ e => e)).trans (Kp.set (S := fun k => k = gf) rfl _) (fun _ _ e => e)
                have s1 : gl < (W'.drew.setCell ⟨gl, P, none⟩ (.int .i64 v)).heap.size := by simp; exact Nat.lt_of_lt_of_le hgl3 hb.size
                have s2 : gf < (W'.drew.setCell ⟨gl, P, none⟩ (.int .i64 v)).heap.size := by simp; exact Nat.lt_of_lt_of_le hgf3 hb.size
                have BD : Below wB.heap.size wB (W'.drew.setCell ⟨gl, P, none⟩ (.int .i64 v)) := ((BR.trans (hb.mono BR.size)).drew).setCell (p := ⟨gl, P, none⟩) hBl _
                refine ⟨i, (v, ⟨0, (l : Int), (d : Int)⟩), updI A P v, updK F P ⟨0, (l : Int), (d : Int)⟩, by omega, rfl, a3.of_block (kk.block gl s1 hne), a5, ?_, ?_, by simp [updI], by simp [updK], hE, BD.trans (kk.below (fun k e => by omega) BD.size), Nat.lt_of_lt_of_le s1 kk.size, Nat.lt_of_lt_of_le s2 kk.size⟩
                · intro q h1 h2
                  unfold updI
                  rw [if_neg (by omega)]
                  exact hle q h1 h2
                · intro q h1 h2
                  unfold updK
                  rw [if_neg (by omega)]
                  exact hfi q h1 h2
              have HRO : Hid (∀ W', Below wr.heap.size wr W' → W'.cell? ⟨gl, pl, none⟩ = some (.int .i64 y9) ∧ W'.cell? ⟨gl, P, none⟩ = some (.int .i64 x.1) ∧ W'.frozen? ⟨gl, P, none⟩ = false ∧ TkAt W' gf (P * 3) x.2 ∧ (W'.frozen? ⟨gf, P * 3, none⟩ = false ∧ W'.frozen? ⟨gf, P * 3 + 1, none⟩ = false ∧ W'.frozen? ⟨gf, P * 3 + 2, none⟩ = false)) := fun W' hb => by
                have a1 := rI.of_block (hb.block gl hgl3)
                have a2 := rK.of_block (hb.block gf hgf3)
                refine ⟨(World.cell?_of_block (a := ⟨gl, pl, none⟩) (hb.block gl hgl3)).trans c9, ?_, a1.fr P, ?_, a2.fr _, a2.fr _, a2.fr _⟩
                · have := a1.at_ P (by omega); rwa [hAP] at this
                · have := a2.at_ P (by omega); rwa [hFP] at this
              clear hTR hTR2 hdW hA9 c9 rI rK hle hfi hAP hFP hpl hm1 hv hgl3 hgf3
              go_wp2_with fail
              refine CN.mono ?_
              rintro e w4 ⟨rfl, b4⟩
              have bD : Below wr.heap.size wr w4.drew := b4.drew
              obtain ⟨r1, r2, r3, ⟨r4, r5, r6⟩, r7, r8, r9⟩ := HRO.out w4.drew bD
              obtain ⟨⟨o0, o1, o2⟩, o3⟩ := HPC.out w4.drew (BR.trans (bD.mono BR.size))
              clear z0 z1 z2 z3
              go_wp2_with fail
              go_region_held3 (fun w' => w'.cell? ⟨zb, 1, none⟩ = some (.int .i64 mt) ∧ w'.cell? ⟨zb, 2, none⟩ = some (.int .i64 fr) ∧ w'.cell? ⟨gl, pl, none⟩ = some (.int .i64 y9))
                (first | (exact ⟨o1, o2, r1⟩) | go_keep)
                (first | (go_at_call 43; refine (HBT.out _).mono ?_; rintro e w5 ⟨rfl, hw5⟩; subst hw5))
              by_cases hlt : v < x.1
              · have HE : Hid (lea7 D W ⟨lt, mt, fr⟩ P = chg7 D W ⟨lt, mt, fr⟩ P (tab7 D W ⟨lt, mt, fr⟩ (D.length - (P + 1))) i (v, ⟨0, (l : Int), (d : Int)⟩)) := by
                  show _ = _
                  rw [HC1.out, HT2.out, if_pos hlt]
                obtain ⟨s1, s2, s3, ⟨s4, s5, s6⟩, s7, s8, s9⟩ := HRO.out w4 b4
                generalize x.1 = x1v at *
                generalize x.2 = x2v at *
                obtain ⟨xa1, xa2, xa3⟩ := x2v
                simp only at r4 r5 r6 s4 s5 s6
                have hne2 : gf ≠ gl := fun e => hne e.symm
                have y4 : (w4.drew.setCell ⟨gl, P, none⟩ (.int .i64 v)).cell? ⟨gf, P * 3, none⟩ = some (.int .u8 xa1) := by
                  rw [World.cell?_setCell_other _ _ _ _ (by intro e; have h9 := congrArg Addr.block e; simp at h9; omega)]; exact r4
                have y5 : (w4.drew.setCell ⟨gl, P, none⟩ (.int .i64 v)).cell? ⟨gf, P * 3 + 1, none⟩ = some (.int .i64 xa2) := by
                  rw [World.cell?_setCell_other _ _ _ _ (by intro e; have h9 := congrArg Addr.block e; simp at h9; omega)]; exact r5
                have y6 : (w4.drew.setCell ⟨gl, P, none⟩ (.int .i64 v)).cell? ⟨gf, P * 3 + 2, none⟩ = some (.int .i64 xa3) := by
                  rw [World.cell?_setCell_other _ _ _ _ (by intro e; have h9 := congrArg Addr.block e; simp at h9; omega)]; exact r6
                have HS4 := HSTO.out w4 HE.out b4
                have HS5 : Hid _ := HS4
                clear HE HT2 HC1 HKEEP HAR HSTO HRO HS4
                go_wp2_with fail
                go_roundw
                case rel => exact HS5.out
                case measure => simp [intOf]; omega
              · have HE : Hid (lea7 D W ⟨lt, mt, fr⟩ P = chg7 D W ⟨lt, mt, fr⟩ P (tab7 D W ⟨lt, mt, fr⟩ (D.length - (P + 1))) i x) := by
                  show _ = _
                  rw [HC1.out, HT2.out, if_neg hlt]
                have HS5 : Hid (ChJ D W ⟨lt, mt, fr⟩ wB w4.drew gl gf n P (.int .i64 ((i : Int) + 2))) := HKEEP.out w4.drew HE.out bD
                clear HE HT2 HC1 HKEEP HAR HSTO HRO
                generalize x.1 = x1v at *
                go_wp2_with fail
                go_roundw
                case rel => exact HS5.out
                case measure => simp [intOf]; omega
          · have hfiti : (n : Int) < (pl : Int) := by omega
            have HE : Hid (lea7 D W ⟨lt, mt, fr⟩ P = chg7 D W ⟨lt, mt, fr⟩ P (tab7 D W ⟨lt, mt, fr⟩ (D.length - (P + 1))) i x) := by
              show _ = _
              rw [HC1.out, try7_out (by rw [hn.out, ← hpl]; exact hfit)]
            clear rI rK hle hfi hAP hFP hpl
            go_wp2_with fail
            go_roundw
            case rel => exact HKEEP.out wr HE.out (Below.refl _ _)
            case measure => simp [intOf]; omega
end Go.Proofs.Ytaipfcfmhdigfaa
