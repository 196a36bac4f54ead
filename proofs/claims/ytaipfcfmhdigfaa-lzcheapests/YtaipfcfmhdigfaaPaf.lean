import Derived.Test.YtaipfcfmhdigfaaPae
namespace Go.Proofs.Ytaipfcfmhdigfaa
open Go.RowKit
set_option linter.unusedVariables false
set_option linter.unusedSimpArgs false

/-! Rows of tokens of the call's own. -/
def flatT (l : List Tok7) : List Value := l.flatMap fun t => [.int .u8 t.lit, .int .i64 t.len, .int .i64 t.dist]
theorem flatT_app (l r : List Tok7) : flatT (l ++ r) = flatT l ++ flatT r := by unfold flatT; rw [List.flatMap_append]
theorem flatT_get : ∀ (l : List Tok7) (k : Nat) (x : Tok7), l[k]? = some x → (flatT l)[k * 3]? = some (.int .u8 x.lit) ∧ (flatT l)[k * 3 + 1]? = some (.int .i64 x.len) ∧ (flatT l)[k * 3 + 2]? = some (.int .i64 x.dist)
  | [], k, x, h => by simp at h
  | t :: r, 0, x, h => by
    simp at h
    subst h
    simp [flatT]
  | t :: r, k + 1, x, h => by
    have := flatT_get r k x (by simpa using h)
    have e : flatT (t :: r) = .int .u8 t.lit :: .int .i64 t.len :: .int .i64 t.dist :: flatT r := rfl
    rw [e, show (k + 1) * 3 = k * 3 + 1 + 1 + 1 by omega]
    simpa [List.getElem?_cons_succ, show k * 3 + 1 + 1 + 1 + 1 = (k * 3 + 1) + 1 + 1 + 1 by omega] using this
theorem own_shapeT {w : World} {base n : Nat} {e : TypeId} {v : Value} {xs : List Value} (h : w.ownsRow base e 3 v n xs) (hn : 0 < n) : ∃ g cap, v = .slice (some ⟨g, 0, none⟩) n cap ∧ n ≤ cap ∧ base ≤ g ∧ g < w.heap.size := by
  rcases h.2 with ⟨_, h0⟩ | ⟨g, cap, cur, rfl, hg, hh, hc, _⟩
  · omega
  · exact ⟨g, cap, rfl, hc, hg, (Array.getElem?_eq_some_iff.1 hh).1⟩
theorem own_factsT {w : World} {base n cap : Nat} {e : TypeId} {b : Option Addr} {xs : List Value} (h : w.ownsRow base e 3 (.slice b n cap) n xs) : n ≤ cap ∧ (b = none → cap = 0) ∧ ∀ x, b = some x → base ≤ x.block ∧ x.block < w.heap.size := by
  rcases h.2 with ⟨h1, h2⟩ | ⟨g, cp, cur, h1, h2, h3, h4, _⟩
  · simp only [Value.slice.injEq] at h1
    obtain ⟨rfl, _, rfl⟩ := h1
    exact ⟨by omega, (fun _ => rfl), (fun x h => by cases h)⟩
  · simp only [Value.slice.injEq] at h1
    obtain ⟨rfl, _, rfl⟩ := h1
    exact ⟨h4, (fun h => by cases h), (fun x h => by cases h; exact ⟨h2, (Array.getElem?_eq_some_iff.1 h3).1⟩)⟩
theorem own_segT {w : World} {base n cap : Nat} {e : TypeId} {b : Option Addr} {l : List Tok7} (h : w.ownsRow base e 3 (.slice b n cap) n (flatT l)) (hl : l.length = n) (hf : ∀ t ∈ l, t.Fit) : SegT w b l := by
  refine ⟨fun k hk => ?_, hf⟩
  obtain ⟨g, c, hv, _⟩ := own_shapeT h (by omega)
  simp only [Value.slice.injEq] at hv
  obtain ⟨rfl, _, rfl⟩ := hv
  have hc : ∀ j u, (flatT l)[j]? = some u → w.cell? ⟨g, j, none⟩ = some u := by
    intro j u hu
    have := h.cells (g := g) rfl j u hu
    have hadd : (⟨g, 0, none⟩ : Addr).add j = ⟨g, j, none⟩ := by unfold Addr.add; split <;> simp_all
    rwa [hadd] at this
  have hg : l[k]? = some (l.getD k tk0) := by simp [List.getD, show k < l.length by omega]
  obtain ⟨q0, q1, q2⟩ := flatT_get l k _ hg
  exact ⟨g, 0, rfl, by rw [Nat.zero_add]; exact ⟨hc _ _ q0, hc _ _ q1, hc _ _ q2⟩⟩
theorem own_baseT {w : World} {base base' n sz : Nat} {e : TypeId} {v : Value} {xs : List Value} (h : w.ownsRow base e sz v n xs) (hb : base' ≤ base) : w.ownsRow base' e sz v n xs := by
  refine ⟨h.1, ?_⟩
  rcases h.2 with h | ⟨g, cap, cur, h1, h2, h3⟩
  · exact .inl h
  · exact .inr ⟨g, cap, cur, h1, Nat.le_trans hb h2, h3⟩
theorem own_belowT {w w' : World} {base n sz : Nat} {e : TypeId} {v : Value} {xs : List Value} (h : w.ownsRow base e sz v n xs) (hb : Below w.heap.size w w') : w'.ownsRow base e sz v n xs := by
  refine ⟨h.1, ?_⟩
  rcases h.2 with h | ⟨g, cap, cur, h1, h2, h3, h4⟩
  · exact .inl h
  · exact .inr ⟨g, cap, cur, h1, h2, (hb.block g (Array.getElem?_eq_some_iff.1 h3).1).trans h3, h4⟩
/-- A token behind a row of the call's own. -/
theorem wpList_appT {P : Program} {ops : Array Oper} {rest : List Oper} {o : Oper} {a : Act} {Q : Exit → Act → World → Prop} (hgd : o.guard = none) (s x : Operand) (t : TypeId)
    (ho : o.op = .call { callee := .builtin .append, args := #[s, x], argTypes := #[t, t] })
    (base : Nat) (e : TypeId) (i : TypeInfo) (z : Value) (bytes : Nat) (ht : P.underlying t = some (.slice e)) (hi : P.info? e = some i) (hz : i.zero = some z)
    (hsize : i.size = 3) (hby : i.bytes = bytes) (hzs : z.cells.size = 3) (w0 : World) (y : Tok7)
    {ra : Option Addr} {n rc : Nat} {l : List Tok7} (hown : w0.ownsRow base e 3 (.slice ra n rc) n (flatT l)) (hs : a.eval s = .slice ra n rc) (hx : a.eval x = .slice (some ⟨w0.heap.size, 0, none⟩) 1 1)
    (h63 : n + 1 ≤ 140737488355328) (hbytes : (n + 1) * bytes ≤ 140737488355328) (hbase : base ≤ w0.heap.size)
    (h : ∀ (b : Option Addr) (c : Nat) (w' : World), w'.ownsRow base e 3 (.slice b (n + 1) c) (n + 1) (flatT (l ++ [y])) → Below base w0 w' → wpList P ops Q rest (a.put o.dst (.slice b (n + 1) c)) w') : wpList P ops Q (o :: rest) a (w0.alloc (.cells #[.int .u8 y.lit, .int .i64 y.len, .int .i64 y.dist] e)) := by
  have hnew : ∀ j u, ([.int .u8 y.lit, .int .i64 y.len, .int .i64 y.dist] : List Value)[j]? = some u → (w0.alloc (.cells #[.int .u8 y.lit, .int .i64 y.len, .int .i64 y.dist] e)).cell? ((⟨w0.heap.size, 0, none⟩ : Addr).add j) = some u := by
    intro j u hu
    have hadd : (⟨w0.heap.size, 0, none⟩ : Addr).add j = ⟨w0.heap.size, j, none⟩ := by unfold Addr.add; split <;> simp_all
    rw [hadd]
    have hh := heap_alloc_new w0 (.cells #[.int .u8 y.lit, .int .i64 y.len, .int .i64 y.dist] e)
    simp only [World.cell?, hh]
    simpa using hu
  refine wpList_append_own _ hgd s x t ho base e i z 3 bytes ht hi hz hsize hby hzs (by decide) _ n (flatT l) hs (hown.alloc _) ⟨w0.heap.size, 0, none⟩ 1 1 [.int .u8 y.lit, .int .i64 y.len, .int .i64 y.dist] hx rfl hnew (by intro u hu; simp only [List.mem_cons, List.not_mem_nil, or_false] at hu; rcases hu with rfl | rfl | rfl <;> rfl) (by unfold maxLen; omega) hbytes (by simp; omega) ?_
  intro v' w' h1 h2 _
  obtain ⟨b, c, rfl⟩ : ∃ b c, v' = .slice b (n + 1) c := by
    rcases h1.2 with ⟨rfl, h0⟩ | ⟨g, cp, cur, rfl, _⟩
    · exact ⟨none, 0, by rw [h0]⟩
    · exact ⟨_, _, rfl⟩
  refine h b c w' (by rw [flatT_app]; exact h1) ?_
  have b1 : Below base w0 (w0.alloc (.cells #[.int .u8 y.lit, .int .i64 y.len, .int .i64 y.dist] e)) := (Below.refl _ _).alloc hbase _
  exact b1.trans ((Below.refl _ _).grown h2 (Nat.le_trans hbase b1.size) (fun k hk => (hown.lt k hk).1))
theorem info_tok7 : (Try.prog.info? 73).map (fun i => (i.zero, i.size, i.bytes)) = some (some (.agg #[.int .u8 0, .int .i64 0, .int .i64 0]), 3, 24) := by kernel_rfl

/-! Parse. -/
theorem parg7_fuel (D : List Int) (W C : Nat) (lz : Bool) : ∀ f g p, D.length ≤ p + f → D.length ≤ p + g → parg7 D W C lz f p = parg7 D W C lz g p
  | 0, 0, p, _, _ => rfl
  | 0, g + 1, p, h, _ => by rw [parg7, parg7, if_neg (by omega)]
  | f + 1, 0, p, _, h => by rw [parg7, parg7, if_neg (by omega)]
  | f + 1, g + 1, p, h1, h2 => by
    rw [parg7, parg7]
    by_cases hp : p < D.length
    · rw [if_pos hp, if_pos hp]
      by_cases h0 : pick7 D W C lz p = 0
      · rw [if_pos h0, if_pos h0, parg7_fuel D W C lz f g (p + 1) (by omega) (by omega)]
      · rw [if_neg h0, if_neg h0, parg7_fuel D W C lz f g (p + pick7 D W C lz p) (by omega) (by omega)]
    · rw [if_neg hp, if_neg hp]
theorem parg7_lit {D : List Int} {W C : Nat} {lz : Bool} {p : Nat} (hp : p < D.length) (h0 : pick7 D W C lz p = 0) : parg7 D W C lz (D.length - p) p = ⟨D.getD p 0, 0, 0⟩ :: parg7 D W C lz (D.length - (p + 1)) (p + 1) := by
  rw [show D.length - p = D.length - (p + 1) + 1 by omega, parg7, if_pos hp, if_pos h0]
theorem parg7_mat {D : List Int} {W C : Nat} {lz : Bool} {p b : Nat} (hp : p < D.length) (hb : pick7 D W C lz p = b) (h0 : b ≠ 0) : parg7 D W C lz (D.length - p) p = ⟨0, (b : Int), ((bst7 D p W C).2 : Int)⟩ :: parg7 D W C lz (D.length - (p + b)) (p + b) := by
  rw [show D.length - p = D.length - (p + 1) + 1 by omega, parg7, if_pos hp, hb, if_neg h0, parg7_fuel D W C lz _ (D.length - (p + b)) (p + b) (by omega) (by omega)]
set_option maxRecDepth 100000 in
theorem rparse7_no (a : Option Addr) (n cap : Nat) (win chain : Int) (lazy : Bool) (w : World) (ho : opt7 win chain ≠ 0) :
    Calls Try.prog 23 #[.slice a n cap, look7 win chain lazy] w fun e w' => e = .returned (.tuple #[.slice none 0 0, .int .i64 72]) ∧ Below w.heap.size w w' := by
  obtain ⟨wA, hwA⟩ : ∃ wA, wA = w.alloc (.cells #[.int .i64 win, .int .i64 chain, .bool lazy] 44) := ⟨_, rfl⟩
  have bA : Below w.heap.size w wA := by rw [hwA]; exact below_box _ _
  have HWA : Hid (wA = w.alloc (.cells #[.int .i64 win, .int .i64 chain, .bool lazy] 44)) := hwA
  have CO := ropt7 win chain lazy wA
  rw [opt7_no ho] at CO
  clear hwA ho
  unfold look7 at CO ⊢
  go_enter Try.func23, Try.ntmps23
  go_wp2_with fail
  rw [← HWA.out]
  refine CO.mono ?_
  rintro e w1 ⟨rfl, b1⟩
  go_wp2_with fail
  go_ret2
  exact ⟨rfl, bA.trans (b1.mono bA.size)⟩
/-- What Parse answers: a row of its own. -/
def TokQ (w : World) (ty : TypeId) (T : List Tok7) (e : Ending) (w' : World) : Prop := ∃ oa oc, e = .returned (.tuple #[.slice oa T.length oc, .int .i64 0]) ∧ w'.ownsRow w.heap.size ty 3 (.slice oa T.length oc) T.length (flatT T) ∧ Below w.heap.size w w'
/-- How far Parse has come. -/
def PaI (D : List Int) (W C : Nat) (lz : Bool) (wA wr : World) (ty : TypeId) (tl tp : Value) : Prop := ∃ (p m oc : Nat) (oa : Option Addr) (T : List Tok7), p ≤ D.length ∧ m ≤ p ∧ tp = .int .i64 (p : Int) ∧ tl = .slice oa m oc ∧ T.length = m ∧ par7 D W C lz = T ++ parg7 D W C lz (D.length - p) p ∧
  wr.ownsRow wA.heap.size ty 3 (.slice oa m oc) m (flatT T) ∧ Below wA.heap.size wA wr
set_option maxRecDepth 100000 in
set_option maxHeartbeats 8000000 in
theorem rparse7_ok (D : List Int) (a : Option Addr) (n cap W C : Nat) (lazy : Bool) (hn : Hid (D.length = n)) (w : World) (hs : Seg w a D) (hl : n ≤ 4398046511104) (hW1 : 1 ≤ W) (hW2 : W ≤ 32768) (hC : C ≤ 4096) :
    Calls Try.prog 23 #[.slice a n cap, look7 W C lazy] w (TokQ w 73 (par7 D W C lazy)) := by
  obtain ⟨i0, hi, hz0, hz1, hz2⟩ := info_parts info_tok7
  obtain ⟨wA, hwA⟩ : ∃ wA, wA = w.alloc (.cells #[.int .i64 (W : Int), .int .i64 (C : Int), .bool lazy] 44) := ⟨_, rfl⟩
  have bA : Below w.heap.size w wA := by rw [hwA]; exact below_box _ _
  have lA : LkAt wA w.heap.size W C lazy := boxL hwA
  have HWA : Hid (wA = w.alloc (.cells #[.int .i64 (W : Int), .int .i64 (C : Int), .bool lazy] 44)) := hwA
  have CO := ropt7 W C lazy wA
  rw [show opt7 W C = 0 by unfold opt7; rw [if_neg (by omega)]] at CO
  obtain ⟨ob, hob⟩ : ∃ ob, ob = w.heap.size := ⟨_, rfl⟩
  have HOB : Hid (ob = w.heap.size) := hob
  rw [← hob] at lA
  have hol := lA.lt
  have HLA : Hid (LkAt wA ob W C lazy) := lA
  have HSA : Hid (Seg wA a D) := hs.old bA
  have HCB : Hid (∀ W' p, Below wA.heap.size wA W' → p < n → Calls Try.prog 29 #[.slice a n cap, .int .i64 (p : Int), look7 W C lazy] W' fun e w' => e = .returned (.tuple #[.int .i64 ((bst7 D p W C).1 : Int), .int .i64 ((bst7 D p W C).2 : Int), .int .i64 0]) ∧ Below W'.heap.size W' w') := fun W' p hb hp =>
    rbest7_ok D a n cap p W C lazy hn W' ((show Seg wA a D from HSA.out).old hb) hp (by omega) hW1 hW2 hC
  clear hwA hob lA hs
  unfold look7 at CO HCB ⊢
  go_enter Try.func23, Try.ntmps23
  go_wp2_with fail
  rw [← HWA.out, ← HOB.out]
  refine CO.mono ?_
  rintro e w1 ⟨rfl, b1⟩
  go_wp2_with fail
  go_loopw [7, 8] (fun tl tp wr => PaI D W C lazy wA wr 73 tl tp) (fun _ tp _ => n - (intOf tp).toNat)
  case atStart => exact ⟨0, 0, 0, none, [], by omega, by omega, rfl, rfl, rfl, rfl, World.ownsRow_nil _ _ _ _, b1⟩
  case round =>
    obtain ⟨p, m, oc, oa, T, hpn, hmp, rfl, rfl, hTl, hpar, OO, BR⟩ := hrel
    rw [hn.out] at hpn
    have HTL : Hid (T.length = m) := hTl
    have HPR : Hid (par7 D W C lazy = T ++ parg7 D W C lazy (D.length - p) p) := hpar
    clear hTl hpar
    by_cases hlt : p < n
    · have hlti : (p : Int) < (n : Int) := by omega
      have hpD : p < D.length := by rw [hn.out]; exact hlt
      have lr := (show LkAt wA ob W C lazy from HLA.out).of_block (BR.block ob hol)
      obtain ⟨k0, k1, k2⟩ := lr
      have sg : Seg wr a D := (show Seg wA a D from HSA.out).old BR
      have hmt := bst7_mt D p W C
      have hmf : p + (bst7 D p W C).1 ≤ n := by
        rcases hmt with e | e
        · omega
        · have := e.fits; rw [hn.out] at this; exact this
      have HPK : Hid (pick7 D W C lazy p = if 0 < (bst7 D p W C).1 ∧ lazy = true ∧ p + 1 < n ∧ (bst7 D p W C).1 < (bst7 D (p + 1) W C).1 then 0 else (bst7 D p W C).1) := by
        show _ = _
        unfold pick7
        rw [hn.out]
      have HMA : Hid (∀ b, pick7 D W C lazy p = b → b ≠ 0 → parg7 D W C lazy (D.length - p) p = ⟨0, (b : Int), ((bst7 D p W C).2 : Int)⟩ :: parg7 D W C lazy (D.length - (p + b)) (p + b)) := fun b hb h0 => parg7_mat hpD hb h0
      have HLI : Hid (pick7 D W C lazy p = 0 → parg7 D W C lazy (D.length - p) p = ⟨D.getD p 0, 0, 0⟩ :: parg7 D W C lazy (D.length - (p + 1)) (p + 1)) := fun h => parg7_lit hpD h
      have CB := HCB.out wr p BR hlt
      have hbd : (bst7 D p W C).2 ≤ p := by
        rcases hmt with e | e
        · omega
        · exact e.dp
      have CB2 : Hid (∀ W', Below wA.heap.size wA W' → p + 1 < n → Calls Try.prog 29 #[.slice a n cap, .int .i64 ((p : Int) + 1), .agg #[.int .i64 (W : Int), .int .i64 (C : Int), .bool lazy]] W' fun e w' => e = .returned (.tuple #[.int .i64 ((bst7 D (p + 1) W C).1 : Int), .int .i64 ((bst7 D (p + 1) W C).2 : Int), .int .i64 0]) ∧ Below W'.heap.size W' w') := fun W' hb h => by
        have := HCB.out W' (p + 1) hb h
        simpa using this
      obtain ⟨g, off, rfl, cp⟩ := sg.at_ p hpD
      have hzb := sg.bd p
      have HSZ : Hid (Seg wr (some ⟨g, off, none⟩) D) := sg
      have hwp1 : IntKind.i64.wrap ((p : Int) + 1) = (p : Int) + 1 := IntWalk.i64_in _ (by omega)
      clear sg hmt
      generalize D.getD p 0 = z at *
      generalize (bst7 D p W C).1 = b at *
      generalize (bst7 D p W C).2 = d at *
      generalize (bst7 D (p + 1) W C).1 = b2 at *
      generalize (bst7 D (p + 1) W C).2 = d2 at *
      generalize pick7 D W C lazy p = pk at *
      have hwpb : IntKind.i64.wrap ((p : Int) + (b : Int)) = ((p + b : Nat) : Int) := by rw [IntWalk.i64_in _ (by omega)]; omega
      obtain ⟨pb, hpb⟩ : ∃ pb, pb = p + b := ⟨_, rfl⟩
      rw [← hpb] at hwpb
      have HPB : Hid (pb = p + b) := hpb
      clear hpb
      by_cases hb0 : b = 0
      · have HK : Hid (pk = 0) := by show _ = _; rw [HPK.out, if_neg (by omega)]; exact hb0
        subst hb0
        go_wp2_with fail
        refine CB.mono ?_
        rintro e w2 ⟨rfl, b2w⟩
        have B2 : Below wA.heap.size wA w2 := BR.trans (b2w.mono BR.size)
        have O2 : w2.ownsRow wA.heap.size 73 3 (.slice oa m oc) m (flatT T) := own_belowT OO b2w
        have s2 : Seg w2 (some ⟨g, off, none⟩) D := HSZ.out.old b2w
        have c2 : w2.cell? ⟨g, off + p, none⟩ = some (.int .u8 z) := (b2w.cell (p := ⟨g, off + p, none⟩) (World.block_lt_of_cell? wr _ cp)).trans cp
        have hs2 := B2.size
        have kq := (show LkAt wA ob W C lazy from HLA.out).of_block (B2.block ob hol)
        obtain ⟨q0, q1, q2⟩ := kq
        clear cp
        go_wp2_with (first | (at_builtin; refine wpList_appT rfl (.tmp 59) (.tmp 65) 23 rfl wA.heap.size 73 i0 _ 24 Try.underlying23 hi hz0 hz1 hz2 rfl w2 ⟨z, 0, 0⟩ O2 rfl rfl (by omega) (by omega) hs2 ?_; intro ga gc w3 own3 b3))
        have B3 : Below wA.heap.size wA w3 := B2.trans b3
        have HP3 : Hid (par7 D W C lazy = (T ++ [⟨z, 0, 0⟩]) ++ parg7 D W C lazy (D.length - (p + 1)) (p + 1)) := by
          show _ = _
          rw [HPR.out, HLI.out HK.out, List.append_assoc]
          rfl
        have HT3 : Hid ((T ++ [(⟨z, 0, 0⟩ : Tok7)]).length = m + 1) := by show _ = _; rw [List.length_append, HTL.out]; rfl
        clear HPR HLI HMA HPK
        go_wp2_with fail
        go_roundw
        case rel => exact ⟨p + 1, m + 1, gc, ga, T ++ [⟨z, 0, 0⟩], by rw [hn.out]; omega, by omega, by go_num, rfl, HT3.out, HP3.out, own3, B3⟩
        case measure => simp [intOf]; omega
      · have hbi : (0 : Int) < (b : Int) := by omega
        have hbn : ¬ (b : Int) = 0 := by omega
        cases lazy with
        | false =>
          have HK : Hid (pk = b) := by show _ = _; rw [HPK.out, if_neg (by simp)]
          go_wp2_with fail
          refine CB.mono ?_
          rintro e w2 ⟨rfl, b2w⟩
          have B2 : Below wA.heap.size wA w2 := BR.trans (b2w.mono BR.size)
          have O2 : w2.ownsRow wA.heap.size 73 3 (.slice oa m oc) m (flatT T) := own_belowT OO b2w
          have s2 : Seg w2 (some ⟨g, off, none⟩) D := HSZ.out.old b2w
          have c2 : w2.cell? ⟨g, off + p, none⟩ = some (.int .u8 z) := (b2w.cell (p := ⟨g, off + p, none⟩) (World.block_lt_of_cell? wr _ cp)).trans cp
          have hs2 := B2.size
          have kq := (show LkAt wA ob W C false from HLA.out).of_block (B2.block ob hol)
          obtain ⟨q0, q1, q2⟩ := kq
          clear cp
          go_wp2_with (first | (at_builtin; refine wpList_appT rfl (.tmp 69) (.tmp 73) 23 rfl wA.heap.size 73 i0 _ 24 Try.underlying23 hi hz0 hz1 hz2 rfl w2 ⟨0, b, d⟩ O2 rfl rfl (by omega) (by omega) hs2 ?_; intro ga gc w3 own3 b3))
          have B3 : Below wA.heap.size wA w3 := B2.trans b3
          have HP3 : Hid (par7 D W C false = (T ++ [⟨0, b, d⟩]) ++ parg7 D W C false (D.length - pb) pb) := by
            show _ = _
            rw [HPR.out, HMA.out b HK.out hb0, List.append_assoc, HPB.out]
            rfl
          have HT3 : Hid ((T ++ [(⟨0, b, d⟩ : Tok7)]).length = m + 1) := by show _ = _; rw [List.length_append, HTL.out]; rfl
          clear HPR HLI HMA HPK
          go_wp2_with fail
          go_roundw
          case rel => exact ⟨pb, m + 1, gc, ga, T ++ [⟨0, b, d⟩], by rw [hn.out, HPB.out]; exact hmf, by have := HPB.out; omega, rfl, rfl, HT3.out, HP3.out, own3, B3⟩
          case measure => have := HPB.out; simp [intOf]; omega
        | true =>
          by_cases hp1 : p + 1 < n
          · have hp1i : (p : Int) + 1 < (n : Int) := by omega
            by_cases hgt : b < b2
            · have HK : Hid (pk = 0) := by show _ = _; rw [HPK.out, if_pos ⟨by omega, rfl, hp1, hgt⟩]
              have hgti : (b : Int) < (b2 : Int) := by omega
              go_wp2_with fail
              refine CB.mono ?_
              rintro e w5 ⟨rfl, b5w⟩
              have B5 : Below wA.heap.size wA w5 := BR.trans (b5w.mono BR.size)
              have k5 := (show LkAt wA ob W C true from HLA.out).of_block (B5.block ob hol)
              obtain ⟨m0, m1, m2⟩ := k5
              go_wp2_with fail
              refine (CB2.out w5 B5 hp1).mono ?_
              rintro e w2 ⟨rfl, b2w⟩
              have B2 : Below wA.heap.size wA w2 := B5.trans (b2w.mono B5.size)
              have O2 : w2.ownsRow wA.heap.size 73 3 (.slice oa m oc) m (flatT T) := own_belowT (own_belowT OO b5w) b2w
              have s2 : Seg w2 (some ⟨g, off, none⟩) D := HSZ.out.old (b5w.trans (b2w.mono b5w.size))
              have c2 : w2.cell? ⟨g, off + p, none⟩ = some (.int .u8 z) := ((b5w.trans (b2w.mono b5w.size)).cell (p := ⟨g, off + p, none⟩) (World.block_lt_of_cell? wr _ cp)).trans cp
              have hs2 := B2.size
              have kq := (show LkAt wA ob W C true from HLA.out).of_block (B2.block ob hol)
              obtain ⟨q0, q1, q2⟩ := kq
              clear cp
              go_wp2_with (first | (at_builtin; refine wpList_appT rfl (.tmp 59) (.tmp 65) 23 rfl wA.heap.size 73 i0 _ 24 Try.underlying23 hi hz0 hz1 hz2 rfl w2 ⟨z, 0, 0⟩ O2 rfl rfl (by omega) (by omega) hs2 ?_; intro ga gc w3 own3 b3))
              have B3 : Below wA.heap.size wA w3 := B2.trans b3
              have HP3 : Hid (par7 D W C true = (T ++ [⟨z, 0, 0⟩]) ++ parg7 D W C true (D.length - (p + 1)) (p + 1)) := by
                show _ = _
                rw [HPR.out, HLI.out HK.out, List.append_assoc]
                rfl
              have HT3 : Hid ((T ++ [(⟨z, 0, 0⟩ : Tok7)]).length = m + 1) := by show _ = _; rw [List.length_append, HTL.out]; rfl
              clear HPR HLI HMA HPK
              go_wp2_with fail
              go_roundw
              case rel => exact ⟨p + 1, m + 1, gc, ga, T ++ [⟨z, 0, 0⟩], by rw [hn.out]; omega, by omega, by go_num, rfl, HT3.out, HP3.out, own3, B3⟩
              case measure => simp [intOf]; omega
            · have HK : Hid (pk = b) := by show _ = _; rw [HPK.out, if_neg (by omega)]
              have hgti : ¬ (b : Int) < (b2 : Int) := by omega
              go_wp2_with fail
              refine CB.mono ?_
              rintro e w5 ⟨rfl, b5w⟩
              have B5 : Below wA.heap.size wA w5 := BR.trans (b5w.mono BR.size)
              have k5 := (show LkAt wA ob W C true from HLA.out).of_block (B5.block ob hol)
              obtain ⟨m0, m1, m2⟩ := k5
              go_wp2_with fail
              refine (CB2.out w5 B5 hp1).mono ?_
              rintro e w2 ⟨rfl, b2w⟩
              have B2 : Below wA.heap.size wA w2 := B5.trans (b2w.mono B5.size)
              have O2 : w2.ownsRow wA.heap.size 73 3 (.slice oa m oc) m (flatT T) := own_belowT (own_belowT OO b5w) b2w
              have s2 : Seg w2 (some ⟨g, off, none⟩) D := HSZ.out.old (b5w.trans (b2w.mono b5w.size))
              have c2 : w2.cell? ⟨g, off + p, none⟩ = some (.int .u8 z) := ((b5w.trans (b2w.mono b5w.size)).cell (p := ⟨g, off + p, none⟩) (World.block_lt_of_cell? wr _ cp)).trans cp
              have hs2 := B2.size
              have kq := (show LkAt wA ob W C true from HLA.out).of_block (B2.block ob hol)
              obtain ⟨q0, q1, q2⟩ := kq
              clear cp
              go_wp2_with (first | (at_builtin; refine wpList_appT rfl (.tmp 69) (.tmp 73) 23 rfl wA.heap.size 73 i0 _ 24 Try.underlying23 hi hz0 hz1 hz2 rfl w2 ⟨0, b, d⟩ O2 rfl rfl (by omega) (by omega) hs2 ?_; intro ga gc w3 own3 b3))
              have B3 : Below wA.heap.size wA w3 := B2.trans b3
              have HP3 : Hid (par7 D W C true = (T ++ [⟨0, b, d⟩]) ++ parg7 D W C true (D.length - pb) pb) := by
                show _ = _
                rw [HPR.out, HMA.out b HK.out hb0, List.append_assoc, HPB.out]
                rfl
              have HT3 : Hid ((T ++ [(⟨0, b, d⟩ : Tok7)]).length = m + 1) := by show _ = _; rw [List.length_append, HTL.out]; rfl
              clear HPR HLI HMA HPK
              go_wp2_with fail
              go_roundw
              case rel => exact ⟨pb, m + 1, gc, ga, T ++ [⟨0, b, d⟩], by rw [hn.out, HPB.out]; exact hmf, by have := HPB.out; omega, rfl, rfl, HT3.out, HP3.out, own3, B3⟩
              case measure => have := HPB.out; simp [intOf]; omega
          · have hp1i : ¬ (p : Int) + 1 < (n : Int) := by omega
            have HK : Hid (pk = b) := by show _ = _; rw [HPK.out, if_neg (by omega)]
            go_wp2_with fail
            refine CB.mono ?_
            rintro e w2 ⟨rfl, b2w⟩
            have B2 : Below wA.heap.size wA w2 := BR.trans (b2w.mono BR.size)
            have O2 : w2.ownsRow wA.heap.size 73 3 (.slice oa m oc) m (flatT T) := own_belowT OO b2w
            have s2 : Seg w2 (some ⟨g, off, none⟩) D := HSZ.out.old b2w
            have c2 : w2.cell? ⟨g, off + p, none⟩ = some (.int .u8 z) := (b2w.cell (p := ⟨g, off + p, none⟩) (World.block_lt_of_cell? wr _ cp)).trans cp
            have hs2 := B2.size
            have kq := (show LkAt wA ob W C true from HLA.out).of_block (B2.block ob hol)
            obtain ⟨q0, q1, q2⟩ := kq
            clear cp
            go_wp2_with (first | (at_builtin; refine wpList_appT rfl (.tmp 69) (.tmp 73) 23 rfl wA.heap.size 73 i0 _ 24 Try.underlying23 hi hz0 hz1 hz2 rfl w2 ⟨0, b, d⟩ O2 rfl rfl (by omega) (by omega) hs2 ?_; intro ga gc w3 own3 b3))
            have B3 : Below wA.heap.size wA w3 := B2.trans b3
            have HP3 : Hid (par7 D W C true = (T ++ [⟨0, b, d⟩]) ++ parg7 D W C true (D.length - pb) pb) := by
              show _ = _
              rw [HPR.out, HMA.out b HK.out hb0, List.append_assoc, HPB.out]
              rfl
            have HT3 : Hid ((T ++ [(⟨0, b, d⟩ : Tok7)]).length = m + 1) := by show _ = _; rw [List.length_append, HTL.out]; rfl
            clear HPR HLI HMA HPK
            go_wp2_with fail
            go_roundw
            case rel => exact ⟨pb, m + 1, gc, ga, T ++ [⟨0, b, d⟩], by rw [hn.out, HPB.out]; exact hmf, by have := HPB.out; omega, rfl, rfl, HT3.out, HP3.out, own3, B3⟩
            case measure => have := HPB.out; simp [intOf]; omega
    · have hge : ¬ (p : Int) < (n : Int) := by omega
      have HE : Hid (par7 D W C lazy = T) := by
        show _ = _
        rw [HPR.out, show D.length - p = 0 by rw [hn.out]; omega, parg7, List.append_nil]
      clear HPR
      go_wp2_with fail
      go_ret2
      refine ⟨oa, oc, ?_, ?_, bA.trans (BR.mono bA.size)⟩
      · rw [HE.out, HTL.out]; rfl
      · rw [HE.out, HTL.out]; exact own_baseT OO bA.size
end Go.Proofs.Ytaipfcfmhdigfaa

namespace Go.Proofs.Ytaipfcfmhdigfaa
open Go.RowKit
set_option linter.unusedVariables false

/-! What the calls of package lz answer, in one form for the program and the document. -/
def xpd7 (win : Int) (l : List Tok7) : List Int := if (check7 win l).2 = 0 then exp7 [] l else []
def ExpQ (w : World) (R : List Int) (er : Int) (e : Ending) (w' : World) : Prop := ∃ oa oc, e = .returned (.tuple #[.slice oa R.length oc, .int .i64 er]) ∧ w'.ownsRow w.heap.size 5 1 (.slice oa R.length oc) R.length (R.map (Value.int .u8)) ∧ Below w.heap.size w w'
theorem rxpd7 (win : Int) (l : List Tok7) (a : Option Addr) (n cap : Nat) (hn : Hid (l.length = n)) (w : World) (hs : SegT w a l) (hl : n ≤ 1073741824) :
    Calls Try.prog 14 #[.int .i64 win, .slice a n cap] w (ExpQ w (xpd7 win l) (check7 win l).2) := by
  refine (rexp7 win l a n cap hn w hs hl).mono ?_
  rintro e w' (⟨h, rfl, hb⟩ | ⟨h, oa, oc, rfl, ho, hb⟩)
  · unfold ExpQ xpd7
    rw [if_neg h]
    exact ⟨none, 0, rfl, World.ownsRow_nil _ _ _ _, hb⟩
  · unfold ExpQ xpd7
    rw [if_pos h, h]
    exact ⟨oa, oc, rfl, ho, hb⟩
def best7 (D : List Int) (p win chain : Int) : Int × Int × Int :=
  if opt7 win chain ≠ 0 then (0, 0, 72) else if p < 0 ∨ (D.length : Int) ≤ p then (0, 0, 1) else (((bst7 D p.toNat win.toNat chain.toNat).1 : Int), ((bst7 D p.toNat win.toNat chain.toNat).2 : Int), 0)
theorem rbest7 (D : List Int) (a : Option Addr) (n cap : Nat) (p win chain : Int) (lazy : Bool) (hn : Hid (D.length = n)) (w : World) (hs : Seg w a D) (hl : n ≤ 1152921504606846976) :
    Calls Try.prog 29 #[.slice a n cap, .int .i64 p, look7 win chain lazy] w fun e w' => e = .returned (.tuple #[.int .i64 (best7 D p win chain).1, .int .i64 (best7 D p win chain).2.1, .int .i64 (best7 D p win chain).2.2]) ∧ Below w.heap.size w w' := by
  unfold best7
  by_cases ho : opt7 win chain = 0
  · rw [if_neg (by simpa using ho), hn.out]
    by_cases hp : p < 0 ∨ (n : Int) ≤ p
    · rw [if_pos hp]
      exact rbest7_arg D a n cap p win chain lazy w ho hp
    · rw [if_neg hp]
      obtain ⟨h1, h2, h3, h4⟩ := opt7_ok ho
      obtain ⟨P, rfl⟩ := Int.eq_ofNat_of_zero_le (show 0 ≤ p by omega)
      obtain ⟨W, rfl⟩ := Int.eq_ofNat_of_zero_le (show 0 ≤ win by omega)
      obtain ⟨C, rfl⟩ := Int.eq_ofNat_of_zero_le h3
      exact rbest7_ok D a n cap P W C lazy hn w hs (by omega) hl (by omega) (by omega) (by omega)
  · rw [if_pos ho]
    exact rbest7_no D a n cap p win chain lazy w ho
def parse7 (D : List Int) (win chain : Int) (lazy : Bool) : List Tok7 := if opt7 win chain = 0 then par7 D win.toNat chain.toNat lazy else []
def ParQ (w : World) (ty : TypeId) (T : List Tok7) (er : Int) (e : Ending) (w' : World) : Prop := ∃ oa oc, e = .returned (.tuple #[.slice oa T.length oc, .int .i64 er]) ∧ w'.ownsRow w.heap.size ty 3 (.slice oa T.length oc) T.length (flatT T) ∧ Below w.heap.size w w'
theorem rpar7 (D : List Int) (a : Option Addr) (n cap : Nat) (win chain : Int) (lazy : Bool) (hn : Hid (D.length = n)) (w : World) (hs : Seg w a D) (hl : n ≤ 4398046511104) :
    Calls Try.prog 23 #[.slice a n cap, look7 win chain lazy] w (ParQ w 73 (parse7 D win chain lazy) (opt7 win chain)) := by
  unfold parse7
  by_cases ho : opt7 win chain = 0
  · rw [if_pos ho, ho]
    obtain ⟨h1, h2, h3, h4⟩ := opt7_ok ho
    obtain ⟨W, rfl⟩ := Int.eq_ofNat_of_zero_le (show 0 ≤ win by omega)
    obtain ⟨C, rfl⟩ := Int.eq_ofNat_of_zero_le h3
    exact rparse7_ok D a n cap W C lazy hn w hs hl (by omega) (by omega) (by omega)
  · rw [if_neg ho, opt7_no ho]
    refine (rparse7_no a n cap win chain lazy w ho).mono ?_
    rintro e w' ⟨rfl, hb⟩
    exact ⟨none, 0, rfl, World.ownsRow_nil _ _ _ _, hb⟩
theorem parg7_fit (D : List Int) (W C : Nat) (lz : Bool) (hD : ∀ z ∈ D, 0 ≤ z ∧ z ≤ 255) (hl : D.length ≤ 1152921504606846976) : ∀ f p, ∀ t ∈ parg7 D W C lz f p, t.Fit
  | 0, p, t, h => by simp [parg7] at h
  | f + 1, p, t, h => by
    rw [parg7] at h
    by_cases hp : p < D.length
    · rw [if_pos hp] at h
      by_cases h0 : pick7 D W C lz p = 0
      · rw [if_pos h0] at h
        rcases List.mem_cons.1 h with rfl | h
        · have := getD_bd7 hD p
          exact ⟨this, by simp, by simp⟩
        · exact parg7_fit D W C lz hD hl f _ t h
      · rw [if_neg h0] at h
        rcases List.mem_cons.1 h with rfl | h
        · rcases pick7_mt D W C lz p with e | e
          · exact absurd e h0
          · have h1 := e.n258
            have h2 := e.dp
            refine ⟨by simp, ?_, ?_⟩ <;> simp only <;> omega
        · exact parg7_fit D W C lz hD hl f _ t h
    · rw [if_neg hp] at h
      simp at h
theorem parse7_fit {D : List Int} {win chain : Int} {lazy : Bool} (hD : ∀ z ∈ D, 0 ≤ z ∧ z ≤ 255) (hl : D.length ≤ 1152921504606846976) : ∀ t ∈ parse7 D win chain lazy, t.Fit := by
  unfold parse7
  split
  · exact parg7_fit D _ _ _ hD hl _ _
  · simp
theorem parse7_len {D : List Int} {win chain : Int} {lazy : Bool} : (parse7 D win chain lazy).length ≤ D.length := by
  unfold parse7
  split
  · rename_i h
    have h1 := opt7_ok h
    have := (Tz7.all (by omega) _ _ (par7_tz D win.toNat chain.toNat lazy)).2.2.2
    simpa using this
  · simp
end Go.Proofs.Ytaipfcfmhdigfaa
