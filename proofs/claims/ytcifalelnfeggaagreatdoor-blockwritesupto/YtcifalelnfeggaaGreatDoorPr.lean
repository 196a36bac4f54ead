import Derived.Test.YtcifalelnfeggaaGreatDoorPq
import Derived.Test.YtcifalelnfeggaaGreatDoorPn
import Derived.Test.YtcifalelnfeggaaGreatDoorPp
import Derived.Deep.RegionLaw
import Derived.Deep.AppendLies
namespace Go.Proofs.YtcifalelnfeggaaGreatDoor
open Go.RowKit
set_option linter.unusedVariables false

/-! The bits of tokens by codes of these lengths; as many as the tally says. -/
def tkB9 (ZL ZD : List Int) (t : Tok7) : List Bool := if t.len = 0 then putB ZL t.lit else putB ZL ((257 + lix9 t.len : Nat) : Int) ++ bN (t.len - lnS9.getD (lix9 t.len * 2) 0).toNat (lnS9.getD (lix9 t.len * 2 + 1) 0).toNat ++ putB ZD (dix9 t.dist : Int) ++ bN (t.dist - dsS9.getD (dix9 t.dist * 2) 0).toNat (dsS9.getD (dix9 t.dist * 2 + 1) 0).toNat
def bdy9 (ZL ZD : List Int) (l : List Tok7) : List Bool := l.flatMap (tkB9 ZL ZD) ++ putB ZL 256
theorem sum_inc9 (A ys : List Int) (s : Nat) (v : Int) (hs : s < A.length) : ∀ n, sumC9 (inc9 A s v) ys n = sumC9 A ys n + if s < n then v * ys.getD s 0 else 0
  | 0 => by simp [sumC9]
  | n + 1 => by
    rw [sumC9, sumC9, sum_inc9 A ys s v hs n, inc9_get _ _ _ _ hs]
    by_cases h1 : s < n
    · rw [if_pos h1, if_neg (by omega), if_pos (by omega)]
      rw [Int.add_zero]
      omega
    · rw [if_neg h1]
      by_cases h2 : s = n
      · subst h2
        rw [if_pos rfl, if_pos (by omega), Int.add_mul]
        omega
      · rw [if_neg h2, if_neg (by omega), Int.add_zero, Int.add_zero, Int.add_zero]
theorem sum_zero9 (ys : List Int) (m : Nat) : ∀ n, sumC9 (List.replicate m 0) ys n = 0
  | 0 => rfl
  | n + 1 => by rw [sumC9, sum_zero9 ys m n, repl_get]; omega
theorem set_inc9 {A : List Int} {s : Nat} (h : A.getD s 0 = 0) : A.set s 1 = inc9 A s 1 := by unfold inc9; rw [h]; rfl
theorem tak_get9 (Z : List Int) {n i : Nat} (h : i < n) : (Z.take n).getD i 0 = Z.getD i 0 := by
  simp only [List.getD, List.getElem?_take_of_lt h]
theorem tst9_more {X : List Int} (hX : X.length = 318) {t : Tok7} (hf : t.Fit) (hm : may7 t) : (tst9 X t).getD 1 0 = X.getD 1 0 + if t.len = 0 then 0 else lnS9.getD (lix9 t.len * 2 + 1) 0 + dsS9.getD (dix9 t.dist * 2 + 1) 0 := by
  obtain ⟨a, b, c⟩ := fit_may9 hf hm
  unfold tst9
  rcases c with ⟨c, _⟩ | ⟨c, c3, c4, c5, c6, _⟩
  · rw [if_pos c, if_pos c, inc9_get _ _ _ _ (by rw [inc9_len, hX]; omega), inc9_get _ _ _ _ (by omega), if_neg (by omega), if_neg (by omega)]
    omega
  · have h1 := (lspec9 c3).2.1
    have h2 := (dspec9 c5).2.1
    rw [if_neg c, if_neg c, inc9_get _ _ _ _ (by simp only [inc9_len, hX]; omega), inc9_get _ _ _ _ (by simp only [inc9_len, hX]; omega), inc9_get _ _ _ _ (by simp only [inc9_len, hX]; omega), inc9_get _ _ _ _ (by simp only [inc9_len, hX]; omega), inc9_get _ _ _ _ (by omega)]
    simp only [eq_false (show ¬ 0 = 1 by omega), eq_false (show ¬ 259 + lix9 t.len = 1 by omega), eq_false (show ¬ 288 + dix9 t.dist = 1 by omega), if_false, if_true]
    omega
theorem put_len9 {Z : List Int} (h : errC Z = 0) {k : Nat} (hk : k < Z.length) : ((putB Z (k : Int)).length : Int) = Z.getD k 0 := by
  rw [putB_lenIn h hk]
  have := (errS_zero (errC_zero h).1).2
  unfold ln
  have hz : 0 ≤ Z.getD k 0 := by
    have hm : Z.getD k 0 ∈ Z := by simp only [List.getD, List.getElem?_eq_getElem hk, Option.getD_some]; exact List.getElem_mem hk
    exact (this _ hm).1
  omega
theorem bdy9_k {ZL ZD : List Int} (hL : errC ZL = 0) (hD : errC ZD = 0) (nL : 286 ≤ ZL.length) (nD : 30 ≤ ZD.length) (l : List Tok7) (hf : ∀ t ∈ l, t.Fit) (hm : ∀ t ∈ l, may7 t) : ∀ k, k ≤ l.length → sumC9 ((cl9 (tals9 (l.take k))).set 256 1) (ZL.take 286) 286 + sumC9 (cd9 (tals9 (l.take k))) (ZD.take 30) 30 + (tals9 (l.take k)).getD 1 0 = (((l.take k).flatMap (tkB9 ZL ZD)).length : Int) + ((putB ZL 256).length : Int)
  | 0, _ => by
    rw [List.take_zero, ← z0_9.1, ← z0_9.2, set_inc9 (repl_get 286 256), sum_inc9 _ _ _ _ (by rw [List.length_replicate]; omega), sum_zero9, sum_zero9, if_pos (by omega), tak_get9 _ (by omega)]
    have e1 := put_len9 hL (k := 256) (by omega)
    have e2 : (tals9 []).getD 1 0 = 0 := repl_get 318 1
    rw [e2]
    simp only [List.flatMap_nil, List.length_nil]
    have e3 : ((256 : Nat) : Int) = 256 := rfl
    rw [e3] at e1
    omega
  | k + 1, hk => by
    have ih := bdy9_k hL hD nL nD l hf hm k (by omega)
    have hmem : l.getD k tk0 ∈ l := by simp only [List.getD, List.getElem?_eq_getElem (show k < l.length by omega), Option.getD_some]; exact List.getElem_mem _
    have hft := hf _ hmem
    have hmt := hm _ hmem
    rw [takeT7 (by omega), tals9_snoc, List.flatMap_append, List.length_append]
    generalize l.getD k tk0 = t at *
    have hX := tals9_len (l.take k)
    generalize tals9 (l.take k) = X at *
    obtain ⟨hs, hs2⟩ := sym9_lt hft hmt
    rw [cl9_step hX hft hmt, sum_inc9 _ _ _ _ (by rw [List.length_set, cl9_len]; exact hs), if_pos hs, tak_get9 _ hs, tst9_more hX hft hmt]
    simp only [List.flatMap_cons, List.flatMap_nil, List.append_nil]
    obtain ⟨a, b, c⟩ := fit_may9 hft hmt
    rcases c with ⟨c, _⟩ | ⟨c, c3, c4, c5, c6, _⟩
    · rw [cd9_lit hX hft hmt c, if_pos c]
      have e : sym9 t = t.lit.toNat := by unfold sym9; rw [if_pos c]
      have e2 : tkB9 ZL ZD t = putB ZL (t.lit.toNat : Int) := by unfold tkB9; rw [if_pos c, Int.toNat_of_nonneg a]
      rw [e2, e]
      have e1 := put_len9 hL (k := t.lit.toNat) (by omega)
      push_cast
      omega
    · have h1 := (lspec9 c3).2.1
      have h2 := (dspec9 c5).2.1
      have b1 := lnb9 (lix9 t.len)
      have b2 := dsb9 (dix9 t.dist)
      rw [cd9_step hX hft hmt c, sum_inc9 _ _ _ _ (by rw [cd9_len]; exact h2), if_pos h2, tak_get9 _ h2, if_neg c]
      have e : sym9 t = 257 + lix9 t.len := by unfold sym9; rw [if_neg c]
      have e1 := put_len9 hL (k := 257 + lix9 t.len) (by omega)
      have e3 := put_len9 hD (k := dix9 t.dist) (by omega)
      have e2 : ((tkB9 ZL ZD t).length : Int) = ZL.getD (257 + lix9 t.len) 0 + lnS9.getD (lix9 t.len * 2 + 1) 0 + ZD.getD (dix9 t.dist) 0 + dsS9.getD (dix9 t.dist * 2 + 1) 0 := by
        unfold tkB9
        rw [if_neg c]
        rw [List.length_append, List.length_append, List.length_append, bN_len, bN_len]
        omega
      rw [e]
      push_cast
      omega
theorem bdy9_len {ZL ZD : List Int} (hL : errC ZL = 0) (hD : errC ZD = 0) (nL : 286 ≤ ZL.length) (nD : 30 ≤ ZD.length) {l : List Tok7} (hm : mer9 l = 0) (hf : ∀ t ∈ l, t.Fit) : ((bdy9 ZL ZD l).length : Int) = bts9 (tal9 l) ZL ZD := by
  have h := bdy9_k hL hD nL nD l hf (mer9_zero hm).2 l.length (Nat.le_refl _)
  rw [List.take_of_length_le (Nat.le_refl _), ← cl9_tal, ← cd9_tal] at h
  have hct := tal9_ct hm hf
  have e1 : (tal9 l).getD 1 0 = (tals9 l).getD 1 0 := by unfold tal9; rw [gset9 _ _ _ _ (by rw [tals9_len]; omega), if_neg (by omega)]
  have bL := (errS_zero (errC_zero hL).1).2
  have bD := (errS_zero (errC_zero hD).1).2
  have l1 : (ZL.take 286).length = 286 := by rw [List.length_take]; omega
  have l2 : (ZD.take 30).length = 30 := by rw [List.length_take]; omega
  have g : ∀ (Z : List Int) (hb : ∀ z ∈ Z, 0 ≤ z ∧ z ≤ 15) (n i : Nat), i < (Z.take n).length → 0 ≤ (Z.take n).getD i 0 ∧ (Z.take n).getD i 0 ≤ 15 := fun Z hb n i hi => by
    have hm : (Z.take n).getD i 0 ∈ Z.take n := by simp only [List.getD, List.getElem?_eq_getElem hi, Option.getD_some]; exact List.getElem_mem hi
    exact hb _ (List.mem_of_mem_take hm)
  have c1 := (errK9_ok (xs := cl9 (tal9 l)) (ys := ZL.take 286) (by rw [cl9_len, l1]) (errOf_ok9 (by rw [cl9_len]; omega) (cl9_bd hct)) (fun i hi => g ZL bL 286 i hi)).2
  have c2 := (errK9_ok (xs := cd9 (tal9 l)) (ys := ZD.take 30) (by rw [cd9_len, l2]) (errOf_ok9 (by rw [cd9_len]; omega) (cd9_bd hct)) (fun i hi => g ZD bD 30 i hi)).2
  unfold bts9
  rw [c1, c2, l1, l2, e1, h]
  unfold bdy9
  rw [List.length_append]
  push_cast
  rfl
end Go.Proofs.YtcifalelnfeggaaGreatDoor

namespace Go.Proofs.YtcifalelnfeggaaGreatDoor
open Go.RowKit
set_option linter.unusedVariables false

/-! A head's bits, counted. -/
theorem rnb8_cost {Z : List Int} (h : errC Z = 0) (hl : Z.length = 19) : ∀ R : List Rn8, (∀ r ∈ R, ok8 r) → (rnb8 Z R).length = cb8 Z R
  | [], _ => rfl
  | r :: R, hr => by
    have hok := hr r (by simp)
    have h1 := putB_cost h r.sy
    obtain ⟨s, hs⟩ : ∃ s : Nat, r.sy = (s : Int) := ⟨r.sy.toNat, by unfold ok8 at hok; omega⟩
    have hs19 : s < 19 := by unfold ok8 at hok; omega
    rw [hs, costV_in (by omega)] at h1
    rw [rnb8, cb8, List.length_append, List.length_append, bN_len, rnb8_cost h hl R fun x hx => hr x (by simp [hx]), hs, Int.toNat_natCast]
    omega
theorem hd8_len {lit dist : List Int} (h : tld8 errC lit dist) : (hd8 lit dist).length = cst8 lit dist := by
  have hZ := sz8_ok h
  have hR := (runs8_ok (tld8_ok h).2.2.1).1
  unfold hd8 cst8
  simp only [List.length_append, bN_len, szb8_len]
  have hc := rnb8_cost hZ.1 hZ.2.1 (rs8 lit dist) hR
  omega
end Go.Proofs.YtcifalelnfeggaaGreatDoor

namespace Go.Proofs.YtcifalelnfeggaaGreatDoor
open Go.RowKit
set_option linter.unusedVariables false

/-! A block's own lengths can be told; what a block costs is how many bits it has. -/
theorem lensR_code9 {zs : List Int} (h : zs.length ≤ 288) (hb : ∀ i, 0 ≤ zs.getD i 0 ∧ zs.getD i 0 ≤ 1099511627776) : errC (lensR 15 zs) = 0 ∧ ∀ i, i < zs.length → zs.getD i 0 ≠ 0 → (lensR 15 zs).getD i 0 ≠ 0 := by
  have he := errOf_ok9 h hb
  have hu : nUse zs ≤ 2 ^ 15 := by
    rw [nUse_us]
    unfold usI
    have := List.length_filter_le (fun i => decide (zs.getD i 0 ≠ 0)) (List.range zs.length)
    rw [List.length_range] at this
    omega
  have hL : lensR 15 zs = lensL 15 zs := by
    unfold lensR
    rw [if_pos (errL_ok9 h hb)]
    rfl
  rw [hL]
  obtain ⟨h1, h2, h3⟩ := lens_code he (lim := 15) (by omega) (by omega) hu
  exact ⟨h1, fun i hi hz => h3 i hi hz⟩
theorem own_told9 {l : List Tok7} (hm : mer9 l = 0) (hf : ∀ t ∈ l, t.Fit) : errC (oL9 (tal9 l)) = 0 ∧ errC (oD9 (tal9 l)) = 0 ∧ tld8 errC (oL9 (tal9 l)) (oD9 (tal9 l)) := by
  have hct := tal9_ct hm hf
  obtain ⟨n1, n2⟩ := oL9_len hct
  have c1 := lensR_code9 (by rw [cl9_len]; omega) (cl9_bd hct)
  have c2 := lensR_code9 (by rw [cd9_len]; omega) (cd9_bd hct)
  refine ⟨c1.1, c2.1, by rw [n1]; omega, by rw [n1]; omega, by rw [n2]; omega, c1.1, c2.1, ?_⟩
  refine c1.2 256 (by rw [cl9_len]; omega) ?_
  rw [cl9_get _ (by omega)]
  unfold tal9
  rw [gset9 _ _ _ _ (by rw [tals9_len]; omega), if_pos rfl]
  omega
/-- The bits of a block, behind x bits of a byte. -/
def blk9 (k x : Nat) (last : Bool) (data : List Int) (l : List Tok7) : List Bool :=
  [last, decide (k % 2 = 1), decide (k / 2 % 2 = 1)] ++
  (if k = 0 then List.replicate ((8 - (x + 3) % 8) % 8) false ++ bN data.length 16 ++ bN (65535 - data.length) 16 ++ bB data
   else if k = 1 then bdy9 plnL9 plnD9 l else hd8 (oL9 (tal9 l)) (oD9 (tal9 l)) ++ bdy9 (oL9 (tal9 l)) (oD9 (tal9 l)) l)
theorem owc9_len {l : List Tok7} (hm : mer9 l = 0) (hf : ∀ t ∈ l, t.Fit) : owc9 (tal9 l) = 3 + ((hd8 (oL9 (tal9 l)) (oD9 (tal9 l))).length : Int) + ((bdy9 (oL9 (tal9 l)) (oD9 (tal9 l)) l).length : Int) := by
  obtain ⟨e1, e2, ht⟩ := own_told9 hm hf
  obtain ⟨n1, n2⟩ := oL9_len (tal9_ct hm hf)
  rw [bdy9_len e1 e2 (by omega) (by omega) hm hf]
  unfold owc9 hco9
  rw [if_pos ht, hd8_len ht]
theorem blk9_len {k x : Nat} (hk : k < 3) {last : Bool} {data : List Int} {l : List Tok7} (hm : mer9 l = 0) (hf : ∀ t ∈ l, t.Fit) (hd : (data.length : Int) = (tal9 l).getD 0 0) : ((blk9 k x last data l).length : Int) = cos9 k x (tal9 l) := by
  unfold blk9 cos9
  obtain rfl | rfl | rfl : k = 0 ∨ k = 1 ∨ k = 2 := by omega
  · rw [if_pos rfl, if_pos rfl]
    unfold sto9
    rw [← hd]
    simp only [List.length_append, List.length_cons, List.length_nil, List.length_replicate, bN_len, bB_len]
    omega
  · rw [if_neg (by omega), if_pos rfl, if_neg (by omega), if_pos rfl, ← bdy9_len pln_ok9.1 pln_ok9.2 (by rw [plnL9_len]; omega) (by show 30 ≤ 32; omega) hm hf]
    simp only [List.length_append, List.length_cons, List.length_nil]
    omega
  · rw [if_neg (by omega), if_neg (by omega), if_neg (by omega), if_neg (by omega), owc9_len hm hf]
    simp only [List.length_append, List.length_cons, List.length_nil]
    omega
end Go.Proofs.YtcifalelnfeggaaGreatDoor

namespace Go.Proofs.YtcifalelnfeggaaGreatDoor
open Go.RowKit
set_option linter.unusedVariables false

/-! The document's writer on its way; how many sizes it tells. -/
def RwI (W wr : World) (bw B : Nat) (v : Value) (M : List Bool) : Prop := ∃ v', RwL wr bw B v' M ∧ Kp (WS bw v) W wr ∧ Fresh W v v'
theorem RwI.start {W : World} {bw B : Nat} {v : Value} {M : List Bool} (h : RwL W bw B v M) : RwI W W bw B v M := ⟨v, h, Kp.refl _ _, fun k e => .inl e⟩
theorem RwI.kp {W wr : World} {bw B : Nat} {v : Value} {M : List Bool} (h : RwI W wr bw B v M) : Kp (WS bw v) W wr := by
  obtain ⟨v', _, h2, _⟩ := h
  exact h2
theorem RwI.next {W wr w' : World} {bw B : Nat} {v v1 v2 : Value} {M2 : List Bool} (hK : Kp (WS bw v) W wr) (hF : Fresh W v v1) (h : RwL w' bw B v2 M2) (hk : Kp (WS bw v1) wr w') (hf : Fresh wr v1 v2) : RwI W w' bw B v M2 := by
  refine ⟨v2, h, hK.trans (S' := WS bw v1) hk (fun k hlt e => ?_), fun k e => ?_⟩
  · rcases e with e | e
    · exact .inl e
    · rcases hF k e with e2 | e2
      · exact .inr e2
      · omega
  · rcases hf k e with e2 | e2
    · exact hF k e2
    · exact .inr (Nat.le_trans hK.size e2)
theorem RwL.below8 {w w' : World} {b B : Nat} {v : Value} {L : List Bool} (h : RwL w b B v L) (hb : Below w.heap.size w w') : RwL w' b B v L := h.kp (kp_of_below hb (fun _ => False)) (fun h => h) (fun _ _ h => h)
theorem RwI.old {W wr w' : World} {bw B : Nat} {v : Value} {M : List Bool} (h : RwI W wr bw B v M) (hb : Below wr.heap.size wr w') : RwI W w' bw B v M := by
  obtain ⟨v', h1, h2, h3⟩ := h
  exact ⟨v', h1.below8 hb, h2.trans (S' := fun _ => False) (kp_of_below hb _) (fun _ _ e => e.elim), h3⟩
theorem RwI.up {w W wr : World} {bw B : Nat} {v : Value} {M : List Bool} (hb : Below w.heap.size w W) (h : RwI W wr bw B v M) : RwI w wr bw B v M := by
  obtain ⟨v', h1, h2, h3⟩ := h
  refine ⟨v', h1, (kp_of_below hb (WS bw v)).trans (S' := WS bw v) h2 (fun _ _ e => e), fun k e => ?_⟩
  rcases h3 k e with e2 | e2
  · exact .inl e2
  · exact .inr (Nat.le_trans hb.size e2)
def RuQ (W : World) (bw B : Nat) (v : Value) (M : List Bool) (e : Ending) (w' : World) : Prop := e = .returned (.int .i64 0) ∧ RwI W w' bw B v M
theorem rput8 {W wr : World} {bw B : Nat} {v : Value} {M : List Bool} (h : RwI W wr bw B v M) (x k : Nat) (hx : x < 2 ^ k) (hk : k ≤ 56) (hl : M.length ≤ 140737488355264) :
    Calls Tryz.prog 30 #[.pointer (some ⟨bw, 0, none⟩), .int .u64 (x : Int), .int .i64 (k : Int)] wr (RuQ W bw B v (M ++ bN x k)) := by
  obtain ⟨v', h1, h2, h3⟩ := h
  refine (rput_ok bw B v' M x k wr h1 hx hk hl).mono ?_
  rintro e w' ⟨rfl, v2, q1, q2, q3⟩
  exact ⟨rfl, RwI.next h2 h3 q1 q2 q3⟩
/-- The document's way to count the sizes that are told. -/
def cmx8 (Z : List Int) : Nat → Nat
  | 0 => 4
  | i + 1 => if Z.getD (ordL.getD i 0).toNat 0 ≠ 0 ∧ cmx8 Z i < i + 1 then i + 1 else cmx8 Z i
theorem cmx8_bd (Z : List Int) : ∀ i, 4 ≤ cmx8 Z i ∧ cmx8 Z i ≤ max 4 i
  | 0 => by simp [cmx8]
  | i + 1 => by
    have := cmx8_bd Z i
    rw [cmx8]
    split <;> omega
theorem cmx8_few (Z : List Int) : ∀ i, i ≤ 4 → cmx8 Z i = 4
  | 0, _ => rfl
  | i + 1, h => by
    have e := cmx8_few Z i (by omega)
    rw [cmx8, e, if_neg (by omega)]
theorem cmx8_tol (Z : List Int) : ∀ n, 4 ≤ n → cmx8 Z n = tol8 Z n
  | 0, h => by omega
  | n + 1, h => by
    by_cases h4 : n + 1 = 4
    · rw [h4, cmx8_few Z 4 (by omega)]
      obtain rfl : n = 3 := by omega
      rw [tol8, if_neg (by omega)]
    · have ih := cmx8_tol Z n (by omega)
      have hb := cmx8_bd Z n
      rw [cmx8, tol8]
      by_cases hz : Z.getD (ordL.getD n 0).toNat 0 = 0
      · rw [if_neg (fun h => h.1 hz), if_pos ⟨by omega, hz⟩, ih]
      · rw [if_pos ⟨hz, by omega⟩, if_neg (fun h => hz h.2)]
end Go.Proofs.YtcifalelnfeggaaGreatDoor

namespace Go.Proofs.YtcifalelnfeggaaGreatDoor
open Go.RowKit
set_option linter.unusedVariables false

/-! The document's Write. -/
def DwQ (w : World) (bx B : Nat) (u : Value) (L : List Bool) (lit dist : List Int) (e : Ending) (w' : World) : Prop := e = .returned (.int .i64 (if tld8 errC lit dist then 0 else 80)) ∧ RwI w w' bx B u (L ++ if tld8 errC lit dist then hd8 lit dist else [])
theorem seg_ord8 (w : World) : SegZ (w.alloc (.cells (ord8.map (Value.int .i64)).toArray 3)) (some ⟨w.heap.size, 0, none⟩) ordL := by
  refine ⟨fun i hi => ⟨w.heap.size, 0, rfl, ?_⟩, getD_bdz (by decide)⟩
  rw [Nat.zero_add, cell_of_row _ _ i _ _ _ (heap_alloc_new w _)]
  have : ord8 = ordL := rfl
  rw [this]
  simp [List.getD, hi]
set_option maxRecDepth 100000 in
set_option maxHeartbeats 4000000 in
theorem rwrite8 (bx B : Nat) (u : Value) (L : List Bool) (lit dist : List Int) (a b : Option Addr) (n m ca cb : Nat) (hn : Hid (lit.length = n)) (hm : Hid (dist.length = m)) (w : World) (hw : RwL w bx B u L) (hL : L.length ≤ 140737488300000) (hx : SegZ w a lit) (hy : SegZ w b dist) (hca : n ≤ ca) (hcb : m ≤ cb) (hna : a = none → ca = 0) (hnb : b = none → cb = 0) :
    Calls Tryz.prog 61 #[.pointer (some ⟨bx, 0, none⟩), .slice a n ca, .slice b m cb] w (DwQ w bx B u L lit dist) := by
  have CT := rtold8 errC (fun a zs n cap w h1 h2 h3 => rcheck_any a zs n cap h1 w h2 (by omega)) lit dist a b n m ca cb hn hm w hx hy
  have HX : Hid (SegZ w a lit) := hx
  have HY : Hid (SegZ w b dist) := hy
  have HWR : Hid (RwL w bx B u L) := hw
  have hbl := hw.b_lt
  have HOW := hw.own_lt
  clear hx hy hw
  by_cases ht : tld8 errC lit dist
  · rw [decide_eq_true ht] at CT
    have HQ : Hid (∀ w', RwI w w' bx B u (L ++ hd8 lit dist) → DwQ w bx B u L lit dist (.returned (.int .i64 0)) w') := fun w' h => by
      unfold DwQ
      rw [if_pos ht, if_pos ht]
      exact ⟨rfl, h⟩
    have HHD : Hid (hd8 lit dist = bN ((sht8 lit 257).length - 257) 5 ++ bN ((sht8 dist 1).length - 1) 5 ++ bN (tol8 (sz8 lit dist) 19 - 4) 4 ++ szb8 (sz8 lit dist) (tol8 (sz8 lit dist) 19) ++ rnb8 (sz8 lit dist) (rs8 lit dist)) := rfl
    obtain ⟨_, _, hmay, hal, hbl2⟩ := tld8_ok ht
    have hR := runs8_ok hmay
    have hE := fr8_err lit dist ht
    have hZ := sz8_ok ht
    have hto := tol8_bd (sz8 lit dist) 19 (by omega)
    have hcx := cmx8_tol (sz8 lit dist) 19 (by omega)
    have hn286 : n ≤ 286 ∧ m ≤ 30 := by
      obtain ⟨_, h2, h3, _⟩ := ht
      rw [hn.out] at h2
      rw [hm.out] at h3
      exact ⟨h2, h3⟩
    obtain ⟨i0, hi, hz0, hz1, hz2⟩ := info_parts info_int
    have hmk : ∀ W, (Instr.makeSlice 39 (.int .i64 19) (.int .i64 19)).run Tryz.prog W = .ok (.slice (some ⟨W.heap.size, 0, none⟩) 19 19) (W.alloc (.cells (Array.replicate 19 (.int .i64 0)) 3)) := fun W => run_make_ints 19 (by omega) W
    clear ht
    go_enter Tryz.func61, Tryz.ntmps61
    go_wp2_with fail
    refine CT.mono ?_
    rintro e w' ⟨rfl, hw'⟩
    subst w'
    clear CT
    go_wp2_with fail
    refine (rshort8 lit 257 a n ca hn w HX.out hna hca (by omega) (by omega)).mono ?_
    rintro e w2 ⟨oa, oc, rfl, OA2, B2⟩
    obtain ⟨A, hA⟩ : ∃ A, A = sht8 lit 257 := ⟨_, rfl⟩
    obtain ⟨D, hD⟩ : ∃ D, D = sht8 dist 1 := ⟨_, rfl⟩
    have HAB : Hid (sht8 lit 257 = A ∧ sht8 dist 1 = D) := ⟨hA.symm, hD.symm⟩
    obtain ⟨kA, hnA⟩ : ∃ kA, A.length = kA + 257 := ⟨A.length - 257, by rw [hA]; omega⟩
    obtain ⟨kB, hnB⟩ : ∃ kB, D.length = kB + 1 := ⟨D.length - 1, by rw [hD]; omega⟩
    have HLA : Hid (A.length = kA + 257) := hnA
    have HLB : Hid (D.length = kB + 1) := hnB
    have hbA : kA ≤ 29 ∧ kB ≤ 29 := by
      rw [hA] at hnA
      rw [hD] at hnB
      omega
    rw [HAB.out.1, HLA.out] at OA2
    rw [HAB.out.1, HLA.out]
    rw [HAB.out.1, HAB.out.2, HLA.out, HLB.out, show kA + 257 - 257 = kA by omega, show kB + 1 - 1 = kB by omega] at HHD
    clear hA hD hnA hnB
    go_wp2_with fail
    refine (rshort8 dist 1 b m cb hm w2 ((show SegZ w b dist from HY.out).old B2) hnb hcb (by omega) (by omega)).mono ?_
    rintro e w3 ⟨pa, pc, rfl, OB3, B3⟩
    have x3 : Below w.heap.size w w3 := B2.trans (B3.mono B2.size)
    rw [HAB.out.2, HLB.out] at OB3
    rw [HAB.out.2, HLB.out]
    have hAM : ∀ z ∈ A, -9223372036854775808 ≤ z ∧ z ≤ 9223372036854775807 := fun z hz => by
      have := hmay.2 z (by unfold rw8; rw [HAB.out.1]; exact List.mem_append_left _ hz)
      omega
    have hBM : ∀ z ∈ D, -9223372036854775808 ≤ z ∧ z ≤ 9223372036854775807 := fun z hz => by
      have := hmay.2 z (by unfold rw8; rw [HAB.out.2]; exact List.mem_append_right _ hz)
      omega
    have hm0 : (w3.alloc (.cells #[] 3)).ownsRow w3.heap.size 3 1 (.slice (some ⟨w3.heap.size, 0, none⟩) 0 0) 0 [] := World.ownsRow_made w3 #[] 0 (Nat.le_refl _) (by decide) rfl
    have SA4 : SegZ (w3.alloc (.cells #[] 3)) oa A := ((own_segZ OA2 hAM).old B3).alloc _
    have SB3 := own_segZ OB3 hBM
    have hon : oa = none → oc = 0 := fun e => by
      obtain ⟨g, _, _⟩ := own_shape1 OA2 (by omega)
      simp_all
    have hpn : pa = none → pc = 0 := fun e => by
      obtain ⟨g, _, _⟩ := own_shape1 OB3 (by omega)
      simp_all
    have b34 := below_box8 w3 (.cells #[] 3)
    have HSB : Hid (∀ W, Below w3.heap.size w3 W → SegZ W pa D) := fun W hW => SB3.old hW
    clear OA2 OB3 B2 B3 SB3
    rw [← HLA.out, ← HLB.out]
    go_wp2_with (first
      | (at_builtin; refine wpList_appZ rfl (.tmp 30) (.tmp 31) 39 rfl w3.heap.size 3 i0 (.int .i64 0) 8 Tryz.underlying39 hi hz0 hz1 hz2 rfl hm0 SA4 hon rfl rfl (by rw [HLA.out]; omega) (by rw [HLA.out]; omega) (by simp) ?_; intro qa qc w4 OQ4 hg4 _ _; have B4 := b34.trans ((Below.refl w3.heap.size _).grown hg4 (by simp) (fun k hk => by cases hk; exact Nat.le_refl _)); rw [Nat.zero_add, List.nil_append] at OQ4; rw [Nat.zero_add])
      | (at_builtin; refine wpList_appZ rfl (.tmp 32) (.tmp 33) 39 rfl w3.heap.size 3 i0 (.int .i64 0) 8 Tryz.underlying39 hi hz0 hz1 hz2 rfl OQ4 (HSB.out _ B4) hpn rfl rfl (by rw [HLA.out, HLB.out]; omega) (by rw [HLA.out, HLB.out]; omega) B4.size ?_; intro ra2 rc2 w5 OQ5 hg5 _ _))
    have B5 : Below w3.heap.size w3 w5 := B4.trans ((Below.refl w3.heap.size _).grown hg5 B4.size (fun k hk => (OQ4.lt k hk).1))
    have x5 : Below w.heap.size w w5 := x3.trans (B5.mono x3.size)
    have HRW : Hid (A ++ D = rw8 lit dist) := by show _ = _; unfold rw8; rw [HAB.out.1, HAB.out.2]
    rw [← List.map_append, HRW.out] at OQ5
    have SQ5 : SegZ w5 ra2 (rw8 lit dist) := own_segZ OQ5 (fun z hz => by have := hmay.2 z hz; omega)
    have HLQ : Hid ((rw8 lit dist).length = A.length + D.length) := by show _ = _; rw [← HRW.out, List.length_append]
    clear OQ4 hg4 hg5 OQ5 B4 b34 hm0 SA4 HSB B5
    have CR := rruns8 (rw8 lit dist) ra2 (A.length + D.length) rc2 HLQ w5 SQ5
    have HRR : Hid (rns8 (rw8 lit dist) = rs8 lit dist ∧ rer8 (rw8 lit dist) = 0) := by
      unfold rns8 rer8
      rw [if_pos hmay, if_pos hmay]
      exact ⟨rfl, rfl⟩
    rw [HRR.out.1, HRR.out.2] at CR
    obtain ⟨Z, hZe⟩ : ∃ Z, Z = sz8 lit dist := ⟨_, rfl⟩
    obtain ⟨R, hRe⟩ : ∃ R, R = rs8 lit dist := ⟨_, rfl⟩
    have HOKR : Hid (∀ r ∈ rs8 lit dist, ok8 r) := fun r hr => hR.1 r hr
    have hR3 : (rs8 lit dist).length ≤ 320 := by have := hR.2; have := hmay.1; unfold rs8; omega
    have HFR : Hid (fr8 lit dist = tly8 (rs8 lit dist)) := rfl
    rw [← hZe] at HHD hE hZ hto hcx
    rw [← hRe] at HHD hZ CR HOKR hR3 HFR
    have HRZ : Hid (lensR 7 (tly8 R) = Z ∧ errL 7 (tly8 R) = 0) := by rw [← HFR.out]; exact ⟨hE.2.2.2, hE.2.2.1⟩
    clear hZe hRe hE hR HFR
    obtain ⟨nR, hnR⟩ : ∃ nR, nR = R.length := ⟨_, rfl⟩
    have HNR : Hid (R.length = nR) := hnR.symm
    rw [← hnR] at hR3
    clear hnR SQ5
    go_wp2_with fail
    refine CR.mono ?_
    rintro e w6 ⟨ra, rc, rfl, OR6, B6⟩
    rw [HNR.out] at OR6
    rw [HNR.out]
    have x6 : Below w.heap.size w w6 := x5.trans (B6.mono x5.size)
    have SR6 : SegN w6 ra R := own_segN OR6 HNR.out
    have hrg : ∀ g o, ra = some ⟨g, o, none⟩ → w.heap.size ≤ g := fun g o e => Nat.le_trans x5.size (own_blk28 OR6 _ e)
    clear CR OR6 B6
    go_wp2_with fail
    have O7 := own_zeros w6 19 (by omega)
    have B7 := below_box8 w6 (.cells (Array.replicate 19 (.int .i64 0)) 3)
    generalize w6.alloc (.cells (Array.replicate 19 (.int .i64 0)) 3) = w7 at *
    go_loopw [12] (fun ti wr => ∃ i : Nat, i ≤ nR ∧ ti = .int .i64 (i : Int) ∧ wr.ownsRow w6.heap.size 3 1 (.slice (some ⟨w6.heap.size, 0, none⟩) 19 19) 19 ((tly8 (R.take i)).map (Value.int .i64)) ∧ Below w6.heap.size w6 wr) (fun ti _ => nR - (intOf ti).toNat)
    case atStart => exact ⟨0, by omega, rfl, by rw [List.take_zero]; exact O7, B7⟩
    case round =>
      obtain ⟨i, hin, rfl, OO, BR⟩ := hrel
      clear O7 B7
      by_cases hlt : i < nR
      · have hlti : (i : Int) < (nR : Int) := by omega
        have hil : i < R.length := by rw [HNR.out]; exact hlt
        obtain ⟨rb, off, rfl, cs, cc⟩ := (SR6.old BR).at_ i hil
        have HTK : Hid (R.take (i + 1) = R.take i ++ [R.getD i ⟨0, 0⟩]) := take_snocN hil
        have hbd := HOKR.out (R.getD i ⟨0, 0⟩) (by simp [List.getD, hil])
        generalize R.getD i ⟨0, 0⟩ = r at *
        obtain ⟨sy, ct⟩ := r
        simp only [ok8] at cs cc hbd
        obtain ⟨s, rfl⟩ : ∃ s : Nat, sy = (s : Int) := ⟨sy.toNat, by omega⟩
        have hs19 : (s : Int) < 19 := by omega
        have hzb := tly8_bd (R.take i) ((tly8 (R.take i)).getD s 0) (by have : s < (tly8 (R.take i)).length := by rw [tly8_len]; omega
                                                                        simp [List.getD, this])
        rw [List.length_take] at hzb
        have HSN : Hid (tly8 (R.take (i + 1)) = (tly8 (R.take i)).set s ((tly8 (R.take i)).getD s 0 + 1)) := by
          show _ = _
          rw [HTK.out, tly8_snoc _ (by omega)]
        obtain ⟨d0, fz⟩ := own_cell1 OO (i := s) (by rw [tly8_len]; omega)
        have f0 := fz s
        obtain ⟨OS, GS⟩ := OO.stored s (.int .i64 ((tly8 (R.take i)).getD s 0 + 1))
        rw [← List.map_set, ← HSN.out] at OS
        have HB : Hid (Below w6.heap.size w6 (wr.setCell ⟨w6.heap.size, s, none⟩ (.int .i64 ((tly8 (R.take i)).getD s 0 + 1)))) := BR.trans ((Below.refl _ _).grown GS BR.size (fun k hk => by cases hk; exact Nat.le_refl _))
        have HOS : Hid _ := OS
        clear OS GS fz HSN HTK
        generalize (tly8 (R.take i)).getD s 0 = z at *
        go_wp2_with fail
        go_roundw
        case rel => exact ⟨i + 1, by omega, by go_num, HOS.out, HB.out⟩
        case measure => simp [intOf]; omega
      · have hge : ¬ (i : Int) < (nR : Int) := by omega
        have hTA : R.take i = R := List.take_of_length_le (by rw [HNR.out]; omega)
        rw [hTA] at OO
        have HF19 : Hid ((tly8 R).length = 19) := tly8_len _
        have SF : SegZ wr (some ⟨w6.heap.size, 0, none⟩) (tly8 R) := own_segZ OO (fun z hz => by have := tly8_bd _ z hz; have h3 := HNR.out; omega)
        have CL := rlengths_far 7 (some ⟨w6.heap.size, 0, none⟩) (tly8 R) 19 19 HF19 wr SF (by omega)
        unfold LenF at CL
        obtain ⟨hZC, hZ19, hZb, hZn⟩ := hZ
        rw [HRZ.out.1, HRZ.out.2, hZ19] at CL
        have x8 : Below w.heap.size w wr := x6.trans (BR.mono x6.size)
        have SR8 := SR6.old BR
        generalize wr = w8 at *
        clear SF OO BR SR6 hTA
        go_wp2_with fail
        refine CL.mono ?_
        rintro e w9 ⟨zb, zc, rfl, SZ9, hzf, B9⟩
        have x9 : Below w.heap.size w w9 := x8.trans (B9.mono x8.size)
        have hzg : ∀ x, zb = some x → w.heap.size ≤ x.block := fun x e => Nat.le_trans x8.size (hzf x e).1
        have SR9 := SR8.old B9
        clear CL hzf B9 SR8
        go_wp2_with fail
        refine (rorder8 w9).mono ?_
        rintro e W ⟨rfl, hW⟩
        have SOW : SegZ W (some ⟨w9.heap.size, 0, none⟩) ordL := by rw [hW]; exact seg_ord8 w9
        have BW : Below w9.heap.size w9 W := by rw [hW]; exact below_box8 w9 _
        have xW : Below w.heap.size w W := x9.trans (BW.mono x9.size)
        have SZW := SZ9.old BW
        have SRW := SR9.old BW
        have hog : w.heap.size ≤ w9.heap.size := x9.size
        clear hW SZ9 SR9 BW x9
        obtain ⟨zg, zo, hzb, _⟩ := SZW.at_ 0 (by omega)
        have hzgk : w.heap.size ≤ zg := hzg _ hzb
        subst hzb
        clear hzg
        go_wp2_with fail
        go_loopw [16, 17] (fun tc ti wr => ∃ i : Nat, i ≤ 19 ∧ ti = .int .i64 (i : Int) ∧ tc = .int .i64 (cmx8 Z i : Int) ∧ wr = W) (fun _ ti _ => 19 - (intOf ti).toNat)
        case atStart => exact ⟨0, by omega, rfl, rfl, rfl⟩
        case round =>
          obtain ⟨i, hi19, rfl, rfl, hwr⟩ := hrel
          have hwr2 : W = wr := hwr.symm
          subst hwr2
          clear hwr
          by_cases hlt : i < 19
          · have hlti : (i : Int) < 19 := by omega
            obtain ⟨ob, oo, eo, co⟩ := SOW.at_ i (by show i < 19; exact hlt)
            cases eo
            rw [Nat.zero_add] at co
            have hob := ord_bd ⟨i, hlt⟩
            simp only at hob
            have HC : Hid (cmx8 Z (i + 1) = if Z.getD (ordL.getD i 0).toNat 0 ≠ 0 ∧ cmx8 Z i < i + 1 then i + 1 else cmx8 Z i) := rfl
            have hcb := cmx8_bd Z i
            generalize cmx8 Z i = c at *
            generalize ordL.getD i 0 = oq at *
            obtain ⟨s, rfl⟩ : ∃ s : Nat, oq = (s : Int) := ⟨oq.toNat, by omega⟩
            rw [Int.toNat_natCast] at HC
            obtain ⟨_, _, ez, cz⟩ := SZW.at_ s (by omega)
            cases ez
            have hs19 : (s : Int) < 19 := by omega
            by_cases hz : Z.getD s 0 = 0
            · rw [hz] at cz
              have HC2 : Hid (cmx8 Z (i + 1) = c) := by show _ = _; rw [HC.out, if_neg (fun h => h.1 hz)]
              clear HC
              go_wp2_with fail
              go_roundw
              case rel => exact ⟨i + 1, by omega, by go_num, by rw [HC2.out], trivial⟩
              case measure => simp [intOf]; omega
            · have hzn : (Z.getD s 0 != 0) = true := by simpa using hz
              have hzb2 : (Z.getD s 0 == 0) = false := by rw [beq_eq_false_iff_ne]; exact hz
              by_cases hc : c < i + 1
              · have hci : (c : Int) < (i : Int) + 1 := by omega
                have HC2 : Hid (cmx8 Z (i + 1) = i + 1) := by show _ = _; rw [HC.out, if_pos ⟨hz, hc⟩]
                clear HC
                generalize Z.getD s 0 = z at *
                go_wp2_with fail
                go_roundw
                case rel => exact ⟨i + 1, by omega, by go_num, by rw [HC2.out]; go_num, trivial⟩
                case measure => simp [intOf]; omega
              · have hci : ¬ (c : Int) < (i : Int) + 1 := by omega
                have HC2 : Hid (cmx8 Z (i + 1) = c) := by show _ = _; rw [HC.out, if_neg (fun h => hc h.2)]
                clear HC
                generalize Z.getD s 0 = z at *
                go_wp2_with fail
                go_roundw
                case rel => exact ⟨i + 1, by omega, by go_num, by rw [HC2.out], trivial⟩
                case measure => simp [intOf]; omega
          · have hge : ¬ (i : Int) < 19 := by omega
            obtain rfl : i = 19 := by omega
            rw [hcx]
            generalize tol8 Z 19 = tq at *
            obtain ⟨kt, rfl⟩ : ∃ kt, tq = kt + 4 := ⟨tq - 4, by omega⟩
            rw [show kt + 4 - 4 = kt by omega] at HHD
            have HI0 : RwI W W bx B u L := RwI.start ((show RwL w bx B u L from HWR.out).below8 xW)
            have HK : Hid (∀ wr, Kp (WS bx u) W wr → SegZ wr (some ⟨zg, zo, none⟩) Z ∧ SegN wr ra R ∧ SegZ wr (some ⟨w9.heap.size, 0, none⟩) ordL) := fun wr hk => by
              have hfar : ∀ k, w.heap.size ≤ k → ¬ WS bx u k := fun k hk2 e => by
                rcases e with e | e
                · omega
                · have := (HOW k e).2.1; omega
              exact ⟨SZW.kp hk (fun g o e _ => by cases e; exact hfar _ hzgk), SRW.kp hk (fun g o e => hfar _ (hrg g o e)), SOW.kp hk (fun g o e _ => by cases e; exact hfar _ hog)⟩
            have HKA : Hid (kA < 2 ^ 5 ∧ kB < 2 ^ 5 ∧ kt < 2 ^ 4) := ⟨by omega, by omega, by omega⟩
            clear SZW SRW SOW hcx
            rw [HLA.out, HLB.out]
            go_wp2_with fail
            refine (rput8 HI0 kA 5 HKA.out.1 (by omega) (by omega)).mono ?_
            rintro e w2' ⟨rfl, HI1⟩
            clear HI0
            go_wp2_with fail
            refine (rput8 HI1 kB 5 HKA.out.2.1 (by omega) (by simp [bN_len]; omega)).mono ?_
            rintro e w3' ⟨rfl, HI2⟩
            clear HI1
            go_wp2_with fail
            refine (rput8 HI2 kt 4 HKA.out.2.2 (by omega) (by simp [bN_len]; omega)).mono ?_
            rintro e w4' ⟨rfl, HI3⟩
            clear HI2
            obtain ⟨M3, hM3⟩ : ∃ M3, M3 = L ++ bN kA 5 ++ bN kB 5 ++ bN kt 4 := ⟨_, rfl⟩
            have HM3 : Hid (M3 = L ++ bN kA 5 ++ bN kB 5 ++ bN kt 4) := hM3
            have hM3l : M3.length = L.length + 14 := by rw [hM3]; simp [bN_len]
            rw [← hM3] at HI3
            clear hM3
            go_wp2_with fail
            go_loopw [18] (fun ti wr => ∃ i : Nat, i ≤ kt + 4 ∧ ti = .int .i64 (i : Int) ∧ RwI W wr bx B u (M3 ++ szb8 Z i)) (fun ti _ => kt + 4 - (intOf ti).toNat)
            case atStart => exact ⟨0, by omega, rfl, by rw [szb8, List.append_nil]; exact HI3⟩
            case round =>
              obtain ⟨i, hit, rfl, HI⟩ := hrel
              clear HI3
              by_cases hlt : i < kt + 4
              · have hlti : (i : Int) < (kt : Int) + 4 := by omega
                obtain ⟨SZ, _, SO⟩ := HK.out wr HI.kp
                obtain ⟨ob, oo, eo, co⟩ := SO.at_ i (by show i < 19; omega)
                cases eo
                rw [Nat.zero_add] at co
                have hob := ord_bd ⟨i, by omega⟩
                simp only at hob
                have HSB2 : Hid (szb8 Z (i + 1) = szb8 Z i ++ bN (Z.getD (ordL.getD i 0).toNat 0).toNat 3) := rfl
                have hl3 := szb8_len Z i
                generalize ordL.getD i 0 = oq at *
                obtain ⟨s, rfl⟩ : ∃ s : Nat, oq = (s : Int) := ⟨oq.toNat, by omega⟩
                rw [Int.toNat_natCast] at HSB2
                obtain ⟨_, _, ez, cz⟩ := SZ.at_ s (by omega)
                cases ez
                have hzb := hZb s (by omega)
                generalize Z.getD s 0 = z at *
                obtain ⟨zn, rfl⟩ : ∃ zn : Nat, z = (zn : Int) := ⟨z.toNat, by omega⟩
                rw [Int.toNat_natCast] at HSB2
                have hs19 : (s : Int) < 19 := by omega
                have hi19 : (i : Int) < 19 := by omega
                have CPU := rput8 HI zn 3 (by omega) (by omega) (by rw [List.length_append, hl3]; omega)
                rw [List.append_assoc, ← HSB2.out] at CPU
                clear HI SO SZ HSB2
                go_wp2_with fail
                refine CPU.mono ?_
                rintro e w5' ⟨rfl, HI5⟩
                go_wp2_with fail
                go_roundw
                case rel => exact ⟨i + 1, by omega, by go_num, HI5⟩
                case measure => simp [intOf]; omega
              · have hge : ¬ (i : Int) < (kt : Int) + 4 := by omega
                obtain rfl : i = kt + 4 := by omega
                have hl3 := szb8_len Z (kt + 4)
                obtain ⟨M4, hM4⟩ : ∃ M4, M4 = M3 ++ szb8 Z (kt + 4) := ⟨_, rfl⟩
                have HJ : Hid (∀ wr, RwI W wr bx B u (M4 ++ rnb8 Z R) → DwQ w bx B u L lit dist (.returned (.int .i64 0)) wr) := fun wr h => by
                  refine HQ.out wr ?_
                  have e : L ++ hd8 lit dist = M4 ++ rnb8 Z R := by
                    rw [HHD.out, hM4, HM3.out]
                    simp only [List.append_assoc]
                  rw [e]
                  exact RwI.up xW h
                have hM4l : M4.length ≤ L.length + 80 := by rw [hM4, List.length_append, hl3]; omega
                rw [← hM4] at HI
                clear hM4 HQ HHD HM3
                have HI4 := HI
                go_wp2_with fail
                go_loopw [19] (fun ti wr => ∃ i : Nat, i ≤ nR ∧ ti = .int .i64 (i : Int) ∧ RwI W wr bx B u (M4 ++ rnb8 Z (R.take i))) (fun ti _ => nR - (intOf ti).toNat)
                case atStart => exact ⟨0, by omega, rfl, by rw [List.take_zero, rnb8, List.append_nil]; exact HI4⟩
                case round =>
                  clear HI4 HI
                  obtain ⟨i, hin, rfl, HI⟩ := hrel
                  by_cases hlt : i < nR
                  · have hlti : (i : Int) < (nR : Int) := by omega
                    have hil : i < R.length := by rw [HNR.out]; exact hlt
                    obtain ⟨SZ, SR, _⟩ := HK.out wr HI.kp
                    obtain ⟨rb, off, rfl, cs, cc⟩ := SR.at_ i hil
                    have HTK : Hid (R.take (i + 1) = R.take i ++ [R.getD i ⟨0, 0⟩]) := take_snocN hil
                    have hok := HOKR.out (R.getD i ⟨0, 0⟩) (by simp [List.getD, hil])
                    have hzn := hZn (R.getD i ⟨0, 0⟩) (by simp [List.getD, hil])
                    have hml : (M4 ++ rnb8 Z (R.take i)).length ≤ L.length + 8000 := by
                      have := rnb8_len hZC (R.take i)
                      rw [List.length_take] at this
                      rw [List.length_append]
                      omega
                    have hctl := ct8_lt hok
                    have HRB : Hid (M4 ++ rnb8 Z (R.take (i + 1)) = (M4 ++ rnb8 Z (R.take i)) ++ putB Z (R.getD i ⟨0, 0⟩).sy ++ bN ((R.getD i ⟨0, 0⟩).ct - lst8 (R.getD i ⟨0, 0⟩).sy).toNat (mor8 (R.getD i ⟨0, 0⟩).sy)) := by
                      show _ = _
                      rw [HTK.out, rnb8_app, rnb8, rnb8, List.append_nil]
                      simp only [List.append_assoc]
                    generalize M4 ++ rnb8 Z (R.take i) = MM at *
                    have HRC : Hid (∀ wr, Kp (WS bx u) W wr → wr.cell? ⟨rb, off + i * 2 + 1, none⟩ = some (.int .i64 (R.getD i ⟨0, 0⟩).ct)) := fun wr hk => by
                      obtain ⟨_, SR2, _⟩ := HK.out wr hk
                      obtain ⟨_, _, e2, _, c2⟩ := SR2.at_ i hil
                      cases e2
                      exact c2
                    generalize R.getD i ⟨0, 0⟩ = r at *
                    obtain ⟨sy, ct⟩ := r
                    simp only [ok8] at cs cc hok hctl HRB hzn HRC
                    obtain ⟨s, rfl⟩ : ∃ s : Nat, sy = (s : Int) := ⟨sy.toNat, by omega⟩
                    rw [Int.toNat_natCast] at hzn
                    obtain ⟨P, hP⟩ : ∃ P, P = putB Z (s : Int) := ⟨_, rfl⟩
                    have hPl : 1 ≤ P.length ∧ P.length ≤ 15 := by
                      have h1 := putB_le hZC (s : Int)
                      have h2 := putB_cost hZC (s : Int)
                      rw [costV_in (by omega)] at h2
                      rw [hP]
                      omega
                    obtain ⟨u7, h71, h72, h73⟩ := HI
                    obtain ⟨ua, uc, rfl, r7⟩ := h71
                    have CB : Hid (∀ W', Below wr.heap.size wr W' → Calls Tryz.prog 83 #[.slice (some ⟨zg, zo, none⟩) 19 zc, .int .i64 (s : Int)] W' fun e w' => ∃ b c, e = .returned (.slice b P.length c) ∧ w'.ownsRow W'.heap.size 4 1 (.slice b P.length c) P.length (P.map Value.bool) ∧ Below W'.heap.size W' w') := fun W' hW' => by
                      rw [hP]
                      exact bits5_any (some ⟨zg, zo, none⟩) Z 19 zc hZ19 (s : Int) W' (SZ.old hW') hZC (by omega) (by omega)
                    rw [← hP] at HRB
                    clear hP SZ SR HTK cc
                    have hd0 := r7.cell0
                    have hdf := r7.free 0
                    have hr7 := r7.ne
                    have hB7 := r7.bB
                    have hl7 := r7.b_lt
                    obtain ⟨ib, hib, hb0, hb1, hb2⟩ := info_parts info_b1
                    have hbt : Below wr.heap.size wr wr.drew := (Below.refl _ _).drew
                    have hwd : wr.drew.heap.size = wr.heap.size := rfl
                    have HRB7 : Hid (RB wr bx B 67 [] ua uc MM) := r7
                    clear r7
                    go_wp2_with fail
                    go_region_law
                      (first
                        | (go_simp
                           go_at_call 83
                           refine (CB.out _ hbt).mono ?_
                           rintro e w6' ⟨b6, c6, rfl, O6, B6⟩
                           have B6w : Below wr.heap.size wr w6' := hbt.trans (B6.mono (Nat.le_refl _))
                           obtain ⟨g6, rfl, hc6, hg6, hg6l⟩ := own_shape1 O6 hPl.1
                           have e0 := (B6w.cell (p := ⟨bx, 0, none⟩) hl7).trans hd0
                           have ef := (B6w.frozen (p := ⟨bx, 0, none⟩) hl7).trans hdf
                           have r6 : RB w6' bx B 67 [] ua uc MM := HRB7.out.kp (kp_of_below B6w (fun _ => False)) (fun h => h) (fun _ _ h => h)
                           have hr6l := r6.b_lt
                           have HR6 : Hid (RB w6' bx B 67 [] ua uc MM) := r6
                           have HO6 : Hid (w6'.ownsRow wr.drew.heap.size 4 1 (.slice (some ⟨g6, 0, none⟩) P.length c6) P.length (P.map Value.bool)) := O6
                           clear r6 O6)
                        | (refine step_append_lies _ (by rfl) _ _ _ (by rfl) B 4 ib _ 1 1 Tryz.underlying65 hib hb0 hb1 hb2 rfl (by omega) (.slice ua MM.length uc) MM.length (MM.map Value.bool) (by rfl) HR6.out.own ⟨g6, 0, none⟩ P.length c6 (P.map Value.bool) (by rfl) (by simp) (fun j u hu => HO6.out.cells (g := g6) rfl j u hu) (by intro u hu; obtain ⟨_, _, rfl⟩ := List.mem_map.1 hu; rfl) hPl.1 (by unfold maxLen; omega) (by omega) HR6.out.bB w6'.heap.size rfl ?_
                           intro g8 c8 w8' hown8 hg8 hat8 hlt8
                           have hx0 := (hg8.cell_far ⟨bx, 0, none⟩ hr6l (Ne.symm HR6.out.ne)).trans e0
                           have hxf := (hg8.frozen_far ⟨bx, 0, none⟩ hr6l (Ne.symm HR6.out.ne)).trans ef))
                    all_goals
                      have hlen : (MM ++ P).length = MM.length + P.length := List.length_append
                      have hfr : Fresh w6' (.slice ua MM.length uc) (.slice (some ⟨g8, 0, none⟩) (MM.length + P.length) c8) := fun k e => by
                        have e2 : k = g8 := by simpa [Value.ownBlock] using e.symm
                        subst e2
                        rcases hat8 with h | h
                        · exact .inl h
                        · exact .inr (by omega)
                      have hst := HR6.out.store (L' := MM ++ P) (a' := some ⟨g8, 0, none⟩) (cap' := c8) (Kp.grown hg8 (fun i e => e)) (by rw [hlen, List.map_append]; exact hown8) (by rw [hlen]; exact hfr)
                      rw [hlen] at hst
                      have h72b : Kp (WS bx u) W w6' := h72.trans (S' := fun _ => False) (kp_of_below B6w _) (fun _ _ e => e.elim)
                      have HI9 : RwI W (w8'.setCell ⟨bx, 0, none⟩ (.slice (some ⟨g8, 0, none⟩) (MM.length + P.length) c8)) bx B u (MM ++ P) := RwI.next h72b h73 ⟨some ⟨g8, 0, none⟩, c8, by rw [hlen], hst.1⟩ hst.2.1 hst.2.2
                      have hml9 : (MM ++ P).length ≤ L.length + 9000 := by rw [hlen]; omega
                      clear hst hfr hlen hown8 hg8 hat8 hlt8 hx0 hxf HR6 HO6 e0 ef B6 B6w h72b hg6 hg6l hc6 HRB7 CB hr6l h72 h73
                      generalize w8'.setCell ⟨bx, 0, none⟩ (.slice (some ⟨g8, 0, none⟩) (MM.length + P.length) c8) = w10 at *
                      have c10 : w10.drew.cell? ⟨rb, off + i * 2 + 1, none⟩ = some (.int .i64 ct) := HRC.out w10 HI9.kp
                      have HLE : Hid (∀ W, Calls Tryz.prog 88 #[.int .i64 (s : Int)] W fun e w' => e = .returned (.int .i64 (lst8 s)) ∧ w' = W) := rleast8 s
                      have HMO : Hid (∀ W, Calls Tryz.prog 89 #[.int .i64 (s : Int)] W fun e w' => e = .returned (.int .i64 (mor8 s : Int)) ∧ w' = W) := rmore8 s
                      have hl1 := lst8_bd (s : Int)
                      have hm1 := mor8_le (s : Int)
                      have CPU : Hid (∀ k : Nat, k < 2 ^ mor8 (s : Int) → Calls Tryz.prog 30 #[.pointer (some ⟨bx, 0, none⟩), .int .u64 (k : Int), .int .i64 (mor8 (s : Int) : Int)] w10.drew (RuQ W bx B u (MM ++ P ++ bN k (mor8 (s : Int))))) := fun k hk => rput8 (HI9.old ((Below.refl w10.heap.size w10).drew)) k _ hk (by omega) (by omega)
                      generalize lst8 (s : Int) = x1 at *
                      generalize mor8 (s : Int) = mo at *
                      obtain ⟨k, rfl⟩ : ∃ k : Nat, ct = x1 + (k : Int) := ⟨(ct - x1).toNat, by omega⟩
                      rw [show x1 + (k : Int) - x1 = (k : Int) by omega, Int.toNat_natCast] at hctl HRB
                      have hkb : k ≤ 127 := by
                        have : 2 ^ mo ≤ 2 ^ 7 := Nat.pow_le_pow_right (by omega) hm1
                        omega
                      have CP2 := CPU.out k hctl
                      rw [← HRB.out] at CP2
                      have HRC2 : Hid (∀ w' M, RwI W w' bx B u M → w'.cell? ⟨rb, off + i * 2 + 1, none⟩ = some (.int .i64 (x1 + (k : Int)))) := fun w' M h => HRC.out w' h.kp
                      clear CPU HRC HRB HI9
                      have HCV : Hid (IntKind.u64.wrap (IntKind.i64.wrap (x1 + (k : Int) - x1)) = (k : Int)) := by
                        show _ = _
                        rw [IntWalk.i64_in _ (by omega), IntWalk.u64_in _ (by omega)]
                        omega
                      go_wp2_with fail
                      go_region_held3 (fun w' => w'.cell? ⟨rb, off + i * 2 + 1, none⟩ = some (.int .i64 (x1 + (k : Int)))) (first | (exact c10) | (exact HRC2.out _ _ (by assumption)))
                        (first
                          | (go_at_call 88; refine (HLE.out _).mono ?_; rintro e w' ⟨rfl, hw'⟩; subst w')
                          | (go_at_call 89; refine (HMO.out _).mono ?_; rintro e w' ⟨rfl, hw'⟩; subst w')
                          | (go_at_call 30; rw [HCV.out]; refine CP2.mono ?_; rintro e w11 ⟨rfl, HI11⟩))
                      all_goals
                        go_wp2_with fail
                        go_roundw
                        case rel => exact ⟨i + 1, by omega, by go_num, HI11⟩
                        case measure => simp [intOf]; omega
                  · have hge : ¬ (i : Int) < (nR : Int) := by omega
                    have hTA : R.take i = R := List.take_of_length_le (by rw [HNR.out]; omega)
                    rw [hTA] at HI
                    have HF := HJ.out wr HI
                    clear HJ HK
                    go_wp2_with fail
                    go_ret
                    exact HF
  · rw [decide_eq_false ht] at CT
    have HF : Hid (DwQ w bx B u L lit dist (.returned (.int .i64 80)) w) := by
      unfold DwQ
      rw [if_neg ht, if_neg ht, List.append_nil]
      exact ⟨rfl, RwI.start HWR.out⟩
    clear ht
    go_enter Tryz.func61, Tryz.ntmps61
    go_wp2_with fail
    refine CT.mono ?_
    rintro e w' ⟨rfl, hw'⟩
    subst w'
    go_wp2_with fail
    go_ret
    exact HF.out
end Go.Proofs.YtcifalelnfeggaaGreatDoor

namespace Go.Proofs.YtcifalelnfeggaaGreatDoor
open Go.RowKit
set_option linter.unusedVariables false

/-! The document's body: the bits of tokens, behind what is there. -/
/-- Each token's symbols have codes. -/
structure Hc9 (ZL ZD : List Int) (l : List Tok7) : Prop where
  lit : ∀ t ∈ l, t.len = 0 → 1 ≤ (putB ZL t.lit).length
  len : ∀ t ∈ l, t.len ≠ 0 → 1 ≤ (putB ZL ((257 + lix9 t.len : Nat) : Int)).length ∧ 1 ≤ (putB ZD (dix9 t.dist : Int)).length
  fin : 1 ≤ (putB ZL 256).length
theorem tkB9_le {ZL ZD : List Int} (h1 : errC ZL = 0) (h2 : errC ZD = 0) (t : Tok7) : (tkB9 ZL ZD t).length ≤ 60 := by
  unfold tkB9
  have a1 := putB_le h1 t.lit
  have a2 := putB_le h1 ((257 + lix9 t.len : Nat) : Int)
  have a3 := putB_le h2 (dix9 t.dist : Int)
  have b1 := lnb9 (lix9 t.len)
  have b2 := dsb9 (dix9 t.dist)
  split
  · omega
  · rw [List.length_append, List.length_append, List.length_append, bN_len, bN_len]
    omega
theorem flat_le9 {ZL ZD : List Int} (h1 : errC ZL = 0) (h2 : errC ZD = 0) : ∀ l : List Tok7, (l.flatMap (tkB9 ZL ZD)).length ≤ 60 * l.length
  | [] => by simp
  | t :: r => by
    have h3 := flat_le9 h1 h2 r
    have h4 := tkB9_le h1 h2 t
    rw [List.flatMap_cons, List.length_append, List.length_cons]
    omega
set_option maxRecDepth 100000 in
set_option maxHeartbeats 16000000 in
theorem rbody9 (bx B : Nat) (u : Value) (L : List Bool) (l : List Tok7) (a : Option Addr) (n cap : Nat) (hn : Hid (l.length = n)) (ZL ZD : List Int) (la da : Option Addr) (nl lc nd dc : Nat) (hnl : Hid (ZL.length = nl)) (hnd : Hid (ZD.length = nd)) (w : World) (hw : RwL w bx B u L) (hL : L.length ≤ 1000000000000) (hs : SegT w a l) (sL : SegZ w la ZL) (sD : SegZ w da ZD) (hcL : errC ZL = 0) (hcD : errC ZD = 0) (hn6 : n ≤ 65536) (hl1 : nl ≤ 1000) (hd1 : nd ≤ 1000) (hm : ∀ t ∈ l, may7 t) (hh : Hc9 ZL ZD l)
    (fa : ∀ g o, a = some ⟨g, o, none⟩ → 0 < l.length → ¬ WS bx u g) (fl : ∀ g o, la = some ⟨g, o, none⟩ → 0 < ZL.length → ¬ WS bx u g) (fd : ∀ g o, da = some ⟨g, o, none⟩ → 0 < ZD.length → ¬ WS bx u g) :
    Calls Tryz.prog 60 #[.pointer (some ⟨bx, 0, none⟩), .slice la nl lc, .slice da nd dc, .slice a n cap] w fun e w' => e = .returned (.tuple #[]) ∧ RwI w w' bx B u (L ++ bdy9 ZL ZD l) := by
  obtain ⟨ib, hib, hb0, hb1, hb2⟩ := info_parts info_b1
  have HS : Hid (∀ wr, Kp (WS bx u) w wr → SegT wr a l ∧ SegZ wr la ZL ∧ SegZ wr da ZD) := fun wr hk => ⟨hs.kp hk fa, sL.kp hk fl, sD.kp hk fd⟩
  have HFT : Hid (∀ t ∈ l, t.Fit) := hs.fit
  have HM : Hid (∀ t ∈ l, may7 t) := hm
  have HH : Hid (Hc9 ZL ZD l) := hh
  have HI0 : Hid (RwI w w bx B u L) := RwI.start hw
  have HBL : Hid (∀ (W : World) (s : Int), SegZ W la ZL → -9223372036854775808 ≤ s → s ≤ 9223372036854775807 → Calls Tryz.prog 83 #[.slice la nl lc, .int .i64 s] W fun e w' => ∃ b c, e = .returned (.slice b (putB ZL s).length c) ∧ w'.ownsRow W.heap.size 4 1 (.slice b (putB ZL s).length c) (putB ZL s).length ((putB ZL s).map Value.bool) ∧ Below W.heap.size W w') := fun W s h h1 h2 => bits5_any la ZL nl lc hnl s W h hcL (by omega) (by omega)
  have HBD : Hid (∀ (W : World) (s : Int), SegZ W da ZD → -9223372036854775808 ≤ s → s ≤ 9223372036854775807 → Calls Tryz.prog 83 #[.slice da nd dc, .int .i64 s] W fun e w' => ∃ b c, e = .returned (.slice b (putB ZD s).length c) ∧ w'.ownsRow W.heap.size 4 1 (.slice b (putB ZD s).length c) (putB ZD s).length ((putB ZD s).map Value.bool) ∧ Below W.heap.size W w') := fun W s h h1 h2 => bits5_any da ZD nd dc hnd s W h hcD (by omega) (by omega)
  have HPL : Hid (∀ s : Int, (putB ZL s).length ≤ 15) := fun s => putB_le hcL s
  have HPD : Hid (∀ s : Int, (putB ZD s).length ≤ 15) := fun s => putB_le hcD s
  have HLE : Hid (∀ i, (L ++ (l.take i).flatMap (tkB9 ZL ZD)).length ≤ 1000004000000) := fun i => by
    have := flat_le9 hcL hcD (l.take i)
    rw [List.length_append]
    have h2 : (l.take i).length ≤ 65536 := by rw [List.length_take, hn.out]; omega
    omega
  clear hs sL sD hw fa fl fd hm hh hcL hcD hL
  go_enter Tryz.func60, Tryz.ntmps60
  go_wp2_with fail
  go_loopw [16] (fun ti wr => ∃ (i : Nat), i ≤ n ∧ ti = .int .i64 (i : Int) ∧ RwI w wr bx B u (L ++ (l.take i).flatMap (tkB9 ZL ZD))) (fun ti _ => n - (intOf ti).toNat)
  case atStart => exact ⟨0, by omega, rfl, by rw [List.take_zero, List.flatMap_nil, List.append_nil]; exact HI0.out⟩
  case round =>
    obtain ⟨i, hin, rfl, HI⟩ := hrel
    clear HI0
    have hml := HLE.out i
    by_cases hlt : i < n
    · have hlti : (i : Int) < (n : Int) := by omega
      have hil : i < l.length := by rw [hn.out]; exact hlt
      obtain ⟨g, o, rfl, tk⟩ := (HS.out wr HI.kp).1.at_ i hil
      have hmem : l.getD i tk0 ∈ l := by simp only [List.getD, List.getElem?_eq_getElem hil, Option.getD_some]; exact List.getElem_mem hil
      have hfit := HFT.out _ hmem
      have hmay := HM.out _ hmem
      have hc0 := HH.out.lit _ hmem
      have hc1 := HH.out.len _ hmem
      have HTK : Hid ((l.take (i + 1)).flatMap (tkB9 ZL ZD) = (l.take i).flatMap (tkB9 ZL ZD) ++ tkB9 ZL ZD (l.getD i tk0)) := by show _ = _; rw [takeT7 hil, List.flatMap_append]; simp
      generalize l.getD i tk0 = t at *
      have HTB : Hid (tkB9 ZL ZD t = if t.len = 0 then putB ZL t.lit else putB ZL ((257 + lix9 t.len : Nat) : Int) ++ bN (t.len - lnS9.getD (lix9 t.len * 2) 0).toNat (lnS9.getD (lix9 t.len * 2 + 1) 0).toNat ++ putB ZD (dix9 t.dist : Int) ++ bN (t.dist - dsS9.getD (dix9 t.dist * 2) 0).toNat (dsS9.getD (dix9 t.dist * 2 + 1) 0).toNat) := rfl
      have hfm := fit_may9 hfit hmay
      obtain ⟨lit, len, dist⟩ := t
      obtain ⟨x0, x1, x2⟩ := tk
      simp only at x0 x1 x2 hfm HTB hc0 hc1
      obtain ⟨MM, hMM⟩ : ∃ MM, MM = L ++ (l.take i).flatMap (tkB9 ZL ZD) := ⟨_, rfl⟩
      have HMM : Hid (∀ Q, Q = tkB9 ZL ZD ⟨lit, len, dist⟩ → L ++ (l.take (i + 1)).flatMap (tkB9 ZL ZD) = MM ++ Q) := fun Q hQ => by rw [HTK.out, hMM, hQ, List.append_assoc]
      rw [← hMM] at HI hml
      clear hMM HTK hfit hmay hmem
      have b0 := below_box8 wr (.cells #[.int .u8 lit, .int .i64 len, .int .i64 dist] 98)
      have y0 := heap_alloc_new wr (.cells #[.int .u8 lit, .int .i64 len, .int .i64 dist] 98)
      have HIA : Hid (RwI w (wr.alloc (.cells #[.int .u8 lit, .int .i64 len, .int .i64 dist] 98)) bx B u MM) := HI.old b0
      have HIR : Hid (RwI w wr bx B u MM) := HI
      have HB0 : Hid (Below wr.heap.size wr (wr.alloc (.cells #[.int .u8 lit, .int .i64 len, .int .i64 dist] 98))) := b0
      clear HI b0
      by_cases hz : len = 0
      · rw [if_pos hz] at HTB
        have hc0a := hc0 hz
        clear hc0
        obtain ⟨lt, rfl⟩ : ∃ lt : Nat, lit = (lt : Int) := ⟨lit.toNat, by omega⟩
        subst hz
        go_wp2_with fail
        have hsz : (wr.alloc (.cells #[.int .u8 (lt : Int), .int .i64 0, .int .i64 dist] 98)).heap.size = wr.heap.size + 1 := by simp
        generalize wr.alloc (.cells #[.int .u8 (lt : Int), .int .i64 0, .int .i64 dist] 98) = wa at *
        have c0 : wa.cell? ⟨wr.heap.size, 0, none⟩ = some (.int .u8 (lt : Int)) := (cell_of_row wa _ 0 _ _ _ y0).trans rfl
        have c0d : wa.drew.cell? ⟨wr.heap.size, 0, none⟩ = some (.int .u8 (lt : Int)) := c0
        obtain ⟨ob, hob⟩ : ∃ ob, ob = wr.heap.size := ⟨_, rfl⟩
        have HOB : Hid (wr.heap.size = ob) := hob.symm
        rw [HOB.out] at c0 c0d ⊢
        have HI := HIA.out
        obtain ⟨P, hP⟩ : ∃ P, P = putB ZL (lt : Int) := ⟨_, rfl⟩
        have hPl : 1 ≤ P.length ∧ P.length ≤ 15 := by rw [hP]; exact ⟨hc0a, HPL.out _⟩
        have HCV : Hid (IntKind.i64.wrap (lt : Int) = (lt : Int)) := IntWalk.i64_in _ (by omega)
        have CB : Hid (∀ (W' : World) (s : Int), Below wa.heap.size wa W' → s = (lt : Int) → Calls Tryz.prog 83 #[.slice la nl lc, .int .i64 s] W' fun e w' => ∃ b c, e = .returned (.slice b P.length c) ∧ w'.ownsRow W'.heap.size 4 1 (.slice b P.length c) P.length (P.map Value.bool) ∧ Below W'.heap.size W' w') := fun W' s hW' hs => by
          rw [hs, hP]
          exact HBL.out W' (lt : Int) ((HS.out wa HI.kp).2.1.old hW') (by omega) (by omega)
        have HFI : Hid (L ++ (l.take (i + 1)).flatMap (tkB9 ZL ZD) = MM ++ P) := HMM.out P (by rw [HTB.out, hP])
        clear hP HMM HTB HIA HIR HB0 y0 hsz hob x0 x1 x2 hc1 hfm
        obtain ⟨u7, h71, h72, h73⟩ := HI
        obtain ⟨ua, uc, rfl, r7⟩ := h71
        have hd0 := r7.cell0
        have hdf := r7.free 0
        have hr7 := r7.ne
        have hB7 := r7.bB
        have hl7 := r7.b_lt
        have hbt : Below wa.heap.size wa wa.drew := (Below.refl _ _).drew
        have hwd : wa.drew.heap.size = wa.heap.size := rfl
        have HRB7 : Hid (RB wa bx B 67 [] ua uc MM) := r7
        clear r7
        go_region_law
          (first
            | (go_simp
               go_at_call 83
               refine (CB.out _ _ hbt (by first | rfl | exact HCV.out | (simp; done))).mono ?_
               rintro e w6' ⟨b6, c6, rfl, O6, B6⟩
               have B6w : Below wa.heap.size wa w6' := hbt.trans (B6.mono (Nat.le_refl _))
               obtain ⟨g6, rfl, hc6, hg6, hg6l⟩ := own_shape1 O6 hPl.1
               have e0 := (B6w.cell (p := ⟨bx, 0, none⟩) hl7).trans hd0
               have ef := (B6w.frozen (p := ⟨bx, 0, none⟩) hl7).trans hdf
               have r6 : RB w6' bx B 67 [] ua uc MM := HRB7.out.kp (kp_of_below B6w (fun _ => False)) (fun h => h) (fun _ _ h => h)
               have hr6l := r6.b_lt
               have HR6 : Hid (RB w6' bx B 67 [] ua uc MM) := r6
               have HO6 : Hid (w6'.ownsRow wa.drew.heap.size 4 1 (.slice (some ⟨g6, 0, none⟩) P.length c6) P.length (P.map Value.bool)) := O6
               clear r6 O6)
            | (refine step_append_lies _ (by rfl) _ _ _ (by rfl) B 4 ib _ 1 1 Tryz.underlying65 hib hb0 hb1 hb2 rfl (by omega) (.slice ua MM.length uc) MM.length (MM.map Value.bool) (by rfl) HR6.out.own ⟨g6, 0, none⟩ P.length c6 (P.map Value.bool) (by rfl) (by simp) (fun j u hu => HO6.out.cells (g := g6) rfl j u hu) (by intro u hu; obtain ⟨_, _, rfl⟩ := List.mem_map.1 hu; rfl) hPl.1 (by unfold maxLen; omega) (by omega) HR6.out.bB w6'.heap.size rfl ?_
               intro g8 c8 w8' hown8 hg8 hat8 hlt8
               have hx0 := (hg8.cell_far ⟨bx, 0, none⟩ hr6l (Ne.symm HR6.out.ne)).trans e0
               have hxf := (hg8.frozen_far ⟨bx, 0, none⟩ hr6l (Ne.symm HR6.out.ne)).trans ef))
        all_goals
          have hlen : (MM ++ P).length = MM.length + P.length := List.length_append
          have hfr : Fresh w6' (.slice ua MM.length uc) (.slice (some ⟨g8, 0, none⟩) (MM.length + P.length) c8) := fun k e => by
            have e2 : k = g8 := by simpa [Value.ownBlock] using e.symm
            subst e2
            rcases hat8 with h | h
            · exact .inl h
            · exact .inr (by omega)
          have hst := HR6.out.store (L' := MM ++ P) (a' := some ⟨g8, 0, none⟩) (cap' := c8) (Kp.grown hg8 (fun i e => e)) (by rw [hlen, List.map_append]; exact hown8) (by rw [hlen]; exact hfr)
          rw [hlen] at hst
          have h72b : Kp (WS bx u) w w6' := h72.trans (S' := fun _ => False) (kp_of_below B6w _) (fun _ _ e => e.elim)
          have HI9 : RwI w (w8'.setCell ⟨bx, 0, none⟩ (.slice (some ⟨g8, 0, none⟩) (MM.length + P.length) c8)) bx B u (MM ++ P) := RwI.next h72b h73 ⟨some ⟨g8, 0, none⟩, c8, by rw [hlen], hst.1⟩ hst.2.1 hst.2.2
          clear hst hfr hlen hown8 hg8 hat8 hlt8 hx0 hxf HR6 HO6 e0 ef B6 B6w h72b hg6 hg6l hc6 HRB7 CB hr6l h72 h73
          generalize w8'.setCell ⟨bx, 0, none⟩ (.slice (some ⟨g8, 0, none⟩) (MM.length + P.length) c8) = w10 at *
          have HI10 : RwI w w10 bx B u (L ++ (l.take (i + 1)).flatMap (tkB9 ZL ZD)) := by rw [HFI.out]; exact HI9
          clear HI9
          go_wp2_with fail
          go_roundw
          case rel => exact ⟨i + 1, by omega, by go_num, HI10⟩
          case measure => simp [intOf]; omega
      · rw [if_neg hz] at HTB
        obtain ⟨hc1a, hc1b⟩ := hc1 hz
        obtain ⟨k2, k3, k4, k5, k6, klit⟩ := hfm.2.2.resolve_left (fun q => hz q.1)
        clear klit k2 hfm hc0
        obtain ⟨s0, s1, s2, s3⟩ := lspec9 k3
        obtain ⟨r0, r1, r2, r3⟩ := dspec9 k5
        have hv1 := ln_in9 k4 s1 s2 s3
        have hv2 := ds_in9 k6 r1 r2 r3
        have bm1 := lnb9 (lix9 len)
        have bm2 := dsb9 (dix9 dist)
        have CLS := rlsy9_is len k3 k4
        have CDS := rdsy9_is dist k5 k6
        obtain ⟨p, hp⟩ : ∃ p, p = 257 + lix9 len := ⟨_, rfl⟩
        obtain ⟨q, hq⟩ : ∃ q, q = dix9 dist := ⟨_, rfl⟩
        have hpi : 257 + (lix9 len : Int) = (p : Int) := by omega
        have hpb : p < 286 ∧ q < 30 := by omega
        rw [← hp] at HTB hc1a
        rw [← hq] at HTB hc1b CDS bm2 hv2 r2
        simp only [hpi] at CLS
        clear s0 s1 s3 r0 r1 r3 hpi hp
        obtain ⟨V1, hV1⟩ : ∃ V1 : Nat, (V1 : Int) = len - lnS9.getD (lix9 len * 2) 0 := ⟨(len - lnS9.getD (lix9 len * 2) 0).toNat, by omega⟩
        obtain ⟨M1, hM1⟩ : ∃ M1 : Nat, (M1 : Int) = lnS9.getD (lix9 len * 2 + 1) 0 := ⟨(lnS9.getD (lix9 len * 2 + 1) 0).toNat, by omega⟩
        obtain ⟨V2, hV2⟩ : ∃ V2 : Nat, (V2 : Int) = dist - dsS9.getD (q * 2) 0 := ⟨(dist - dsS9.getD (q * 2) 0).toNat, by omega⟩
        obtain ⟨M2, hM2⟩ : ∃ M2 : Nat, (M2 : Int) = dsS9.getD (q * 2 + 1) 0 := ⟨(dsS9.getD (q * 2 + 1) 0).toNat, by omega⟩
        rw [← hV1, ← hM1, ← hV2, ← hM2] at HTB
        simp only [Int.toNat_natCast] at HTB
        rw [← hV1, ← hM1] at hv1
        rw [← hV2, ← hM2] at hv2
        rw [Int.toNat_natCast] at hv1 hv2
        simp only [← hV1, ← hM1] at CLS
        simp only [← hV2, ← hM2] at CDS
        rw [← hM1] at bm1
        rw [← hM2] at bm2
        have HV1 : Hid (V1 < 2 ^ M1) := by show _ < _; exact_mod_cast hv1
        have HV2 : Hid (V2 < 2 ^ M2) := by show _ < _; exact_mod_cast hv2
        clear hV1 hM1 hV2 hM2 hv1 hv2 hq s2 r2
        have HCLS : Hid (∀ W, Calls Tryz.prog 10 #[.int .i64 len] W fun e w' => e = .returned (.tuple #[.int .i64 (p : Int), .int .i64 (M1 : Int), .int .i64 (V1 : Int), .int .i64 0]) ∧ Below W.heap.size W w') := CLS
        have HCDS : Hid (∀ W, Calls Tryz.prog 12 #[.int .i64 dist] W fun e w' => e = .returned (.tuple #[.int .i64 (q : Int), .int .i64 (M2 : Int), .int .i64 (V2 : Int), .int .i64 0]) ∧ Below W.heap.size W w') := CDS
        clear CLS CDS
        have hV1b : (V1 : Int) ≤ 8192 := by have h := HV1.out; have h2 : (2 : Nat) ^ M1 ≤ 2 ^ 13 := Nat.pow_le_pow_right (by omega) (by omega); have h3 : (2 : Nat) ^ 13 = 8192 := rfl; omega
        have hV2b : (V2 : Int) ≤ 8192 := by have h := HV2.out; have h2 : (2 : Nat) ^ M2 ≤ 2 ^ 13 := Nat.pow_le_pow_right (by omega) (by omega); have h3 : (2 : Nat) ^ 13 = 8192 := rfl; omega
        have hV1c : 0 ≤ (V1 : Int) := by omega
        have hV2c : 0 ≤ (V2 : Int) := by omega
        go_wp2_with fail
        generalize wr.alloc (.cells #[.int .u8 lit, .int .i64 len, .int .i64 dist] 98) = wa at *
        refine (HCLS.out wa).mono ?_
        rintro e w3 ⟨rfl, b3⟩
        obtain ⟨uS, q71, q72, q73⟩ := HIR.out
        have B3 : Below wr.heap.size wr w3 := HB0.out.trans (b3.mono HB0.out.size)
        have hbx : bx < wr.heap.size := by obtain ⟨_, _, _, r⟩ := q71; exact r.b_lt
        have hown : ∀ k, uS.ownBlock = some k → k < wr.heap.size := fun k e => by obtain ⟨_, _, rfl, r⟩ := q71; exact (r.own.lt k e).2
        obtain ⟨ob, hob⟩ : ∃ ob, ob = wr.heap.size := ⟨_, rfl⟩
        have y3 : w3.heap[ob]? = some (.cells #[.int .u8 lit, .int .i64 len, .int .i64 dist] 98 (0, 0)) := by rw [hob]; exact (b3.block wr.heap.size (Array.getElem?_eq_some_iff.1 y0).1).trans y0
        have HOW : Hid (¬ WS bx uS ob) := by
          rintro (e | e)
          · omega
          · have := hown ob e; omega
        have R3 := q71.below8 B3
        have HK3 : Kp (WS bx u) w w3 := q72.trans (S' := fun _ => False) (kp_of_below B3 _) (fun _ _ e => e.elim)
        have HJ : Hid (∀ W M, RwI w3 W bx B uS M → RwI w W bx B u M) := fun W M h => by
          obtain ⟨v2, r2, kk, ff⟩ := h
          exact RwI.next HK3 q73 r2 kk ff
        have HY : Hid (∀ W M, RwI w3 W bx B uS M → W.cell? ⟨ob, 2, none⟩ = some (.int .i64 dist)) := fun W M h => (cell_of_row W _ 2 _ _ _ (h.kp.heap y3 HOW.out)).trans rfl
        have HI : RwI w3 w3 bx B uS MM := RwI.start R3
        have HOB : Hid (wr.heap.size = ob) := hob.symm
        rw [HOB.out]
        obtain ⟨P, hP⟩ : ∃ P, P = putB ZL (p : Int) := ⟨_, rfl⟩
        obtain ⟨P2, hP2⟩ : ∃ P, P = putB ZD (q : Int) := ⟨_, rfl⟩
        have hPl : 1 ≤ P.length ∧ P.length ≤ 15 := by rw [hP]; exact ⟨hc1a, HPL.out _⟩
        have hPl2 : 1 ≤ P2.length ∧ P2.length ≤ 15 := by rw [hP2]; exact ⟨hc1b, HPD.out _⟩
        have HCV : Hid ((p : Int) = (p : Int)) := rfl
        have CB : Hid (∀ (W' : World) (s : Int), Below w3.heap.size w3 W' → s = (p : Int) → Calls Tryz.prog 83 #[.slice la nl lc, .int .i64 s] W' fun e w' => ∃ b c, e = .returned (.slice b P.length c) ∧ w'.ownsRow W'.heap.size 4 1 (.slice b P.length c) P.length (P.map Value.bool) ∧ Below W'.heap.size W' w') := fun W' s hW' hs => by
          rw [hs, hP]
          exact HBL.out W' (p : Int) ((HS.out w3 HK3).2.1.old hW') (by omega) (by omega)
        have HBD2 : Hid (∀ (W W' : World) (s : Int), Kp (WS bx u) w W → Below W.heap.size W W' → s = (q : Int) → Calls Tryz.prog 83 #[.slice da nd dc, .int .i64 s] W' fun e w' => ∃ b c, e = .returned (.slice b P2.length c) ∧ w'.ownsRow W'.heap.size 4 1 (.slice b P2.length c) P2.length (P2.map Value.bool) ∧ Below W'.heap.size W' w') := fun W W' s hk hW' hs => by
          rw [hs, hP2]
          exact HBD.out W' (q : Int) ((HS.out W hk).2.2.old hW') (by omega) (by omega)
        have HFI : Hid (L ++ (l.take (i + 1)).flatMap (tkB9 ZL ZD) = MM ++ P ++ bN V1 M1 ++ P2 ++ bN V2 M2) := by
          show _ = _
          rw [HMM.out _ rfl, HTB.out, hP, hP2]
          simp only [List.append_assoc]
        clear x0 x1 x2 hP hP2 HMM HTB HIA HIR HB0 y0 y3 hob q71 q72 q73 R3 HK3 b3 B3 hbx hown hc1a hc1b HOW HCLS
        go_wp2_with fail
        obtain ⟨u7, h71, h72, h73⟩ := HI
        obtain ⟨ua, uc, rfl, r7⟩ := h71
        have hd0 := r7.cell0
        have hdf := r7.free 0
        have hr7 := r7.ne
        have hB7 := r7.bB
        have hl7 := r7.b_lt
        have hbt : Below w3.heap.size w3 w3.drew := (Below.refl _ _).drew
        have hwd : w3.drew.heap.size = w3.heap.size := rfl
        have HRB7 : Hid (RB w3 bx B 67 [] ua uc MM) := r7
        clear r7
        go_region_law
          (first
            | (go_simp
               go_at_call 83
               refine (CB.out _ _ hbt (by first | rfl | exact HCV.out | (simp; done))).mono ?_
               rintro e w6' ⟨b6, c6, rfl, O6, B6⟩
               have B6w : Below w3.heap.size w3 w6' := hbt.trans (B6.mono (Nat.le_refl _))
               obtain ⟨g6, rfl, hc6, hg6, hg6l⟩ := own_shape1 O6 hPl.1
               have e0 := (B6w.cell (p := ⟨bx, 0, none⟩) hl7).trans hd0
               have ef := (B6w.frozen (p := ⟨bx, 0, none⟩) hl7).trans hdf
               have r6 : RB w6' bx B 67 [] ua uc MM := HRB7.out.kp (kp_of_below B6w (fun _ => False)) (fun h => h) (fun _ _ h => h)
               have hr6l := r6.b_lt
               have HR6 : Hid (RB w6' bx B 67 [] ua uc MM) := r6
               have HO6 : Hid (w6'.ownsRow w3.drew.heap.size 4 1 (.slice (some ⟨g6, 0, none⟩) P.length c6) P.length (P.map Value.bool)) := O6
               clear r6 O6)
            | (refine step_append_lies _ (by rfl) _ _ _ (by rfl) B 4 ib _ 1 1 Tryz.underlying65 hib hb0 hb1 hb2 rfl (by omega) (.slice ua MM.length uc) MM.length (MM.map Value.bool) (by rfl) HR6.out.own ⟨g6, 0, none⟩ P.length c6 (P.map Value.bool) (by rfl) (by simp) (fun j u hu => HO6.out.cells (g := g6) rfl j u hu) (by intro u hu; obtain ⟨_, _, rfl⟩ := List.mem_map.1 hu; rfl) hPl.1 (by unfold maxLen; omega) (by omega) HR6.out.bB w6'.heap.size rfl ?_
               intro g8 c8 w8' hown8 hg8 hat8 hlt8
               have hx0 := (hg8.cell_far ⟨bx, 0, none⟩ hr6l (Ne.symm HR6.out.ne)).trans e0
               have hxf := (hg8.frozen_far ⟨bx, 0, none⟩ hr6l (Ne.symm HR6.out.ne)).trans ef))
        all_goals
          have hlen : (MM ++ P).length = MM.length + P.length := List.length_append
          have hfr : Fresh w6' (.slice ua MM.length uc) (.slice (some ⟨g8, 0, none⟩) (MM.length + P.length) c8) := fun k e => by
            have e2 : k = g8 := by simpa [Value.ownBlock] using e.symm
            subst e2
            rcases hat8 with h | h
            · exact .inl h
            · exact .inr (by omega)
          have hst := HR6.out.store (L' := MM ++ P) (a' := some ⟨g8, 0, none⟩) (cap' := c8) (Kp.grown hg8 (fun i e => e)) (by rw [hlen, List.map_append]; exact hown8) (by rw [hlen]; exact hfr)
          rw [hlen] at hst
          have h72b : Kp (WS bx uS) w3 w6' := h72.trans (S' := fun _ => False) (kp_of_below B6w _) (fun _ _ e => e.elim)
          have HI9 : RwI w3 (w8'.setCell ⟨bx, 0, none⟩ (.slice (some ⟨g8, 0, none⟩) (MM.length + P.length) c8)) bx B uS (MM ++ P) := RwI.next h72b h73 ⟨some ⟨g8, 0, none⟩, c8, by rw [hlen], hst.1⟩ hst.2.1 hst.2.2
          clear hst hfr hlen hown8 hg8 hat8 hlt8 hx0 hxf HR6 HO6 e0 ef B6 B6w h72b hg6 hg6l hc6 HRB7 CB hr6l h72 h73
          generalize w8'.setCell ⟨bx, 0, none⟩ (.slice (some ⟨g8, 0, none⟩) (MM.length + P.length) c8) = w10 at *
          have CP1 := rput8 HI9 V1 M1 HV1.out (by omega) (by rw [List.length_append]; omega)
          have hml2 : (MM ++ P ++ bN V1 M1).length ≤ 1000004000100 := by rw [List.length_append, List.length_append, bN_len]; omega
          clear HI9
          go_wp2_with fail
          refine CP1.mono ?_
          rintro e w11 ⟨rfl, HI11⟩
          have cd2 := HY.out _ _ HI11
          clear CP1
          go_wp2_with fail
          refine (HCDS.out w11).mono ?_
          rintro e w12 ⟨rfl, b12⟩
          have HI := HI11.old b12
          obtain ⟨MM2, hMM2⟩ : ∃ MM2, MM2 = MM ++ P ++ bN V1 M1 := ⟨_, rfl⟩
          rw [← hMM2] at HI HFI hml2
          have HCV : Hid ((q : Int) = (q : Int)) := rfl
          have CB : Hid (∀ (W' : World) (s : Int), Below w12.heap.size w12 W' → s = (q : Int) → Calls Tryz.prog 83 #[.slice da nd dc, .int .i64 s] W' fun e w' => ∃ b c, e = .returned (.slice b P2.length c) ∧ w'.ownsRow W'.heap.size 4 1 (.slice b P2.length c) P2.length (P2.map Value.bool) ∧ Below W'.heap.size W' w') := fun W' s hW' hs => HBD2.out w12 W' s (HJ.out _ _ HI).kp hW' hs
          clear hMM2 HI11 b12 cd2
          go_wp2_with fail
          obtain ⟨u7, h71, h72, h73⟩ := HI
          obtain ⟨ua, uc, rfl, r7⟩ := h71
          have hd0 := r7.cell0
          have hdf := r7.free 0
          have hr7 := r7.ne
          have hB7 := r7.bB
          have hl7 := r7.b_lt
          have hbt : Below w12.heap.size w12 w12.drew := (Below.refl _ _).drew
          have hwd : w12.drew.heap.size = w12.heap.size := rfl
          have HRB7 : Hid (RB w12 bx B 67 [] ua uc MM2) := r7
          clear r7
          go_region_law
            (first
              | (go_simp
                 go_at_call 83
                 refine (CB.out _ _ hbt (by first | rfl | exact HCV.out | (simp; done))).mono ?_
                 rintro e w6' ⟨b6, c6, rfl, O6, B6⟩
                 have B6w : Below w12.heap.size w12 w6' := hbt.trans (B6.mono (Nat.le_refl _))
                 obtain ⟨g6, rfl, hc6, hg6, hg6l⟩ := own_shape1 O6 hPl2.1
                 have e0 := (B6w.cell (p := ⟨bx, 0, none⟩) hl7).trans hd0
                 have ef := (B6w.frozen (p := ⟨bx, 0, none⟩) hl7).trans hdf
                 have r6 : RB w6' bx B 67 [] ua uc MM2 := HRB7.out.kp (kp_of_below B6w (fun _ => False)) (fun h => h) (fun _ _ h => h)
                 have hr6l := r6.b_lt
                 have HR6 : Hid (RB w6' bx B 67 [] ua uc MM2) := r6
                 have HO6 : Hid (w6'.ownsRow w12.drew.heap.size 4 1 (.slice (some ⟨g6, 0, none⟩) P2.length c6) P2.length (P2.map Value.bool)) := O6
                 clear r6 O6)
              | (refine step_append_lies _ (by rfl) _ _ _ (by rfl) B 4 ib _ 1 1 Tryz.underlying65 hib hb0 hb1 hb2 rfl (by omega) (.slice ua MM2.length uc) MM2.length (MM2.map Value.bool) (by rfl) HR6.out.own ⟨g6, 0, none⟩ P2.length c6 (P2.map Value.bool) (by rfl) (by simp) (fun j u hu => HO6.out.cells (g := g6) rfl j u hu) (by intro u hu; obtain ⟨_, _, rfl⟩ := List.mem_map.1 hu; rfl) hPl2.1 (by unfold maxLen; omega) (by omega) HR6.out.bB w6'.heap.size rfl ?_
                 intro g8 c8 w8' hown8 hg8 hat8 hlt8
                 have hx0 := (hg8.cell_far ⟨bx, 0, none⟩ hr6l (Ne.symm HR6.out.ne)).trans e0
                 have hxf := (hg8.frozen_far ⟨bx, 0, none⟩ hr6l (Ne.symm HR6.out.ne)).trans ef))
          all_goals
            have hlen : (MM2 ++ P2).length = MM2.length + P2.length := List.length_append
            have hfr : Fresh w6' (.slice ua MM2.length uc) (.slice (some ⟨g8, 0, none⟩) (MM2.length + P2.length) c8) := fun k e => by
              have e2 : k = g8 := by simpa [Value.ownBlock] using e.symm
              subst e2
              rcases hat8 with h | h
              · exact .inl h
              · exact .inr (by omega)
            have hst := HR6.out.store (L' := MM2 ++ P2) (a' := some ⟨g8, 0, none⟩) (cap' := c8) (Kp.grown hg8 (fun i e => e)) (by rw [hlen, List.map_append]; exact hown8) (by rw [hlen]; exact hfr)
            rw [hlen] at hst
            have h72b : Kp (WS bx uS) w3 w6' := h72.trans (S' := fun _ => False) (kp_of_below B6w _) (fun _ _ e => e.elim)
            have HI9 : RwI w3 (w8'.setCell ⟨bx, 0, none⟩ (.slice (some ⟨g8, 0, none⟩) (MM2.length + P2.length) c8)) bx B uS (MM2 ++ P2) := RwI.next h72b h73 ⟨some ⟨g8, 0, none⟩, c8, by rw [hlen], hst.1⟩ hst.2.1 hst.2.2
            clear hst hfr hlen hown8 hg8 hat8 hlt8 hx0 hxf HR6 HO6 e0 ef B6 B6w h72b hg6 hg6l hc6 HRB7 CB hr6l h72 h73
            generalize w8'.setCell ⟨bx, 0, none⟩ (.slice (some ⟨g8, 0, none⟩) (MM2.length + P2.length) c8) = w10 at *
            have CP2 := rput8 HI9 V2 M2 HV2.out (by omega) (by rw [List.length_append]; omega)
            rw [← HFI.out] at CP2
            clear HI9
            go_wp2_with fail
            refine CP2.mono ?_
            rintro e w13 ⟨rfl, HI13⟩
            have HI14 := HJ.out _ _ HI13
            clear CP2 HI13
            go_wp2_with fail
            go_roundw
            case rel => exact ⟨i + 1, by omega, by go_num, HI14⟩
            case measure => simp [intOf]; omega
    · have hge : ¬ (i : Int) < (n : Int) := by omega
      have hTA : l.take i = l := List.take_of_length_le (by rw [hn.out]; omega)
      rw [hTA] at HI hml
      obtain ⟨MM, hMM⟩ : ∃ MM, MM = L ++ l.flatMap (tkB9 ZL ZD) := ⟨_, rfl⟩
      rw [← hMM] at HI hml
      obtain ⟨P, hP⟩ : ∃ P, P = putB ZL 256 := ⟨_, rfl⟩
      have hPl : 1 ≤ P.length ∧ P.length ≤ 15 := by rw [hP]; exact ⟨HH.out.fin, HPL.out _⟩
      have HCV : Hid ((256 : Int) = 256) := rfl
      have CB : Hid (∀ (W' : World) (s : Int), Below wr.heap.size wr W' → s = 256 → Calls Tryz.prog 83 #[.slice la nl lc, .int .i64 s] W' fun e w' => ∃ b c, e = .returned (.slice b P.length c) ∧ w'.ownsRow W'.heap.size 4 1 (.slice b P.length c) P.length (P.map Value.bool) ∧ Below W'.heap.size W' w') := fun W' s hW' hs => by
        rw [hs, hP]
        exact HBL.out W' 256 ((HS.out wr HI.kp).2.1.old hW') (by omega) (by omega)
      have HFI : Hid (L ++ bdy9 ZL ZD l = MM ++ P) := by show _ = _; unfold bdy9; rw [hMM, hP, List.append_assoc]
      clear hMM hP hTA hge
      go_wp2_with fail
      obtain ⟨u7, h71, h72, h73⟩ := HI
      obtain ⟨ua, uc, rfl, r7⟩ := h71
      have hd0 := r7.cell0
      have hdf := r7.free 0
      have hr7 := r7.ne
      have hB7 := r7.bB
      have hl7 := r7.b_lt
      have hbt : Below wr.heap.size wr wr.drew := (Below.refl _ _).drew
      have hwd : wr.drew.heap.size = wr.heap.size := rfl
      have HRB7 : Hid (RB wr bx B 67 [] ua uc MM) := r7
      clear r7
      go_region_law
        (first
          | (go_simp
             go_at_call 83
             refine (CB.out _ _ hbt (by first | rfl | exact HCV.out | (simp; done))).mono ?_
             rintro e w6' ⟨b6, c6, rfl, O6, B6⟩
             have B6w : Below wr.heap.size wr w6' := hbt.trans (B6.mono (Nat.le_refl _))
             obtain ⟨g6, rfl, hc6, hg6, hg6l⟩ := own_shape1 O6 hPl.1
             have e0 := (B6w.cell (p := ⟨bx, 0, none⟩) hl7).trans hd0
             have ef := (B6w.frozen (p := ⟨bx, 0, none⟩) hl7).trans hdf
             have r6 : RB w6' bx B 67 [] ua uc MM := HRB7.out.kp (kp_of_below B6w (fun _ => False)) (fun h => h) (fun _ _ h => h)
             have hr6l := r6.b_lt
             have HR6 : Hid (RB w6' bx B 67 [] ua uc MM) := r6
             have HO6 : Hid (w6'.ownsRow wr.drew.heap.size 4 1 (.slice (some ⟨g6, 0, none⟩) P.length c6) P.length (P.map Value.bool)) := O6
             clear r6 O6)
          | (refine step_append_lies _ (by rfl) _ _ _ (by rfl) B 4 ib _ 1 1 Tryz.underlying65 hib hb0 hb1 hb2 rfl (by omega) (.slice ua MM.length uc) MM.length (MM.map Value.bool) (by rfl) HR6.out.own ⟨g6, 0, none⟩ P.length c6 (P.map Value.bool) (by rfl) (by simp) (fun j u hu => HO6.out.cells (g := g6) rfl j u hu) (by intro u hu; obtain ⟨_, _, rfl⟩ := List.mem_map.1 hu; rfl) hPl.1 (by unfold maxLen; omega) (by omega) HR6.out.bB w6'.heap.size rfl ?_
             intro g8 c8 w8' hown8 hg8 hat8 hlt8
             have hx0 := (hg8.cell_far ⟨bx, 0, none⟩ hr6l (Ne.symm HR6.out.ne)).trans e0
             have hxf := (hg8.frozen_far ⟨bx, 0, none⟩ hr6l (Ne.symm HR6.out.ne)).trans ef))
      all_goals
        have hlen : (MM ++ P).length = MM.length + P.length := List.length_append
        have hfr : Fresh w6' (.slice ua MM.length uc) (.slice (some ⟨g8, 0, none⟩) (MM.length + P.length) c8) := fun k e => by
          have e2 : k = g8 := by simpa [Value.ownBlock] using e.symm
          subst e2
          rcases hat8 with h | h
          · exact .inl h
          · exact .inr (by omega)
        have hst := HR6.out.store (L' := MM ++ P) (a' := some ⟨g8, 0, none⟩) (cap' := c8) (Kp.grown hg8 (fun i e => e)) (by rw [hlen, List.map_append]; exact hown8) (by rw [hlen]; exact hfr)
        rw [hlen] at hst
        have h72b : Kp (WS bx u) w w6' := h72.trans (S' := fun _ => False) (kp_of_below B6w _) (fun _ _ e => e.elim)
        have HI9 : RwI w (w8'.setCell ⟨bx, 0, none⟩ (.slice (some ⟨g8, 0, none⟩) (MM.length + P.length) c8)) bx B u (MM ++ P) := RwI.next h72b h73 ⟨some ⟨g8, 0, none⟩, c8, by rw [hlen], hst.1⟩ hst.2.1 hst.2.2
        clear hst hfr hlen hown8 hg8 hat8 hlt8 hx0 hxf HR6 HO6 e0 ef B6 B6w h72b hg6 hg6l hc6 HRB7 CB hr6l h72 h73
        generalize w8'.setCell ⟨bx, 0, none⟩ (.slice (some ⟨g8, 0, none⟩) (MM.length + P.length) c8) = w10 at *
        have HI10 : RwI w w10 bx B u (L ++ bdy9 ZL ZD l) := by rw [HFI.out]; exact HI9
        clear HI9
        go_wp2_with fail
        refine bodyPost_end (results_none rfl _ _ _) rfl ?_
        exact ⟨rfl, HI10⟩
end Go.Proofs.YtcifalelnfeggaaGreatDoor
