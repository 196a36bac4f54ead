import Derived.Test.YtalojcpgkgeofaaGreatDoorPb
import Derived.WalkKit
import Derived.Test.YtalojcpgkgeofaaGreatDoorRows
import Derived.Test.YtalojcpgkgeofaaGreatDoorPj
import Derived.ProofKit
import Derived.OpenShut
import Derived.Deep.DeepHandedRow
import Derived.Lib.LaidTab
namespace Go.Proofs.YtalojcpgkgeofaaGreatDoor
open Go.RowKit
set_option linter.unusedVariables false

/-- Whole numbers (of 64 bits, with a sign) lie where a slice's address leads. -/
structure SegZ (w : World) (a : Option Addr) (zs : List Int) : Prop where
  at_ : ∀ i, i < zs.length → ∃ b off, a = some ⟨b, off, none⟩ ∧ w.cell? ⟨b, off + i, none⟩ = some (.int .i64 (zs.getD i 0))
  bd : ∀ i, -9223372036854775808 ≤ zs.getD i 0 ∧ zs.getD i 0 ≤ 9223372036854775807

theorem getD_bdz {zs : List Int} (h : ∀ z ∈ zs, -9223372036854775808 ≤ z ∧ z ≤ 9223372036854775807) (i : Nat) : -9223372036854775808 ≤ zs.getD i 0 ∧ zs.getD i 0 ≤ 9223372036854775807 := by
  by_cases hi : i < zs.length
  · have := h zs[i] (List.getElem_mem hi)
    simpa [List.getD, hi] using this
  · have : zs[i]? = none := List.getElem?_eq_none (by omega)
    simp [List.getD, this]
theorem SegZ.nil (w : World) (a : Option Addr) : SegZ w a [] := ⟨fun i h => by simp at h, fun i => by simp⟩
theorem SegZ.of_cells {w w' : World} {a : Option Addr} {zs : List Int} (h : SegZ w a zs) (hc : ∀ b off i v, i < zs.length → a = some ⟨b, off, none⟩ → w.cell? ⟨b, off + i, none⟩ = some v → w'.cell? ⟨b, off + i, none⟩ = some v) : SegZ w' a zs :=
  ⟨fun i hi => by obtain ⟨b, off, ha, hcl⟩ := h.at_ i hi; exact ⟨b, off, ha, hc b off i _ hi ha hcl⟩, h.bd⟩
theorem SegZ.old {w w' : World} {a : Option Addr} {zs : List Int} (h : SegZ w a zs) (hb : Below w.heap.size w w') : SegZ w' a zs :=
  h.of_cells fun b off i v hi ha hcl => (hb.cell (p := ⟨b, off + i, none⟩) (World.block_lt_of_cell? w _ hcl)).trans hcl
theorem SegZ.kp {w w' : World} {S : Nat → Prop} {a : Option Addr} {zs : List Int} (h : SegZ w a zs) (hb : Kp S w w') (hn : ∀ b off, a = some ⟨b, off, none⟩ → 0 < zs.length → ¬ S b) : SegZ w' a zs :=
  h.of_cells fun b off i v hi ha hcl => by
    have hlt : b < w.heap.size := World.block_lt_of_cell? w _ hcl
    rw [World.cell?_of_block (a := ⟨b, off + i, none⟩) (hb.block b hlt (hn b off ha (by omega)))]
    exact hcl
theorem SegZ.lt {w : World} {a : Option Addr} {zs : List Int} (h : SegZ w a zs) : ∀ b off, a = some ⟨b, off, none⟩ → 0 < zs.length → b < w.heap.size := by
  intro b off ha hl
  obtain ⟨b', off', ha', hc⟩ := h.at_ 0 hl
  rw [ha] at ha'
  cases ha'
  exact World.block_lt_of_cell? w _ hc
theorem SegZ.drewN {w : World} {a : Option Addr} {zs : List Int} (h : SegZ w a zs) (n : Nat) : SegZ (w.drewN n) a zs := ⟨h.at_, h.bd⟩
theorem SegZ.drew {w : World} {a : Option Addr} {zs : List Int} (h : SegZ w a zs) : SegZ w.drew a zs := ⟨h.at_, h.bd⟩
theorem SegZ.alloc {w : World} {a : Option Addr} {zs : List Int} (h : SegZ w a zs) (o : Obj) : SegZ (w.alloc o) a zs := h.old ((Below.refl _ _).alloc (Nat.le_refl _) o)
theorem SegZ.mem {w : World} {a : Option Addr} {zs : List Int} (h : SegZ w a zs) : ∀ z ∈ zs, -9223372036854775808 ≤ z ∧ z ≤ 9223372036854775807 := by
  intro z hz
  obtain ⟨i, hi, rfl⟩ := List.mem_iff_getElem.1 hz
  have := h.bd i
  simpa [List.getD, hi] using this
theorem SegZ.take {w : World} {a : Option Addr} {zs : List Int} (h : SegZ w a zs) (m : Nat) : SegZ w a (zs.take m) := by
  refine ⟨fun i hi => ?_, getD_bdz fun z hz => h.mem z (List.mem_of_mem_take hz)⟩
  simp at hi
  obtain ⟨b, off, ha, hc⟩ := h.at_ i (by omega)
  refine ⟨b, off, ha, ?_⟩
  rw [hc]
  have hk : i < m := by omega
  simp [List.getD, hk]
theorem SegZ.left {w : World} {a : Option Addr} {xs ys : List Int} (h : SegZ w a (xs ++ ys)) : SegZ w a xs := by
  have := h.take xs.length
  simpa using this
theorem segZ_cells {w : World} {x : Addr} {zs : List Int} (h : SegZ w (some x) zs) : ∀ j u, (zs.map (Value.int .i64))[j]? = some u → w.cell? (x.add j) = some u := by
  intro j u hu
  have hj : j < zs.length := by
    rcases Nat.lt_or_ge j zs.length with h | h
    · exact h
    · simp [List.getElem?_eq_none h] at hu
  obtain ⟨b, off, hx, hc⟩ := h.at_ j hj
  cases hx
  have hadd : (⟨b, off, none⟩ : Addr).add j = ⟨b, off + j, none⟩ := by unfold Addr.add; split <;> simp_all
  rw [hadd, hc]
  simp [hj] at hu
  subst hu
  simp [List.getD, hj]
/-- A row that the call owns, as numbers that lie there. -/
theorem own_segZ {w : World} {base n : Nat} {e : TypeId} {a : Option Addr} {cap : Nat} {zs : List Int} (h : w.ownsRow base e 1 (.slice a n cap) n (zs.map (Value.int .i64))) (hb : ∀ z ∈ zs, -9223372036854775808 ≤ z ∧ z ≤ 9223372036854775807) :
    SegZ w a zs := by
  have hl : zs.length = n := by simpa using h.1
  rcases h.2 with ⟨h1, hn⟩ | ⟨g, cap', cur, hv, hg, hh, hc, _, _, ht⟩
  · have : zs = [] := List.eq_nil_of_length_eq_zero (by omega)
    subst this
    exact SegZ.nil _ _
  · simp only [Value.slice.injEq] at hv
    obtain ⟨rfl, _, rfl⟩ := hv
    refine ⟨fun i hi => ⟨g, 0, rfl, ?_⟩, getD_bdz hb⟩
    have := h.cells (g := g) rfl i (.int .i64 (zs.getD i 0)) (by simp [List.getD, hi])
    have hadd : (⟨g, 0, none⟩ : Addr).add i = ⟨g, 0 + i, none⟩ := by unfold Addr.add; split <;> simp_all
    rw [hadd] at this
    exact this
/-- Numbers that lie somewhere, behind a row. -/
theorem wpList_appZ {P : Program} {ops : Array Oper} {rest : List Oper} {o : Oper} {a : Act} {Q : Exit → Act → World → Prop} (hgd : o.guard = none) (s x : Operand) (t : TypeId)
    (ho : o.op = .call { callee := .builtin .append, args := #[s, x], argTypes := #[t, t] })
    (base : Nat) (e : TypeId) (i : TypeInfo) (z : Value) (bytes : Nat) (ht : P.underlying t = some (.slice e)) (hi : P.info? e = some i) (hz : i.zero = some z)
    (hsize : i.size = 1) (hby : i.bytes = bytes) (hzs : z.cells.size = 1)
    {w : World} {ra : Option Addr} {rc : Nat} {n : Nat} {xs : List Value} (hown : w.ownsRow base e 1 (.slice ra n rc) n xs) {ao : Option Addr} {zs : List Int} {cap : Nat} (hseg : SegZ w ao zs) (hnil : ao = none → cap = 0)
    (hs : a.eval s = .slice ra n rc) (hx : a.eval x = .slice ao zs.length cap)
    (h63 : n + zs.length ≤ 140737488355328) (hbytes : (n + zs.length) * bytes ≤ 140737488355328) (hbase : base ≤ w.heap.size)
    (h : ∀ (b : Option Addr) (c : Nat) (w' : World), w'.ownsRow base e 1 (.slice b (n + zs.length) c) (n + zs.length) (xs ++ zs.map (Value.int .i64)) → w.grownBy w' (Value.slice ra n rc).ownBlock → Fresh w (.slice ra n rc) (.slice b (n + zs.length) c) → (Value.slice b (n + zs.length) c = .slice none 0 0 ↔ Value.slice ra n rc = .slice none 0 0 ∧ zs.length = 0) → wpList P ops Q rest (a.put o.dst (.slice b (n + zs.length) c)) w') : wpList P ops Q (o :: rest) a w := by
  cases ao with
  | none =>
    have hz : zs = [] := by
      cases zs with
      | nil => rfl
      | cons z r => obtain ⟨b, off, hx, _⟩ := hseg.at_ 0 (by simp); cases hx
    subst hz
    rw [hnil rfl] at hx
    refine wpList_append_own_none hgd s x t ho base e i 1 ht hi _ n xs hs hown hx ?_
    have := h ra rc w (by simpa using hown) (World.grownBy.refl _ _) (fun k hk => .inl hk) (by simp)
    simpa using this
  | some ad =>
    exact wpList_app hgd s x t ho base e i z bytes ht hi hz hsize hby hzs hown (by simp) (segZ_cells hseg) (ints_oneCell _ _) hs hx h63 hbytes hbase h
theorem below_own {w w' : World} {base n : Nat} {e : TypeId} {v : Value} {xs : List Value} (hown : w.ownsRow base e 1 v n xs) (hg : w.grownBy w' v.ownBlock) (hb : base ≤ w.heap.size) : Below base w w' :=
  (Below.refl _ _).grown hg hb (fun k hk => (hown.lt k hk).1)
theorem take_snocZ {zs : List Int} {k : Nat} (hk : k < zs.length) : zs.take (k + 1) = zs.take k ++ [zs.getD k 0] := by
  rw [List.take_add_one]
  simp [List.getD, hk]
end Go.Proofs.YtalojcpgkgeofaaGreatDoor

namespace Go.Proofs.YtalojcpgkgeofaaGreatDoor
set_option linter.unusedVariables false

/-! Layer 8 (head), without a program: lengths as runs, and back (P8.1, P8.2, P8.7). -/
structure Rn8 where
  sy : Int
  ct : Int
def lst8 (s : Int) : Int := if s = 16 ∨ s = 17 then 3 else if s = 18 then 11 else 1
def grt8 (s : Int) : Int := if s = 16 then 6 else if s = 17 then 10 else if s = 18 then 138 else 1
def mor8 (s : Int) : Nat := if s = 16 then 2 else if s = 17 then 3 else if s = 18 then 7 else 0
def bad8 (r : Rn8) (n : Nat) : Prop := r.sy < 0 ∨ 18 < r.sy ∨ r.ct < lst8 r.sy ∨ grt8 r.sy < r.ct ∨ (r.sy = 16 ∧ n = 0)
instance (r : Rn8) (n : Nat) : Decidable (bad8 r n) := by unfold bad8; infer_instance
def end8 : List Int → Int
  | [] => 0
  | [x] => x
  | _ :: r => end8 r
theorem end8_app (x : Int) : ∀ l : List Int, end8 (l ++ [x]) = x
  | [] => rfl
  | [y] => rfl
  | y :: z :: r => by
    have := end8_app x (z :: r)
    simpa [end8] using this
theorem end8_rep (v : Int) (l : List Int) : ∀ n, 0 < n → end8 (l ++ List.replicate n v) = v
  | 0, h => by omega
  | n + 1, _ => by rw [List.replicate_succ', ← List.append_assoc, end8_app]
def val8 (r : Rn8) (out : List Int) : Int := if r.sy = 16 then end8 out else if 15 < r.sy then 0 else r.sy
/-- What runs say behind lengths; none: they are no lengths. -/
def lng8 : List Rn8 → List Int → Option (List Int)
  | [], out => some out
  | r :: l, out => if bad8 r out.length then none else if 320 < (out ++ List.replicate r.ct.toNat (val8 r out)).length then none else lng8 l (out ++ List.replicate r.ct.toNat (val8 r out))
def lens8 (l : List Rn8) : Option (List Int) := lng8 l []
def pre8 (v : Int) : List Int → Nat
  | [] => 0
  | x :: r => if x = v then pre8 v r + 1 else 0
theorem pre8_le (v : Int) : ∀ l, pre8 v l ≤ l.length
  | [] => Nat.le_refl _
  | x :: r => by
    rw [pre8]
    split
    · have := pre8_le v r; simp; omega
    · simp
theorem pre8_take (v : Int) : ∀ (l : List Int) (n : Nat), n ≤ pre8 v l → l.take n = List.replicate n v
  | l, 0, _ => by simp
  | [], n + 1, h => by simp [pre8] at h
  | x :: r, n + 1, h => by
    rw [pre8] at h
    split at h
    · rename_i e
      rw [List.take_succ_cons, List.replicate_succ, e, pre8_take v r n (by omega)]
    · omega
def rep8 : Nat → Nat → List Rn8
  | 0, _ => []
  | f + 1, k => if 3 ≤ k then ⟨16, (min k 6 : Nat)⟩ :: rep8 f (k - min k 6) else []
def row8 (v : Int) (k : Nat) : List Rn8 := if v = 0 then (if 11 ≤ k then [⟨18, (min k 138 : Nat)⟩] else if 3 ≤ k then [⟨17, k⟩] else [⟨0, 1⟩]) else ⟨v, 1⟩ :: rep8 (k - 1) (k - 1)
def sum8 : List Rn8 → Nat
  | [] => 0
  | r :: l => r.ct.toNat + sum8 l
theorem rep8_sum : ∀ f k, sum8 (rep8 f k) ≤ k
  | 0, k => by simp [rep8, sum8]
  | f + 1, k => by
    rw [rep8]
    split
    · have := rep8_sum f (k - min k 6)
      simp only [sum8, Int.toNat_natCast]
      omega
    · simp [sum8]
theorem row8_sum {v : Int} {k : Nat} (hk : 1 ≤ k) : 1 ≤ sum8 (row8 v k) ∧ sum8 (row8 v k) ≤ k := by
  unfold row8
  split
  · split
    · simp only [sum8, Int.toNat_natCast]; omega
    · split
      · simp only [sum8, Int.toNat_natCast]; omega
      · simp [sum8]; omega
  · have := rep8_sum (k - 1) (k - 1)
    simp only [sum8]
    have e : (1 : Int).toNat = 1 := rfl
    rw [e]
    omega
def rung8 : Nat → List Int → List Rn8
  | 0, _ => []
  | _ + 1, [] => []
  | f + 1, v :: r => row8 v (pre8 v (v :: r)) ++ rung8 f ((v :: r).drop (sum8 (row8 v (pre8 v (v :: r)))))
def runs8 (l : List Int) : List Rn8 := rung8 l.length l
theorem lng8_one {r : Rn8} {l : List Rn8} {out : List Int} (h : ¬ bad8 r out.length) (hl : out.length + r.ct.toNat ≤ 320) : lng8 (r :: l) out = lng8 l (out ++ List.replicate r.ct.toNat (val8 r out)) := by
  rw [lng8, if_neg h, if_neg (by simp; omega)]
theorem lng8_rep {v : Int} (rest : List Rn8) : ∀ (f k : Nat) (out : List Int), 0 < out.length → end8 out = v → out.length + k ≤ 320 → lng8 (rep8 f k ++ rest) out = lng8 rest (out ++ List.replicate (sum8 (rep8 f k)) v)
  | 0, k, out, _, _, _ => by simp [rep8, sum8]
  | f + 1, k, out, h1, h2, h3 => by
    rw [rep8]
    split
    · rename_i hk
      have hv : val8 ⟨16, (min k 6 : Nat)⟩ out = v := by unfold val8; rw [if_pos rfl]; exact h2
      have hne : ¬ out = [] := by intro e; rw [e] at h1; simp at h1
      rw [List.cons_append, lng8_one (by unfold bad8 lst8 grt8; simp [hne]; omega) (by simp; omega), hv, lng8_rep rest f (k - min k 6) _ (by simp; omega) (end8_rep v out _ (by simp; omega)) (by simp; omega)]
      simp only [sum8, Int.toNat_natCast, List.append_assoc, List.replicate_append_replicate]
    · simp [sum8]
theorem lng8_row {v : Int} {k : Nat} (rest : List Rn8) (out : List Int) (hv : 0 ≤ v ∧ v ≤ 15) (hk : 1 ≤ k) (hl : out.length + k ≤ 320) : lng8 (row8 v k ++ rest) out = lng8 rest (out ++ List.replicate (sum8 (row8 v k)) v) := by
  unfold row8
  by_cases h0 : v = 0
  · rw [if_pos h0]
    subst h0
    split
    · rw [List.singleton_append, lng8_one (by unfold bad8 lst8 grt8; simp; omega) (by simp; omega)]
      simp [sum8, val8]
    · split
      · rw [List.singleton_append, lng8_one (by unfold bad8 lst8 grt8; simp; omega) (by simp; omega)]
        simp [sum8, val8]
      · rw [List.singleton_append, lng8_one (by unfold bad8 lst8 grt8; simp) (by simp; omega)]
        simp [sum8, val8]
  · rw [if_neg h0, List.cons_append]
    have e16 : ¬ v = 16 := by omega
    have e17 : ¬ v = 17 := by omega
    have e18 : ¬ v = 18 := by omega
    have hb : ¬ bad8 ⟨v, 1⟩ out.length := by unfold bad8 lst8 grt8; simp [e16, e17, e18]; omega
    have hvv : val8 ⟨v, 1⟩ out = v := by unfold val8; simp [e16]; omega
    rw [lng8_one hb (by simp; omega), hvv]
    have e1 : (1 : Int).toNat = 1 := rfl
    simp only [sum8, e1]
    rw [lng8_rep rest (k - 1) (k - 1) _ (by simp) (end8_rep v out 1 (by omega)) (by simp; omega), List.append_assoc, List.replicate_append_replicate]
theorem lng8_runs : ∀ (f : Nat) (l out : List Int), (∀ z ∈ l, 0 ≤ z ∧ z ≤ 15) → l.length ≤ f → out.length + l.length ≤ 320 → lng8 (rung8 f l) out = some (out ++ l)
  | 0, l, out, _, h, _ => by
    have : l = [] := List.length_eq_zero_iff.1 (by omega)
    subst this
    simp [rung8, lng8]
  | f + 1, [], out, _, _, _ => by simp [rung8, lng8]
  | f + 1, v :: r, out, hb, hf, hl => by
    have hp : 1 ≤ pre8 v (v :: r) := by rw [pre8, if_pos rfl]; omega
    have hpl := pre8_le v (v :: r)
    have hs := row8_sum (v := v) hp
    rw [rung8, lng8_row _ out (hb v (List.mem_cons_self ..)) hp (by omega)]
    have ht := pre8_take v (v :: r) (sum8 (row8 v (pre8 v (v :: r)))) hs.2
    generalize sum8 (row8 v (pre8 v (v :: r))) = n at *
    rw [lng8_runs f ((v :: r).drop n) _ (fun z hz => hb z (List.mem_of_mem_drop hz)) (by simp only [List.length_drop, List.length_cons] at *; omega) (by simp only [List.length_append, List.length_replicate, List.length_drop, List.length_cons] at *; omega), ← ht, List.append_assoc, List.take_append_drop]
/-- P8.7. -/
theorem lens8_runs8 {l : List Int} (hb : ∀ z ∈ l, 0 ≤ z ∧ z ≤ 15) (hl : l.length ≤ 320) : lens8 (runs8 l) = some l := by
  have := lng8_runs l.length l [] hb (Nat.le_refl _) (by simpa using hl)
  simpa [lens8, runs8] using this
end Go.Proofs.YtalojcpgkgeofaaGreatDoor

namespace Go.Proofs.YtalojcpgkgeofaaGreatDoor
open Go.RowKit
set_option linter.unusedVariables false

/-! The two tables of package head, where the program's text lays them. -/
def snsL : List Int := [0, 1, 0, 1, 1, 0, 2, 1, 0, 3, 1, 0, 4, 1, 0, 5, 1, 0, 6, 1, 0, 7, 1, 0, 8, 1, 0, 9, 1, 0, 10, 1, 0, 11, 1, 0, 12, 1, 0, 13, 1, 0, 14, 1, 0, 15, 1, 0, -1, 3, 2, 0, 3, 3, 0, 11, 7]
def ordL : List Int := [16, 17, 18, 0, 8, 7, 9, 6, 10, 5, 11, 4, 12, 3, 13, 2, 14, 1, 15]
abbrev TabS (w : World) : Prop := SegZ w (some ⟨0, 0, none⟩) snsL
abbrev TabO (w : World) : Prop := SegZ w (some ⟨1, 0, none⟩) ordL
/-- Which length a symbol stands for, as the table has it. -/
def sln8 (s : Int) : Int := if s = 16 then -1 else if 15 < s then 0 else s
theorem sns_get : ∀ k : Fin 19, snsL.getD (k.val * 3) 0 = sln8 k.val ∧ snsL.getD (k.val * 3 + 1) 0 = lst8 k.val ∧ snsL.getD (k.val * 3 + 2) 0 = mor8 k.val := by decide
theorem TabS.at8 {w : World} (h : TabS w) (k : Nat) (hk : k < 19) : w.cell? ⟨0, k * 3, none⟩ = some (.int .i64 (sln8 k)) ∧ w.cell? ⟨0, k * 3 + 1, none⟩ = some (.int .i64 (lst8 k)) ∧ w.cell? ⟨0, k * 3 + 2, none⟩ = some (.int .i64 (mor8 k : Int)) := by
  have hl : snsL.length = 57 := rfl
  obtain ⟨e1, e2, e3⟩ := sns_get ⟨k, hk⟩
  simp only at e1 e2 e3
  refine ⟨?_, ?_, ?_⟩
  · obtain ⟨b, o, e, c⟩ := h.at_ (k * 3) (by omega)
    cases e
    rw [Nat.zero_add, e1] at c
    exact c
  · obtain ⟨b, o, e, c⟩ := h.at_ (k * 3 + 1) (by omega)
    cases e
    rw [Nat.zero_add, e2] at c
    exact c
  · obtain ⟨b, o, e, c⟩ := h.at_ (k * 3 + 2) (by omega)
    cases e
    rw [Nat.zero_add, e3] at c
    exact c
theorem TabO.at8 {w : World} (h : TabO w) (k : Nat) (hk : k < 19) : w.cell? ⟨1, k, none⟩ = some (.int .i64 (ordL.getD k 0)) := by
  obtain ⟨b, o, e, c⟩ := h.at_ k (by show k < 19; exact hk)
  cases e
  rw [Nat.zero_add] at c
  exact c
theorem grt8_lst (s : Int) (h : s ≤ 18) : grt8 s = lst8 s + 2 ^ mor8 s - 1 := by
  unfold grt8 lst8 mor8
  by_cases h1 : s = 16
  · simp [h1]
  · by_cases h2 : s = 17
    · simp [h2]
    · by_cases h3 : s = 18
      · simp [h3]
      · simp [h1, h2, h3]
end Go.Proofs.YtalojcpgkgeofaaGreatDoor

namespace Go.Proofs.YtalojcpgkgeofaaGreatDoor
open Go.ChangeShapes Go.WideShapes Go.ChangeAt Go.RowKit

theorem gTab : Tryz.prog.globalNamed "sapper/crc.halves" = some 0 := by kernel_rfl
theorem gTabType : (Tryz.prog.globals[0]?).map (·.type) = some 200 := by kernel_rfl
theorem cellsTab : Tryz.prog.cellsOf 200 = 16 := by kernel_rfl
theorem cellsWord : Tryz.prog.cellsOf 28 = 1 := by kernel_rfl
theorem halfL_bd : ∀ z ∈ halfL, 0 ≤ z ∧ z ≤ 4294967295 := by decide

/-- What the row's list gives: the table's cells. -/
theorem tab_of18 {W : World} (h : laidMetH Tryz.prog [("sapper/crc.halves", Rows.laid_sapper_crc_halves), ("sapper/head.senses", Rows.laid_sapper_head_senses), ("sapper/head.order", Rows.laid_sapper_head_order)] W) : Tab W := by
  have ht : Lib.TabIs Tryz.prog W "sapper/crc.halves" .u32 halfL :=
    Lib.tabIs_of_head (rest := [("sapper/head.senses", Rows.laid_sapper_head_senses), ("sapper/head.order", Rows.laid_sapper_head_order)]) gTab gTabType Tryz.underlying200 Tryz.underlying28 cellsWord cellsTab h
  refine ⟨fun i hi => ⟨0, 0, rfl, ?_⟩, by decide, fun i => ?_⟩
  · rw [Nat.zero_add]
    exact ht.cell gTab i hi
  · by_cases hi : i < halfL.length
    · have := halfL_bd halfL[i] (List.getElem_mem hi)
      simpa [List.getD, hi] using this
    · have : halfL[i]? = none := List.getElem?_eq_none (by omega)
      simp [List.getD, this]

end Go.Proofs.YtalojcpgkgeofaaGreatDoor
