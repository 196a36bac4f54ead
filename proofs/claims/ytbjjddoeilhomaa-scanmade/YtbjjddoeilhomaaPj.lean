import Derived.Test.YtbjjddoeilhomaaProg
import Derived.Test.YtbjjddoeilhomaaPi
import Derived.WalkKit
import Derived.WalkSpells
import Derived.BigQuiet
import Derived.Deep.QuietTactic
import Derived.WalkLawsBesides
import Derived.Deep.OwnRows
import Derived.Deep.AppendLies
import Derived.Test.YtbjjddoeilhomaaPd
namespace Go.Proofs.Ytbjjddoeilhomaa
open Go.RowKit
set_option linter.unusedVariables false

/-! Rows that were made: a block of numbers, a block of bools. -/
theorem info_i12 : (Try.prog.info? 3).map (fun i => (i.zero, i.size, i.bytes)) = some (some (.int .i64 0), 1, 8) := by kernel_rfl
theorem info_b12 : (Try.prog.info? 4).map (fun i => (i.zero, i.size, i.bytes)) = some (some (.bool false), 1, 1) := by kernel_rfl
def vi12 (A : List Int) : Array Value := (A.map (Value.int .i64)).toArray
def vb12 (A : List Bool) : Array Value := (A.map Value.bool).toArray
structure Rz12 (w : World) (g : Nat) (A : List Int) : Prop where
  hp : w.heap[g]? = some (.cells (vi12 A) 3 (0, 0))
structure Rb12 (w : World) (g : Nat) (A : List Bool) : Prop where
  hp : w.heap[g]? = some (.cells (vb12 A) 4 (0, 0))
theorem run_make_i12 (n : Nat) (h : n * 8 ≤ 140737488355328) (w : World) :
    (Instr.makeSlice 46 (.int .i64 (n : Int)) (.int .i64 (n : Int))).run Try.prog w = .ok (.slice (some ⟨w.heap.size, 0, none⟩) n n) (w.alloc (.cells (vi12 (List.replicate n 0)) 3)) := by
  have e : madeCells #[.int .i64 0] n = vi12 (List.replicate n 0) := by
    apply Array.toList_inj.1
    rw [toList_madeCells_one]
    simp [vi12]
  rw [← e]
  exact run_make_row' 46 3 (.int .i64 0) 8 Try.underlying46 info_i12 rfl .i64 .i64 n (by omega) (by omega) w
theorem run_make_b12 (n : Nat) (h : n ≤ 140737488355328) (w : World) :
    (Instr.makeSlice 110 (.int .i64 (n : Int)) (.int .i64 (n : Int))).run Try.prog w = .ok (.slice (some ⟨w.heap.size, 0, none⟩) n n) (w.alloc (.cells (vb12 (List.replicate n false)) 4)) := by
  have e : madeCells #[.bool false] n = vb12 (List.replicate n false) := by
    apply Array.toList_inj.1
    rw [toList_madeCells_one]
    simp [vb12]
  rw [← e]
  exact run_make_row' 110 4 (.bool false) 1 Try.underlying110 info_b12 rfl .i64 .i64 n (by omega) (by omega) w
theorem Rz12.new (w : World) (A : List Int) : Rz12 (w.alloc (.cells (vi12 A) 3)) w.heap.size A := ⟨heap_alloc_new w _⟩
theorem Rb12.new (w : World) (A : List Bool) : Rb12 (w.alloc (.cells (vb12 A) 4)) w.heap.size A := ⟨heap_alloc_new w _⟩
theorem Rz12.lt {w : World} {g : Nat} {A : List Int} (h : Rz12 w g A) : g < w.heap.size := (Array.getElem?_eq_some_iff.1 h.hp).1
theorem Rb12.lt {w : World} {g : Nat} {A : List Bool} (h : Rb12 w g A) : g < w.heap.size := (Array.getElem?_eq_some_iff.1 h.hp).1
theorem Rz12.cell {w : World} {g : Nat} {A : List Int} (h : Rz12 w g A) {i : Nat} (hi : i < A.length) : w.cell? ⟨g, i, none⟩ = some (.int .i64 (A.getD i 0)) := by
  simp [World.cell?, h.hp, vi12, hi, List.getD]
theorem Rb12.cell {w : World} {g : Nat} {A : List Bool} (h : Rb12 w g A) {i : Nat} (hi : i < A.length) : w.cell? ⟨g, i, none⟩ = some (.bool (A.getD i false)) := by
  simp [World.cell?, h.hp, vb12, hi, List.getD]
theorem Rz12.free {w : World} {g : Nat} {A : List Int} (h : Rz12 w g A) (i : Nat) : w.frozen? ⟨g, i, none⟩ = false := by simp [World.frozen?, h.hp]
theorem Rb12.free {w : World} {g : Nat} {A : List Bool} (h : Rb12 w g A) (i : Nat) : w.frozen? ⟨g, i, none⟩ = false := by simp [World.frozen?, h.hp]
theorem Rz12.set {w : World} {g : Nat} {A : List Int} (h : Rz12 w g A) (i : Nat) (x : Int) : Rz12 (w.setCell ⟨g, i, none⟩ (.int .i64 x)) g (A.set i x) := by
  refine ⟨?_⟩
  simp [World.setCell, Array.getElem?_modify, h.hp, vi12, List.map_set]
theorem Rb12.set {w : World} {g : Nat} {A : List Bool} (h : Rb12 w g A) (i : Nat) (x : Bool) : Rb12 (w.setCell ⟨g, i, none⟩ (.bool x)) g (A.set i x) := by
  refine ⟨?_⟩
  simp [World.setCell, Array.getElem?_modify, h.hp, vb12, List.map_set]
theorem Rz12.kp {w w' : World} {S : Nat → Prop} {g : Nat} {A : List Int} (h : Rz12 w g A) (hk : Kp S w w') (hn : ¬ S g) : Rz12 w' g A := ⟨hk.heap h.hp hn⟩
theorem Rb12.kp {w w' : World} {S : Nat → Prop} {g : Nat} {A : List Bool} (h : Rb12 w g A) (hk : Kp S w w') (hn : ¬ S g) : Rb12 w' g A := ⟨hk.heap h.hp hn⟩
theorem Rz12.old {w w' : World} {g : Nat} {A : List Int} (h : Rz12 w g A) (hb : Below w.heap.size w w') : Rz12 w' g A := ⟨(hb.block g h.lt).trans h.hp⟩
theorem Rb12.old {w w' : World} {g : Nat} {A : List Bool} (h : Rb12 w g A) (hb : Below w.heap.size w w') : Rb12 w' g A := ⟨(hb.block g h.lt).trans h.hp⟩
theorem Rz12.drew {w : World} {g : Nat} {A : List Int} (h : Rz12 w g A) : Rz12 w.drew g A := ⟨h.hp⟩
theorem Rb12.drew {w : World} {g : Nat} {A : List Bool} (h : Rb12 w g A) : Rb12 w.drew g A := ⟨h.hp⟩
theorem Rz12.drewN {w : World} {g : Nat} {A : List Int} (h : Rz12 w g A) (n : Nat) : Rz12 (w.drewN n) g A := ⟨h.hp⟩
theorem Rb12.drewN {w : World} {g : Nat} {A : List Bool} (h : Rb12 w g A) (n : Nat) : Rb12 (w.drewN n) g A := ⟨h.hp⟩
theorem Rz12.seg {w : World} {g : Nat} {A : List Int} (h : Rz12 w g A) (hb : ∀ z ∈ A, -9223372036854775808 ≤ z ∧ z ≤ 9223372036854775807) : SegZ w (some ⟨g, 0, none⟩) A :=
  ⟨fun i hi => ⟨g, 0, rfl, by rw [Nat.zero_add]; exact h.cell hi⟩, getD_bdz hb⟩
theorem Rb12.seg {w : World} {g : Nat} {A : List Bool} (h : Rb12 w g A) : SegB w (some ⟨g, 0, none⟩) A :=
  ⟨fun i hi => ⟨g, 0, rfl, by rw [Nat.zero_add]; exact h.cell hi⟩⟩
theorem Rz12.own {w : World} {g base : Nat} {A : List Int} (h : Rz12 w g A) (hb : base ≤ g) (hl : A.length ≤ 140737488355328) : w.ownsRow base 3 1 (.slice (some ⟨g, 0, none⟩) A.length A.length) A.length (A.map (Value.int .i64)) :=
  ⟨by simp, .inr ⟨g, A.length, _, rfl, hb, h.hp, Nat.le_refl _, by unfold maxLen; omega, by simp [vi12], by simp [vi12, List.take_of_length_le]⟩⟩
theorem Rb12.own {w : World} {g base : Nat} {A : List Bool} (h : Rb12 w g A) (hb : base ≤ g) (hl : A.length ≤ 140737488355328) : w.ownsRow base 4 1 (.slice (some ⟨g, 0, none⟩) A.length A.length) A.length (A.map Value.bool) :=
  ⟨by simp, .inr ⟨g, A.length, _, rfl, hb, h.hp, Nat.le_refl _, by unfold maxLen; omega, by simp [vb12], by simp [vb12, List.take_of_length_le]⟩⟩
theorem getD_set12 {α : Type} {d : α} (A : List α) (i : Nat) (x : α) (k : Nat) (hi : i < A.length) : (A.set i x).getD k d = if k = i then x else A.getD k d := by
  simp only [List.getD, List.getElem?_set]
  by_cases e : i = k
  · subst e; simp [hi]
  · have e' : ¬ k = i := fun h => e h.symm
    simp [e, e']
theorem ext12 {α : Type} {d : α} {A B : List α} (hl : A.length = B.length) (h : ∀ i, i < A.length → A.getD i d = B.getD i d) : A = B := by
  refine List.ext_getElem hl fun i h1 h2 => ?_
  have := h i h1
  simpa [List.getD, h1, h2] using this
theorem wpList_ap12 {P : Program} {ops : Array Oper} {rest : List Oper} {o : Oper} {a : Act} {Q : Exit → Act → World → Prop} (hgd : o.guard = none) (s x : Operand) (t : TypeId)
    (ho : o.op = .call { callee := .builtin .append, args := #[s, x], argTypes := #[t, t] })
    (base : Nat) (e : TypeId) (i : TypeInfo) (z : Value) (bytes : Nat) (ht : P.underlying t = some (.slice e)) (hi : P.info? e = some i) (hz : i.zero = some z)
    (hsize : i.size = 1) (hby : i.bytes = bytes) (hzs : z.cells.size = 1) (w0 : World) (y : Int)
    {ra : Option Addr} {n rc : Nat} {l : List Int} (hown : w0.ownsRow base e 1 (.slice ra n rc) n (l.map (Value.int .i64))) (hs : a.eval s = .slice ra n rc) (hx : a.eval x = .slice (some ⟨w0.heap.size, 0, none⟩) 1 1)
    (h63 : n + 1 ≤ 140737488355328) (hbytes : (n + 1) * bytes ≤ 140737488355328) (hbase : base ≤ w0.heap.size)
    (h : ∀ (g : Nat) (c : Nat) (w' : World), w'.ownsRow base e 1 (.slice (some ⟨g, 0, none⟩) (n + 1) c) (n + 1) ((l ++ [y]).map (Value.int .i64)) → Kp (fun k => (Value.slice ra n rc).ownBlock = some k) w0 w' → ((Value.slice ra n rc).ownBlock = some g ∨ g = w0.heap.size + 1) → wpList P ops Q rest (a.put o.dst (.slice (some ⟨g, 0, none⟩) (n + 1) c)) w') : wpList P ops Q (o :: rest) a (w0.alloc (.cells #[.int .i64 y] e)) := by
  have hnew : ∀ j u, ([.int .i64 y] : List Value)[j]? = some u → (w0.alloc (.cells #[.int .i64 y] e)).cell? ((⟨w0.heap.size, 0, none⟩ : Addr).add j) = some u := by
    intro j u hu
    have hadd : (⟨w0.heap.size, 0, none⟩ : Addr).add j = ⟨w0.heap.size, j, none⟩ := by unfold Addr.add; split <;> simp_all
    rw [hadd]
    have hh := heap_alloc_new w0 (.cells #[.int .i64 y] e)
    simp only [World.cell?, hh]
    simpa using hu
  refine wpList_append_lies _ hgd s x t ho base e i z 1 bytes ht hi hz hsize hby hzs (by decide) _ n (l.map (Value.int .i64)) hs (hown.alloc _) ⟨w0.heap.size, 0, none⟩ 1 1 [.int .i64 y] hx rfl hnew (by intro u hu; simp only [List.mem_cons, List.not_mem_nil, or_false] at hu; subst hu; rfl) (by decide) (by unfold maxLen; omega) hbytes (by simp; omega) (w0.heap.size + 1) (by simp) ?_
  intro g c w' h1 h2 h3 _
  refine h g c w' (by rw [List.map_append]; exact h1) ?_ h3
  exact (Kp.alloc w0 _).trans (Kp.grown (S := fun k => (Value.slice ra n rc).ownBlock = some k) h2 (fun i e => e)) (fun _ _ e => e)
def gb12 (L : List Bool) (k : Nat) : Bool := L.getD k false
theorem segB_bd {w : World} {a : Option Addr} {L : List Bool} (h : SegB w a L) : ∀ b off, a = some ⟨b, off, none⟩ → 0 < L.length → b < w.heap.size := by
  intro b off ha hl
  obtain ⟨b', off', ha', hc⟩ := h.at_ 0 hl
  rw [ha] at ha'
  cases ha'
  exact World.block_lt_of_cell? w _ hc
end Go.Proofs.Ytbjjddoeilhomaa

namespace Go.Proofs.Ytbjjddoeilhomaa
open Go.RowKit
set_option linter.unusedVariables false

/-! The landed sais: types, turns, what may be. -/
set_option maxRecDepth 100000 in
set_option maxHeartbeats 400000 in
theorem pist12 (a : Option Addr) (L : List Bool) (n cap i : Nat) (w : World) (hs : SegB w a L) (hn : Hid (L.length = n)) (hi : i < n) (hb : n ≤ 9223372036854775807) :
    Calls Try.prog 102 #[.slice a n cap, .int .i64 (i : Int)] w fun e w' => e = .returned (.bool (tb12 (gb12 L) i)) ∧ Below w.heap.size w w' := by
  have HT : Hid (tb12 (gb12 L) i = (decide (0 < i) && L.getD i false && !L.getD (i - 1) false)) := rfl
  by_cases h0 : i = 0
  · subst h0
    rw [HT.out]
    go_enter Try.func102, Try.ntmps102
    go_wp2
    go_ret
    exact ⟨by simp, Below.refl _ _⟩
  · obtain ⟨b, off, rfl, c1⟩ := hs.at_ i (by rw [hn.out]; exact hi)
    have c2 : w.cell? ⟨b, off + (i - 1), none⟩ = some (.bool (L.getD (i - 1) false)) := by
      obtain ⟨b', off', ha, c⟩ := hs.at_ (i - 1) (by rw [hn.out]; omega)
      cases ha
      exact c
    obtain ⟨p, rfl⟩ : ∃ p, i = p + 1 := ⟨i - 1, by omega⟩
    simp only [Nat.add_sub_cancel] at c2 HT
    have i1 : (p : Int) + 1 < (n : Int) := by omega
    have i2 : (p : Int) < (n : Int) := by omega
    have i0 : (0 : Int) < (p : Int) + 1 := by omega
    generalize L.getD (p + 1) false = x at *
    generalize L.getD p false = y at *
    rw [HT.out]
    cases x
    · go_enter Try.func102, Try.ntmps102
      go_wp2
      go_ret
      exact ⟨by simp, Below.refl _ _⟩
    · go_enter Try.func102, Try.ntmps102
      go_wp2
      go_ret
      exact ⟨by cases y <;> simp, Below.refl _ _⟩
end Go.Proofs.Ytbjjddoeilhomaa

namespace Go.Proofs.Ytbjjddoeilhomaa
open Go.RowKit
set_option linter.unusedVariables false

/-! The landed Types. -/
def tl12 (s : List Int) (k : Nat) : List Bool := (List.range s.length).map (fun j => decide (s.length ≤ j + 1 + k) && sm12 s j)
theorem tl12_len (s : List Int) (k : Nat) : (tl12 s k).length = s.length := by simp [tl12]
theorem tl12_get (s : List Int) (k j : Nat) (h : j < s.length) : (tl12 s k).getD j false = (decide (s.length ≤ j + 1 + k) && sm12 s j) := by simp [tl12, List.getD, h]
theorem tl12_zero (s : List Int) : tl12 s 0 = List.replicate s.length false := by
  refine ext12 (d := false) (by simp [tl12]) fun i hi => ?_
  rw [tl12_len] at hi
  rw [tl12_get s 0 i hi]
  by_cases h : s.length ≤ i + 1 + 0
  · rw [(ty12 s).last i (by omega)]
    simp [List.getD, hi]
  · simp [List.getD, hi, h]
theorem tl12_all (s : List Int) (k : Nat) (h : s.length ≤ k + 1) : tl12 s k = typ12 s := by
  refine ext12 (d := false) (by simp [tl12, typ12]) fun i hi => ?_
  rw [tl12_len] at hi
  rw [tl12_get s k i hi, typ12_get]
  simp
  intro h2; omega
theorem tl12_set (s : List Int) (k i : Nat) (h : s.length = i + 2 + k) : (tl12 s k).set i (sm12 s i) = tl12 s (k + 1) := by
  refine ext12 (d := false) (by simp [tl12]) fun j hj => ?_
  rw [List.length_set, tl12_len] at hj
  rw [getD_set12 _ _ _ _ (by rw [tl12_len]; omega), tl12_get s k j hj, tl12_get s (k + 1) j hj]
  by_cases e : j = i
  · subst e
    rw [if_pos rfl]
    have : s.length ≤ j + 1 + (k + 1) := by omega
    simp [this]
  · rw [if_neg e]
    by_cases h2 : s.length ≤ j + 1 + k
    · have : s.length ≤ j + 1 + (k + 1) := by omega
      simp [h2, this]
    · have : ¬ s.length ≤ j + 1 + (k + 1) := by omega
      simp [h2, this]
set_option maxRecDepth 100000 in
set_option maxHeartbeats 1000000 in
theorem ptyp12 (a : Option Addr) (s : List Int) (n cap : Nat) (w : World) (hs : SegZ w a s) (hn : Hid (s.length = n)) (hb : n ≤ 140737488355328) :
    Calls Try.prog 85 #[.slice a n cap] w fun e w' => e = .returned (.slice (some ⟨w.heap.size, 0, none⟩) n n) ∧ Rb12 w' w.heap.size (typ12 s) ∧ Below w.heap.size w w' := by
  have HM := run_make_b12 n hb
  have HA : Hid (typ12 s = tl12 s (n - 1)) := (tl12_all s (n - 1) (by rw [hn.out]; omega)).symm
  have HZ : Hid (List.replicate n false = tl12 s 0) := by show _ = _; rw [tl12_zero, hn.out]
  have hal : Below w.heap.size w (w.alloc (.cells (vb12 (List.replicate n false)) 4)) := (Below.refl _ _).alloc (Nat.le_refl _) _
  have hr0 := Rb12.new w (List.replicate n false)
  rw [HZ.out] at hal hr0 HM
  generalize hg : w.heap.size = g at *
  generalize hw1 : w.alloc (.cells (vb12 (tl12 s 0)) 4) = w1 at *
  have HM1 : (Instr.makeSlice 110 (.int .i64 (n : Int)) (.int .i64 (n : Int))).run Try.prog w = .ok (.slice (some ⟨g, 0, none⟩) n n) w1 := by rw [HM w, hg, hw1]
  have HG : Hid (g ≤ w1.heap.size ∧ w.heap.size = g) := ⟨by have := hal.size; omega, hg⟩
  clear HM hw1 hg
  go_enter Try.func85, Try.ntmps85
  go_wp2
  go_loopw [12] (fun ti wr => ∃ k : Nat, (k = 0 ∨ k + 1 ≤ n) ∧ ti = .int .i64 k ∧ Rb12 wr g (tl12 s k) ∧ Below g w wr) (fun ti _ => n - (intOf ti).toNat)
  case atStart => exact ⟨0, Or.inl rfl, rfl, hr0, hal⟩
  case round =>
    obtain ⟨k, hk, rfl, hr, hb2⟩ := hrel
    by_cases h1 : k + 1 < n
    · have h1i : (k : Int) < (n : Int) - 1 := by omega
      obtain ⟨i, hi⟩ : ∃ i, n = i + 2 + k := ⟨n - 2 - k, by omega⟩
      have hsg : SegZ wr a s := hs.old (by rw [HG.out.2]; exact hb2)
      obtain ⟨b, off, rfl, c1⟩ := hsg.at_ i (by rw [hn.out]; omega)
      have c2 : wr.cell? ⟨b, off + (i + 1), none⟩ = some (.int .i64 (s.getD (i + 1) 0)) := by
        obtain ⟨b', off', ha, c⟩ := hsg.at_ (i + 1) (by rw [hn.out]; omega)
        cases ha
        exact c
      have bd1 := hsg.bd i
      have bd2 := hsg.bd (i + 1)
      have c3 : wr.cell? ⟨g, i + 1, none⟩ = some (.bool (sm12 s (i + 1))) := by
        rw [hr.cell (by rw [tl12_len, hn.out]; omega), tl12_get s k (i + 1) (by rw [hn.out]; omega)]
        have : s.length ≤ i + 1 + 1 + k := by rw [hn.out]; omega
        simp [this]
      have c4 : wr.cell? ⟨g, i, none⟩ = some (.bool ((tl12 s k).getD i false)) := hr.cell (by rw [tl12_len, hn.out]; omega)
      have f4 := hr.free i
      have HR : Hid (sm12 s i = (decide (s.getD i 0 < s.getD (i + 1) 0) || (decide (s.getD i 0 = s.getD (i + 1) 0) && sm12 s (i + 1)))) := (ty12 s).rc i (by rw [hn.out]; omega)
      have HS : Hid (∀ x, x = sm12 s i → Rb12 (wr.setCell ⟨g, i, none⟩ (.bool x)) g (tl12 s (k + 1))) := by
        intro x hx
        have := hr.set i x
        rw [hx, tl12_set s k i (by rw [hn.out]; omega)] at this
        rw [hx]; exact this
      have HB : Hid (∀ x, Below g w (wr.setCell ⟨g, i, none⟩ x)) := by
        intro x
        exact hb2.trans ((Kp.set (S := fun j => j = g) rfl x).below (fun j h => by omega) (by have := hb2.size; have := HG.out; omega))
      have ei : (n : Int) - 2 - (k : Int) = (i : Int) := by omega
      have in1 : (i : Int) < (n : Int) := by omega
      have in2 : (i : Int) + 1 < (n : Int) := by omega
      have kn : (k : Int) < 140737488355328 := by omega
      generalize s.getD i 0 = x at *
      generalize s.getD (i + 1) 0 = y at *
      generalize sm12 s (i + 1) = z at *
      generalize (tl12 s k).getD i false = u at *
      clear hi hk hr hsg
      rcases Int.lt_trichotomy x y with hx | hx | hx
      · go_wp2
        go_region
        go_wp2
        go_roundw
        case rel => exact ⟨k + 1, Or.inr (by omega), by go_num, (HS.out _ (by rw [HR.out]; simp [hx])).drew, (HB.out _).drew⟩
        case measure => simp [intOf]; omega
      · subst hx
        go_wp2
        go_region
        go_wp2
        go_roundw
        case rel => exact ⟨k + 1, Or.inr (by omega), by go_num, (HS.out _ (by rw [HR.out]; simp)).drew, (HB.out _).drew⟩
        case measure => simp [intOf]; omega
      · have hx1 : ¬ x < y := by omega
        have hx2 : ¬ x = y := by omega
        have hx3 : (x == y) = false := by simp [hx2]
        have hx4 : decide (x = y) = false := by simp [hx2]
        have hx5 : decide (x < y) = false := by simp [hx1]
        clear hx
        go_wp2
        go_region
        go_wp2
        go_roundw
        case rel => exact ⟨k + 1, Or.inr (by omega), by go_num, (HS.out _ (by rw [HR.out]; simp [hx1, hx2])).drew, (HB.out _).drew⟩
        case measure => simp [intOf]; omega
    · have h1i : ¬ (k : Int) < (n : Int) - 1 := by omega
      go_wp2
      go_ret
      refine ⟨rfl, ?_, hb2⟩
      rw [HA.out]
      rcases hk with rfl | hk
      · rw [show n - 1 = 0 by omega]; exact hr
      · rw [show n - 1 = k by omega]; exact hr
end Go.Proofs.Ytbjjddoeilhomaa

namespace Go.Proofs.Ytbjjddoeilhomaa
open Go.RowKit
set_option linter.unusedVariables false

/-! The landed turns, Lms, refusal. -/
def nz12 (l : List Nat) : List Int := l.map (fun j : Nat => (j : Int))
theorem nz12_len (l : List Nat) : (nz12 l).length = l.length := by simp [nz12]
theorem nz12_get (l : List Nat) (i d : Nat) (h : i < l.length) : (nz12 l).getD i 0 = ((l.getD i d : Nat) : Int) := by simp [nz12, List.getD, h]
theorem nz12_inj {a b : List Nat} (h : nz12 a = nz12 b) : a = b := by
  unfold nz12 at h
  exact (List.map_inj_right (fun x y e => by omega)).1 h
def tu12 (f : Nat → Bool) (k : Nat) : List Nat := (List.range k).filter (tb12 f)
theorem tu12_succ (f : Nat → Bool) (k : Nat) : tu12 f (k + 1) = if tb12 f k = true then tu12 f k ++ [k] else tu12 f k := by
  unfold tu12
  rw [List.range_succ, List.filter_append]
  by_cases h : tb12 f k = true
  · simp [h]
  · simp [h]
theorem tu12_le (f : Nat → Bool) (k : Nat) : (tu12 f k).length ≤ k := by
  have := List.length_filter_le (tb12 f) (List.range k)
  simpa [tu12] using this
/-- A row of numbers that a call has made and answers. -/
def AnsZ12 (w : World) (A : List Int) (e : Ending) (w' : World) : Prop := ∃ ra rc, e = .returned (.slice ra A.length rc) ∧ w'.ownsRow w.heap.size 3 1 (.slice ra A.length rc) A.length (A.map (Value.int .i64)) ∧ Below w.heap.size w w'
set_option maxRecDepth 100000 in
set_option maxHeartbeats 1000000 in
theorem ptns12 (a : Option Addr) (L : List Bool) (n cap : Nat) (w : World) (hs : SegB w a L) (hn : Hid (L.length = n)) (hb : n ≤ 17592186044416) :
    Calls Try.prog 91 #[.slice a n cap] w (AnsZ12 w (nz12 (tu12 (gb12 L) n))) := by
  obtain ⟨i0, hi, hz0, hz1, hz2⟩ := info_parts info_i12
  go_enter Try.func91, Try.ntmps91
  go_wp2
  go_loopw [3, 7] (fun to ti wr => ∃ (k m rc : Nat) (ra : Option Addr), k ≤ n ∧ ti = .int .i64 k ∧ to = .slice ra m rc ∧ Hid ((tu12 (gb12 L) k).length = m) ∧ wr.ownsRow w.heap.size 3 1 (.slice ra m rc) m ((nz12 (tu12 (gb12 L) k)).map (Value.int .i64)) ∧ Below w.heap.size w wr) (fun _ ti _ => n - (intOf ti).toNat)
  case atStart => exact ⟨0, 0, 0, none, Nat.zero_le _, rfl, rfl, (by simp [tu12] : _ = _), World.ownsRow_nil _ _ _ _, Below.refl _ _⟩
  case round =>
    obtain ⟨k, m, rc, ra, hk, rfl, rfl, HM, hown, hb2⟩ := hrel
    have hsz : w.heap.size ≤ wr.heap.size := hb2.size
    have hmk : m ≤ k := by rw [← HM.out]; exact tu12_le _ _
    by_cases h1 : k < n
    · have h1i : (k : Int) < (n : Int) := by omega
      have HC := pist12 a L n cap k wr (hs.old hb2) hn h1 (by omega)
      have HS : Hid (tu12 (gb12 L) (k + 1) = if tb12 (gb12 L) k = true then tu12 (gb12 L) k ++ [k] else tu12 (gb12 L) k) := tu12_succ _ k
      generalize tb12 (gb12 L) k = t at *
      generalize tu12 (gb12 L) k = T at *
      cases t
      · go_wp2_with (first | (go_at_call 102; refine HC.mono ?_; rintro e1 w1 ⟨rfl, B1⟩))
        go_roundw
        case rel => exact ⟨k + 1, m, rc, ra, by omega, by go_num, rfl, (by rw [HS.out]; exact HM.out : _ = _), by rw [HS.out]; exact own_below hown B1, hb2.trans (B1.mono hsz)⟩
        case measure => simp [intOf]; omega
      · have hown2 : ∀ w1, Below wr.heap.size wr w1 → w1.ownsRow w.heap.size 3 1 (.slice ra m rc) m ((nz12 T).map (Value.int .i64)) := fun w1 B1 => own_below hown B1
        go_wp2_with (first
          | (go_at_call 102; refine HC.mono ?_; rintro e1 w1 ⟨rfl, B1⟩; have OX := hown2 w1 B1; have hsz1 : w.heap.size ≤ w1.heap.size := Nat.le_trans hsz B1.size)
          | (at_builtin; refine wpList_ap12 rfl (.tmp 13) (.tmp 15) 46 rfl w.heap.size 3 i0 (.int .i64 0) 8 Try.underlying46 hi hz0 hz1 hz2 rfl w1 _ OX rfl rfl (by omega) (by omega) hsz1 ?_; intro ga gc w3 own3 hk3 hat3))
        have B3 : Below w.heap.size w w3 := (hb2.trans (B1.mono hsz)).trans (hk3.below (fun q e => (OX.lt q e).1) hsz1)
        go_roundw
        case rel => exact ⟨k + 1, m + 1, gc, some ⟨ga, 0, none⟩, by omega, by go_num, rfl, (by rw [HS.out]; simp [HM.out] : _ = _), by rw [HS.out]; simpa [nz12] using own3, B3⟩
        case measure => simp [intOf]; omega
    · have h1i : ¬ (k : Int) < (n : Int) := by omega
      obtain rfl : k = n := by omega
      go_wp2
      go_ret
      refine ⟨ra, rc, ?_, ?_, hb2⟩
      · (try rw [nz12_len]); rw [HM.out]; rfl
      · (try rw [nz12_len]); rw [HM.out]; exact hown
end Go.Proofs.Ytbjjddoeilhomaa
