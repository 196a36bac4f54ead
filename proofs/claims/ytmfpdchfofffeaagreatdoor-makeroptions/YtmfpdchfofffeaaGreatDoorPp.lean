import Derived.Test.YtmfpdchfofffeaaGreatDoorPf
import Derived.Test.YtmfpdchfofffeaaGreatDoorPh
import Derived.Test.YtmfpdchfofffeaaGreatDoorPo
import Derived.Laws.OwnMore
namespace Go.Proofs.YtmfpdchfofffeaaGreatDoor
set_option linter.unusedVariables false
abbrev Wy17 := Int × Int × Bool
abbrev Pc17 := Int × List Int × Bool
def wy17 (p : Pc17) : List Wy17 := (List.range p.2.1.length).map fun (i : Nat) => (p.1 + (i : Int), p.2.1.getD i 0, p.2.2)
theorem wy17_len (p : Pc17) : (wy17 p).length = p.2.1.length := by simp [wy17]
theorem wy17_get {p : Pc17} {j : Nat} (h : j < p.2.1.length) : (wy17 p)[j]? = some (p.1 + (j : Int), p.2.1.getD j 0, p.2.2) := by simp [wy17, h]
def ws17 (P : List Pc17) : List Wy17 := P.flatMap wy17
def of17 (P : List Pc17) (i : Nat) : Nat := (ws17 (P.take i)).length
theorem of17_zero (P : List Pc17) : of17 P 0 = 0 := by simp [of17, ws17]
theorem of17_all (P : List Pc17) : of17 P P.length = (ws17 P).length := by simp [of17]
theorem split17 {P : List Pc17} {i : Nat} {p : Pc17} (h : P[i]? = some p) : P = P.take i ++ p :: P.drop (i + 1) := by
  obtain ⟨hi, rfl⟩ := List.getElem?_eq_some_iff.1 h
  have h2 : P.drop i = P[i] :: P.drop (i + 1) := List.drop_eq_getElem_cons hi
  rw [← h2, List.take_append_drop]
theorem of17_succ {P : List Pc17} {i : Nat} {p : Pc17} (h : P[i]? = some p) : of17 P (i + 1) = of17 P i + p.2.1.length := by
  obtain ⟨hi, rfl⟩ := List.getElem?_eq_some_iff.1 h
  unfold of17 ws17
  rw [List.take_succ_eq_append_getElem hi, List.flatMap_append, List.length_append]
  simp [wy17_len]
theorem ws17_get {P : List Pc17} {i j : Nat} {p : Pc17} (h : P[i]? = some p) (hj : j < p.2.1.length) : (ws17 P)[of17 P i + j]? = some (p.1 + (j : Int), p.2.1.getD j 0, p.2.2) := by
  have e : ws17 P = ws17 (P.take i) ++ (wy17 p ++ ws17 (P.drop (i + 1))) := by
    conv => lhs; rw [split17 h]
    unfold ws17
    rw [List.flatMap_append, List.flatMap_cons]
  rw [e]
  unfold of17
  rw [List.getElem?_append_right (by omega), Nat.add_sub_cancel_left, List.getElem?_append_left (by rw [wy17_len]; exact hj)]
  exact wy17_get hj
/-- The pieces of an edit's first n steps, begun at a place. -/
def pc17 (S : List St16) (D X : List Int) (p0 : Int) (k : Nat) : Pc17 :=
  if k % 2 = 0 then (p0 + pl16 S (k / 2), (D.drop (sa16 S (k / 2))).take (ad16 S (k / 2)), true) else (0, (X.drop (sc16 S (k / 2))).take (cp16 S (k / 2)), false)
def pi17 (S : List St16) (D X : List Int) (p0 : Int) (n : Nat) : List Pc17 := (List.range (2 * n)).map (pc17 S D X p0)
theorem pi17_len (S : List St16) (D X : List Int) (p0 : Int) (n : Nat) : (pi17 S D X p0 n).length = 2 * n := by simp [pi17]
theorem pi17_get {S : List St16} {D X : List Int} {p0 : Int} {n k : Nat} (h : k < 2 * n) : (pi17 S D X p0 n)[k]? = some (pc17 S D X p0 k) := by simp [pi17, h]
theorem pc17_a (S : List St16) (D X : List Int) (p0 : Int) (i : Nat) : pc17 S D X p0 (2 * i) = (p0 + pl16 S i, (D.drop (sa16 S i)).take (ad16 S i), true) := by
  unfold pc17
  rw [if_pos (by omega), show 2 * i / 2 = i by omega]
theorem pc17_c (S : List St16) (D X : List Int) (p0 : Int) (i : Nat) : pc17 S D X p0 (2 * i + 1) = (0, (X.drop (sc16 S i)).take (cp16 S i), false) := by
  unfold pc17
  rw [if_neg (by omega), show (2 * i + 1) / 2 = i by omega]

structure Pt17 where
  S : List St16
  D : List Int
  X : List Int
  pos : Int
  p : Int
def z17 : Pt17 := ⟨[], [], [], 0, 0⟩
/-- The last step is turned. -/
def ml17 (f : St16 → St16) (S : List St16) : List St16 := S.dropLast ++ [f (S.getLastD z16)]
def cpy17 (s : St16) : St16 := (s.1, s.2.1 + 1, s.2.2)
def add17 (s : St16) : St16 := (s.1 + 1, s.2.1, s.2.2)
def sek17 (k : Int) (s : St16) : St16 := (s.1, s.2.1, k)
def Pt17.len (s : Pt17) : Nat := s.D.length + s.X.length
/-- The last step can add at this place. -/
def Pt17.lead (s : Pt17) (to : Int) : Pt17 :=
  if s.S = [] then { s with S := [z16], p := to }
  else if (s.S.getLastD z16).2.1 = 0 ∧ to = s.p then s
  else { s with S := ml17 (sek17 (to - s.p)) s.S ++ [z16], p := to }
def Pt17.ini (s : Pt17) (to : Int) : Pt17 := if s.D = [] then { s with pos := to, p := to } else s
def Pt17.take (s : Pt17) (o : Wy17) : Pt17 :=
  if o.2.2 = true then
    { (s.ini o.1).lead o.1 with S := ml17 add17 ((s.ini o.1).lead o.1).S, D := s.D ++ [o.2.1], p := ((s.ini o.1).lead o.1).p + 1 }
  else { s with S := ml17 cpy17 (if s.S = [] then [z16] else s.S), X := s.X ++ [o.2.1] }
/-- Windows, and the one that is being made. -/
abbrev Cs17 := List Pt17 × Pt17
def cs17 (n : Nat) (c : Cs17) (o : Wy17) : Cs17 := if (c.2.take o).len = n then (c.1 ++ [c.2.take o], z17) else (c.1, c.2.take o)
def cf17 (n : Nat) (L : List Wy17) : Cs17 := L.foldl (cs17 n) ([], z17)
def cw17 (n : Nat) (L : List Wy17) : List Pt17 := if 0 < (cf17 n L).2.len then (cf17 n L).1 ++ [(cf17 n L).2] else (cf17 n L).1
theorem cf17_snoc (n : Nat) (L : List Wy17) (o : Wy17) : cf17 n (L ++ [o]) = cs17 n (cf17 n L) o := by simp [cf17]
theorem lead17_len (s : Pt17) (to : Int) : (s.lead to).D = s.D ∧ (s.lead to).X = s.X ∧ (s.lead to).pos = s.pos := by
  unfold Pt17.lead
  split
  · exact ⟨rfl, rfl, rfl⟩
  · split <;> exact ⟨rfl, rfl, rfl⟩
theorem ini17_len (s : Pt17) (to : Int) : (s.ini to).D = s.D ∧ (s.ini to).X = s.X ∧ (s.ini to).S = s.S := by
  unfold Pt17.ini
  split <;> exact ⟨rfl, rfl, rfl⟩
theorem take17_len (s : Pt17) (o : Wy17) : (s.take o).len = s.len + 1 := by
  unfold Pt17.take Pt17.len
  split
  · simp only [List.length_append, List.length_cons, List.length_nil]
    rw [(lead17_len _ _).2.1, (ini17_len _ _).2.1]; omega
  · simp only [List.length_append, List.length_cons, List.length_nil]; omega
theorem ml17_len {f : St16 → St16} {S : List St16} (h : S ≠ []) : (ml17 f S).length = S.length := by
  unfold ml17
  have := List.length_pos_iff.2 h
  simp; omega
end Go.Proofs.YtmfpdchfofffeaaGreatDoor

namespace Go.Proofs.YtmfpdchfofffeaaGreatDoor
open Go.RowKit Go.Shelf
set_option linter.unusedVariables false
attribute [local go_sem] Oper.semAt_some
set_option maxRecDepth 100000 in
theorem ppcs17 (p0 : Int) (sa : Option Addr) (n sc : Nat) (da : Option Addr) (m dc : Nat) (xa : Option Addr) (k xc : Nat) (w : World) : Calls Tryz.prog 60 #[.int .i64 p0, ev16 sa n sc da m dc xa k xc] w fun e w' => e = .returned (.func (.func 91) #[] #[.pointer (some ⟨w.heap.size, 0, none⟩), .pointer (some ⟨w.heap.size + 1, 0, none⟩)]) ∧ Below w.heap.size w w' ∧ w'.heap.size = w.heap.size + 2 ∧ w'.heap[w.heap.size]? = some (.cells #[.int .i64 p0] 3 (0, 0)) ∧ w'.heap[w.heap.size + 1]? = some (.cells #[.slice sa n sc, .slice da m dc, .slice xa k xc] 48 (0, 0)) := by
  have hb := two_boxes16 w #[.int .i64 p0] 3 #[.slice sa n sc, .slice da m dc, .slice xa k xc] 48
  unfold ev16
  go_enter Tryz.func60, Tryz.ntmps60
  go_wp2
  go_ret
  exact ⟨rfl, hb⟩
/-- A slice that is cut from its front, time after time. -/
def ra17 (a : Option Addr) (c : Nat) (f : Nat → Nat) : Nat → Option Addr × Nat
  | 0 => (a, c)
  | i + 1 => (rs16 (ra17 a c f i).1 (ra17 a c f i).2 (f i), (ra17 a c f i).2 - f i)
/-- Sums. -/
def sm17 (f : Nat → Nat) : Nat → Nat
  | 0 => 0
  | i + 1 => sm17 f i + f i
theorem sm17_a (S : List St16) : ∀ i, sm17 (ad16 S) i = sa16 S i
  | 0 => rfl
  | i + 1 => by simp only [sm17, sa16]; rw [sm17_a S i]
theorem sm17_c (S : List St16) : ∀ i, sm17 (cp16 S) i = sc16 S i
  | 0 => rfl
  | i + 1 => by simp only [sm17, sc16]; rw [sm17_c S i]
theorem sm17_mono (f : Nat → Nat) {i : Nat} : ∀ n, i ≤ n → sm17 f i ≤ sm17 f n
  | 0, h => by have : i = 0 := by omega
               subst this; omega
  | n + 1, h => by
    rcases Nat.lt_or_ge i (n + 1) with h1 | h1
    · have := sm17_mono f (i := i) n (by omega)
      simp only [sm17]
      omega
    · have : i = n + 1 := by omega
      subst this; omega
theorem ra17_seg {V : World} {a : Option Addr} {c : Nat} {f : Nat → Nat} {L : List Int} (h : Seg V a L) (hc : L.length ≤ c) : ∀ i, sm17 f i ≤ L.length → Seg V (ra17 a c f i).1 (L.drop (sm17 f i)) ∧ (L.drop (sm17 f i)).length ≤ (ra17 a c f i).2 ∧ ∀ x off, (ra17 a c f i).1 = some ⟨x, off, none⟩ → 0 < (L.drop (sm17 f i)).length → ∃ o, a = some ⟨x, o, none⟩
  | 0, _ => by
    refine ⟨by simpa [sm17, ra17] using h, by simpa [sm17, ra17] using hc, fun x off e _ => ⟨off, e⟩⟩
  | i + 1, hi => by
    simp only [sm17] at hi
    obtain ⟨h1, h2, h3⟩ := ra17_seg (f := f) h hc i (by omega)
    have hl : f i ≤ (L.drop (sm17 f i)).length := by rw [List.length_drop]; omega
    obtain ⟨s1, s2⟩ := seg_rs16 (c := (ra17 a c f i).2) h1 hl h2
    have e1 : L.drop (sm17 f (i + 1)) = (L.drop (sm17 f i)).drop (f i) := by simp only [sm17]; rw [List.drop_drop]
    rw [e1]
    refine ⟨s1, ?_, fun x off e hx => ?_⟩
    · show _ ≤ (ra17 a c f i).2 - f i
      rw [List.length_drop]; omega
    · obtain ⟨o, ho⟩ := s2 x off e hx
      exact h3 x o ho (by rw [List.length_drop] at hx; omega)
/-- What is told of the k-th piece. -/
def pv17 (S : List St16) (da : Option Addr) (dc : Nat) (xa : Option Addr) (xc : Nat) (p0 : Int) (k : Nat) : Array Value :=
  if k % 2 = 0 then #[.agg #[.int .i64 (p0 + pl16 S (k / 2)), .slice (ra17 da dc (ad16 S) (k / 2)).1 (ad16 S (k / 2)) (ra17 da dc (ad16 S) (k / 2)).2, .bool true]]
  else #[.agg #[.int .i64 0, .slice (ra17 xa xc (cp16 S) (k / 2)).1 (cp16 S (k / 2)) (ra17 xa xc (cp16 S) (k / 2)).2, .bool false]]
def pL17 (S : List St16) (da : Option Addr) (dc : Nat) (xa : Option Addr) (xc : Nat) (p0 : Int) (n : Nat) : List (Array Value) := (List.range (2 * n)).map (pv17 S da dc xa xc p0)
theorem heap_drewN17 (W : World) : ∀ n, (W.drewN n).heap = W.heap :=
  fun _ => rfl
variable {S : List St16} {da : Option Addr} {dc : Nat} {xa : Option Addr} {xc : Nat} {p0 : Int}
theorem pL17_len (n : Nat) : (pL17 S da dc xa xc p0 n).length = 2 * n := by simp [pL17]
theorem pL17_a {n i : Nat} (h : i < n) : (pL17 S da dc xa xc p0 n)[2 * i]? = some #[.agg #[.int .i64 (p0 + pl16 S i), .slice (ra17 da dc (ad16 S) i).1 (ad16 S i) (ra17 da dc (ad16 S) i).2, .bool true]] := by
  have : 2 * i < 2 * n := by omega
  simp [pL17, this, pv17]
theorem pL17_c {n i : Nat} (h : i < n) : (pL17 S da dc xa xc p0 n)[2 * i + 1]? = some #[.agg #[.int .i64 0, .slice (ra17 xa xc (cp16 S) i).1 (cp16 S i) (ra17 xa xc (cp16 S) i).2, .bool false]] := by
  have : 2 * i + 1 < 2 * n := by omega
  have e1 : (2 * i + 1) % 2 ≠ 0 := by omega
  have e2 : (2 * i + 1) / 2 = i := by omega
  simp [pL17, this, pv17, e2]
set_option maxRecDepth 100000 in
set_option maxHeartbeats 4000000 in
theorem ps17 (q : Nat) (hq : 2 ≤ q) (Bp B : Nat) (R : Nat → Prop) {sa : Option Addr} {n sc m k : Nat} {D X : List Int} (w : World) (hBp : w.heap[Bp]? = some (.cells #[.int .i64 p0] 3 (0, 0))) (hB : w.heap[B]? = some (.cells #[.slice sa n sc, .slice da m dc, .slice xa k xc] 48 (0, 0))) (h : Ed16 w sa n S da m D xa k X) (hok : Hid (Ok16 S n)) (hsa : Hid (sa16 S n = m)) (hsc : Hid (sc16 S n = k)) (hdc : m ≤ dc) (hxc : k ≤ xc) (hp0 : 0 ≤ p0 ∧ p0 ≤ 16777216)
    (hRP : R Bp) (hRB : R B) (hRs : ∀ b off, sa = some ⟨b, off, none⟩ → 0 < S.length → R b) :
    Seq16 q Tryz.prog 91 #[.pointer (some ⟨Bp, 0, none⟩), .pointer (some ⟨B, 0, none⟩)] (pL17 S da dc xa xc p0 n) R w := by
  intro l J PX W hW hJ hP hY h0
  have hBW := hW.heap hB hRB
  have hPW := one_cell16 (hW.heap hBp hRP)
  have hsW := h.ss.kr hW hRs
  have hn : Hid (S.length = n) := h.hn
  have hln := h.ln
  have hlm := h.lm
  have hlk := h.lk
  have d0 := three_cell0 hBW
  have d1 := three_cell1 hBW
  have d2 := three_cell2 hBW
  have HRA : Hid (∀ i, i ≤ n → m - sa16 S i ≤ (ra17 da dc (ad16 S) i).2 ∧ k - sc16 S i ≤ (ra17 xa xc (cp16 S) i).2) := fun i hi => by
    have e1 := sm17_mono (ad16 S) n hi
    have e2 := sm17_mono (cp16 S) n hi
    have t1 := (ra17_seg (f := ad16 S) h.sd (by rw [h.hm]; exact hdc) i (by rw [h.hm, ← hsa.out, ← sm17_a]; exact e1)).2.1
    have t2 := (ra17_seg (f := cp16 S) h.sx (by rw [h.hk]; exact hxc) i (by rw [h.hk, ← hsc.out, ← sm17_c]; exact e2)).2.1
    rw [List.length_drop, sm17_a, h.hm] at t1
    rw [List.length_drop, sm17_c, h.hk] at t2
    exact ⟨t1, t2⟩
  clear hBp hB h
  refine callsIn_of_wp Tryz.func91 rfl trivial ?_ rfl
  simp only [Tryz.ntmps91, List.size_toArray, List.length_cons, List.length_nil, Nat.reduceAdd, Nat.reduceSub, Array.replicate_succ, Array.replicate_zero, List.push_toArray, List.append_toArray, List.nil_append, List.cons_append]
  gi_wp2
  refine wpIn_wide.2 ?_
  go_quiet (fail)
  have bq : Below W.heap.size W (W.drewN nq) := below_drewN16 (Below.refl _ _) nq
  have eq : (W.drewN nq).heap = W.heap := heap_drewN17 W nq
  have hs0 : SegS (W.drewN nq) sa S := hsW.old bq
  have c0 : (W.drewN nq).cell? ⟨B, 0, none⟩ = some (.slice sa n sc) := three_cell0 (by rw [eq]; exact hBW)
  have hj0 : J 0 (fun _ => False) (W.drewN nq) := hJ 0 _ _ W _ h0 (fun k hk => hk.elim) (Kp.of_below bq) (fun k hk => hk.elim) (fun k hk => hk.elim) (fun k hk => hk.elim)
  have k0 : Kr16 R W (W.drewN nq) := ⟨bq.size, fun k hk _ => bq.block k hk⟩
  generalize W.drewN nq = W0 at hs0 c0 hj0 k0 ⊢
  clear d0 d1 d2 hPW hBW hsW h0 bq eq
  gi_wp2
  gi_loopw [4, 5, 6, 17] (fun t4 t5 t6 t17 wr => ∃ (i : Nat) (E : Nat → Prop), i ≤ n ∧ t17 = .int .i64 (i : Int) ∧ t4 = .int .i64 (p0 + pl16 S i) ∧ t5 = .slice (ra17 da dc (ad16 S) i).1 (m - sa16 S i) (ra17 da dc (ad16 S) i).2 ∧ t6 = .slice (ra17 xa xc (cp16 S) i).1 (k - sc16 S i) (ra17 xa xc (cp16 S) i).2 ∧ J (2 * i) E wr ∧ Lo16 W.heap.size E wr ∧ Kr16 R W0 wr ∧ Kr16 R W wr) (fun _ _ _ t17 _ => n - (intOf t17).toNat)
  case atStart => exact ⟨0, fun _ => False, Nat.zero_le _, rfl, by simp [pl16], rfl, rfl, hj0, fun k hk => hk.elim, Kr16.refl _ _, k0⟩
  case round =>
    obtain ⟨i, E, hi, rfl, rfl, rfl, rfl, hJi, hlo, hkr0, hkr⟩ := hrel
    by_cases hlt : i < n
    · have hii : (i : Int) < (n : Int) := by omega
      have hi0 : (0 : Int) ≤ (i : Int) := by omega
      have hil : i < S.length := by rw [hn.out]; exact hlt
      obtain ⟨b, off, rfl, hT⟩ := (hs0.kr hkr0 hRs).at_ i hil
      have hc0 := hT.c0
      have hc1 := hT.c1
      have hc2 := hT.c2
      obtain ⟨q1, q2, q3, q4, q5, q6⟩ := ad16_le hok.out hlt
      obtain ⟨p1, p2, p3, p4⟩ := sa16_le i (hok.out.mono hi)
      have hmo := sa16_mono (S := S) (i := i + 1) n (by omega)
      rw [hsa.out, hsc.out] at hmo
      have hmo2 : sa16 S (i + 1) = sa16 S i + ad16 S i ∧ sc16 S (i + 1) = sc16 S i + cp16 S i := ⟨rfl, rfl⟩
      have HPL : Hid (pl16 S (i + 1) = pl16 S i + (ad16 S i : Int) + sk16 S i) := rfl
      have hg1 := pL17_a (S := S) (da := da) (dc := dc) (xa := xa) (xc := xc) (p0 := p0) hlt
      have hg2 := pL17_c (S := S) (da := da) (dc := dc) (xa := xa) (xc := xc) (p0 := p0) hlt
      have hra := HRA.out i hi
      have HR1 : Hid (ra17 da dc (ad16 S) (i + 1) = (rs16 (ra17 da dc (ad16 S) i).1 (ra17 da dc (ad16 S) i).2 (ad16 S i), (ra17 da dc (ad16 S) i).2 - ad16 S i)) := rfl
      have HR2 : Hid (ra17 xa xc (cp16 S) (i + 1) = (rs16 (ra17 xa xc (cp16 S) i).1 (ra17 xa xc (cp16 S) i).2 (cp16 S i), (ra17 xa xc (cp16 S) i).2 - cp16 S i)) := rfl
      have hsk : (S.getD i z16).2.2 = sk16 S i := rfl
      rw [← q3] at hc0
      rw [← q4] at hc1
      rw [hsk] at hc2
      obtain ⟨wA, hwA⟩ : ∃ wA, wA = wr.alloc (.cells #[.int .i64 (ad16 S i : Int), .int .i64 (cp16 S i : Int), .int .i64 (sk16 S i)] 108) := ⟨_, rfl⟩
      have tA : SpAt wA wr.heap.size 0 ((ad16 S i : Int), (cp16 S i : Int), sk16 S i) := boxS hwA
      have bA : Below wr.heap.size wr wA := by rw [hwA]; exact below_box16 _ _
      have szA : wA.heap.size = wr.heap.size + 1 := by rw [hwA]; simp
      obtain ⟨E', hE'⟩ : ∃ E' : Nat → Prop, E' = fun k => E k ∨ k = wr.heap.size := ⟨_, rfl⟩
      have hszr := hkr.size
      have hlo' : Lo16 W.heap.size E' wA := by
        intro k hk
        rw [hE'] at hk
        rcases hk with hk | hk
        · have := hlo k hk; omega
        · omega
      have hJA : J (2 * i) E' wA := hJ _ E E' wr wA hJi hlo (Kp.of_below bA) (fun k hk => by rw [hE']; exact .inl hk) (fun k hk => by rw [hE'] at hk; rcases hk with hk | hk; exact .inl hk; exact .inr (by omega)) hlo'
      have hkA : Kr16 R W wA := hkr.trans ⟨bA.size, fun k hk _ => bA.block k hk⟩
      have hkA0 : Kr16 R W0 wA := hkr0.trans ⟨bA.size, fun k hk _ => bA.block k hk⟩
      have hEB : E' wr.heap.size := by rw [hE']; exact .inr rfl
      obtain ⟨fn, tmps, assign, body, hy, hR⟩ := hY _ _ E' wA hg1 hJA hlo' hkA
      have HY2 : Hid (∀ W3, J (2 * i + 1) E' W3 → Kr16 (fun k => E' k ∨ R k) wA W3 → YieldAt Fence.wide (q - 1) Tryz.prog l #[.agg #[.int .i64 0, .slice (ra17 xa xc (cp16 S) i).1 (cp16 S i) (ra17 xa xc (cp16 S) i).2, .bool false]] W3 (Yd16 J PX (2 * i + 1) E' (fun k => E' k ∨ R k) W3)) := fun W3 j3 k3 =>
        hY _ _ E' W3 hg2 j3 (fun k hk => ⟨(hlo' k hk).1, Nat.lt_of_lt_of_le (hlo' k hk).2 k3.size⟩) (hkA.trans (k3.mono fun k hk => .inr hk))
      have hol := tA.lt
      have HTA : Hid (∀ W3, Kr16 (fun k => E' k ∨ R k) wA W3 → SpAt W3 wr.heap.size 0 ((ad16 S i : Int), (cp16 S i : Int), sk16 S i)) := fun W3 h3 => tA.of_block (h3.block _ hol (.inl hEB))
      have a0 := tA.c0
      have a1 := tA.c1
      have a2 := tA.c2
      have HLO : Hid (Lo16 W.heap.size E' wA) := hlo'
      have HKA : Hid (Kr16 R W wA) := hkA
      have HKA0 : Hid (Kr16 R W0 wA) := hkA0
      rw [hwA] at hy a0 a1 a2
      have HWA : Hid (wA = wr.alloc (.cells #[.int .i64 (ad16 S i : Int), .int .i64 (cp16 S i : Int), .int .i64 (sk16 S i)] 108)) := hwA
      have HSA : Hid (sa16 S (i + 1) = sa16 S i + ad16 S i ∧ sc16 S (i + 1) = sc16 S i + cp16 S i) := hmo2
      obtain ⟨dl, hdl⟩ : ∃ dl, dl = m - sa16 S i := ⟨_, rfl⟩
      obtain ⟨xl, hxl⟩ : ∃ xl, xl = k - sc16 S i := ⟨_, rfl⟩
      have hd2 : m - sa16 S (i + 1) = dl - ad16 S i := by omega
      have hx2 : k - sc16 S (i + 1) = xl - cp16 S i := by omega
      have b1 : ad16 S i ≤ dl ∧ cp16 S i ≤ xl := by omega
      have HD2 : Hid (m - sa16 S (i + 1) = dl - ad16 S i) := hd2
      have HX2 : Hid (k - sc16 S (i + 1) = xl - cp16 S i) := hx2
      rw [← hdl, ← hxl] at hra ⊢
      clear hT hg1 hg2 hsk tA bA szA hE' hlo' hJA hkA hkA0 hJi hwA q3 q4 hlo hkr hkr0 hmo hmo2 hdl hxl hd2 hx2 HSA hszr
      generalize hpl : pl16 S i = p at *
      generalize hai : ad16 S i = ai at *
      generalize hci : cp16 S i = ci at *
      generalize hsi : sk16 S i = si at *
      generalize hr1 : ra17 da dc (ad16 S) i = r1 at *
      generalize hr2 : ra17 xa xc (cp16 S) i = r2 at *
      clear hpl hai hci hsi hr1 hr2
      obtain ⟨ua, uc⟩ := r1
      obtain ⟨va, vc⟩ := r2
      simp only at *
      have b2 : (ai : Int) ≤ (uc : Int) := by omega
      have b3 : (ci : Int) ≤ (vc : Int) := by omega
      have b4 : (ai : Int) ≤ (dl : Int) := by omega
      have b5 : (ci : Int) ≤ (xl : Int) := by omega
      have b6 : ai ≤ uc := by omega
      have b7 : ci ≤ vc := by omega
      have ai0 : (0 : Int) ≤ (ai : Int) := by omega
      have ci0 : (0 : Int) ≤ (ci : Int) := by omega
      gi_wp2
      refine ⟨fun _ => by omega, ?_⟩
      rw [← HWA.out]
      refine hR.mono ?_
      rintro e W3 hyd
      cases e with
      | returned v =>
        obtain ⟨rfl, hJ3, hk3⟩ := hyd
        obtain ⟨e0, e1, e2⟩ := HTA.out W3 hk3
        simp only at e0 e1 e2
        obtain ⟨fn2, tmps2, assign2, body2, hy2, hR2⟩ := HY2.out W3 hJ3 hk3
        have HK3 : Hid (Kr16 (fun k => E' k ∨ R k) wA W3) := hk3
        clear hJ3 hk3 hR hy a0 a1 a2 HWA HY2
        gi_wp2
        refine ⟨fun _ => by omega, ?_⟩
        refine hR2.mono ?_
        rintro e W4 hyd
        cases e with
        | returned v =>
          obtain ⟨rfl, hJ4, hk4⟩ := hyd
          have hk5 := HK3.out.trans hk4
          obtain ⟨f0, f1, f2⟩ := HTA.out W4 hk5
          simp only at f0 f1 f2
          have HJ4 : Hid (J (2 * i + 1 + 1) E' W4) := hJ4
          have HL4 : Hid (Lo16 W.heap.size E' W4) := fun k hk => ⟨(HLO.out k hk).1, Nat.lt_of_lt_of_le (HLO.out k hk).2 hk5.size⟩
          have HK4 : Hid (Kr16 R W0 W4 ∧ Kr16 R W W4) := ⟨HKA0.out.trans (hk5.mono fun k hk => .inr hk), HKA.out.trans (hk5.mono fun k hk => .inr hk)⟩
          clear hJ4 hk4 hk5 hR2 hy2 HTA HLO HKA HKA0 HK3 e0 e1 e2
          have hw1 : IntKind.i64.wrap (p0 + p + (ai : Int)) = p0 + p + (ai : Int) := IntWalk.i64_in _ (by omega)
          have hw2 : IntKind.i64.wrap (p0 + p + (ai : Int) + si) = p0 + p + (ai : Int) + si := IntWalk.i64_in _ (by omega)
          gi_wp2
          refine wpIn_wide.2 ?_
          go_quiet (fail)
          have HB4 : Hid (Below W4.heap.size W4 (W4.drewN nq)) := below_drewN16 (Below.refl _ _) nq
          generalize W4.drewN nq = W5 at HB4 ⊢
          gi_wp2
          go_roundw
          case rel =>
            have hb := HB4.out
            refine ⟨i + 1, E', by omega, by simp, by rw [HPL.out]; congr 1; omega, by rw [HR1.out, HD2.out]; rfl, by rw [HR2.out, HX2.out]; rfl, ?_, ?_, HK4.out.1.trans ⟨hb.size, fun k hk _ => hb.block k hk⟩, HK4.out.2.trans ⟨hb.size, fun k hk _ => hb.block k hk⟩⟩
            · exact hJ _ E' E' W4 W5 HJ4.out HL4.out (Kp.of_below hb) (fun k hk => hk) (fun k hk => .inl hk) (fun k hk => ⟨(HL4.out k hk).1, Nat.lt_of_lt_of_le (HL4.out k hk).2 hb.size⟩)
            · exact fun k hk => ⟨(HL4.out k hk).1, Nat.lt_of_lt_of_le (HL4.out k hk).2 hb.size⟩
          case measure => simp [intOf]; omega
        | panicked ch =>
          obtain ⟨hx, hk3⟩ := hyd
          have hk5 := HK3.out.trans hk3
          have HL3 : Hid (Lo16 W.heap.size E' W4) := fun k hk => ⟨(HLO.out k hk).1, Nat.lt_of_lt_of_le (HLO.out k hk).2 hk5.size⟩
          have HX : Hid (PX ch E' W4) := hx
          clear hx hk3 hk5 hR2 hy2 HTA HLO HKA HKA0
          gi_wp2
          exact ⟨rfl, E', HL3.out, HX.out⟩
        | outgrown => exact hyd.elim
      | panicked ch =>
        obtain ⟨hx, hk3⟩ := hyd
        have HL3 : Hid (Lo16 W.heap.size E' W3) := fun k hk => ⟨(HLO.out k hk).1, Nat.lt_of_lt_of_le (HLO.out k hk).2 hk3.size⟩
        have HX : Hid (PX ch E' W3) := hx
        clear hx hk3 hR hy HTA HLO HKA HKA0
        gi_wp2
        exact ⟨rfl, E', HL3.out, HX.out⟩
      | outgrown => exact hyd.elim
    · have hk2 : i = n := by omega
      have hneg : ¬ (i : Int) < (n : Int) := by omega
      have HJ : Hid (J (pL17 S da dc xa xc p0 n).length E wr) := by show J _ _ _; rw [pL17_len, ← hk2]; exact hJi
      clear hk2 hJi
      gi_wp2
      go_end0
      exact ⟨E, hlo, HJ.out⟩
end Go.Proofs.YtmfpdchfofffeaaGreatDoor

namespace Go.Proofs.YtmfpdchfofffeaaGreatDoor
open Go.RowKit Go.Shelf
set_option linter.unusedVariables false
attribute [local go_sem] Oper.semAt_some
set_option maxRecDepth 100000 in
theorem pwys17 (fv : Value) (w : World) (hf : ∃ g lb, fv = .func (.func g) #[] lb) : Calls Tryz.prog 59 #[fv] w fun e w' => e = .returned (.func (.func 90) #[] #[.pointer (some ⟨w.heap.size, 0, none⟩)]) ∧ Cb16 w #[fv] 121 w' := by
  obtain ⟨g, lb, rfl⟩ := hf
  go_enter Tryz.func59, Tryz.ntmps59
  go_wp2
  go_ret
  exact ⟨rfl, cb16 _ _ _⟩
def wv17 (o : Wy17) : Value := .agg #[.int .i64 o.1, .int .u8 o.2.1, .bool o.2.2]
def wL17 (l : List Wy17) : List (Array Value) := l.map fun o => #[wv17 o]
theorem wL17_len (l : List Wy17) : (wL17 l).length = l.length := by simp [wL17]
theorem wL17_get {l : List Wy17} {i : Nat} {o : Wy17} (h : l[i]? = some o) : (wL17 l)[i]? = some #[wv17 o] := by simp [wL17, h]
/-- A piece that is told lies in memory. -/
structure Pv17 (w : World) (R : Nat → Prop) (v : Array Value) (p : Pc17) : Prop where
  lies : ∃ a cap, v = #[.agg #[.int .i64 p.1, .slice a p.2.1.length cap, .bool p.2.2]] ∧ Seg w a p.2.1 ∧ ∀ b off, a = some ⟨b, off, none⟩ → 0 < p.2.1.length → R b
  bd : -1152921504606846976 ≤ p.1 ∧ p.1 ≤ 1152921504606846976
  ln : p.2.1.length ≤ 1073741824
/-- The state of ways' own loop. -/
structure Wi17 (W : World) (J : Nat → (Nat → Prop) → World → Prop) (R : Nat → Prop) (l bY N : Nat) (P : List Pc17) (i : Nat) (E F : Nat → Prop) (V : World) : Prop where
  ef : ∀ k, E k → F k
  fY : F bY
  lo : Lo16 W.heap.size F V
  j : J (of17 P i) F V
  hY : V.heap[bY]? = some (.cells #[.func (.yield l) #[] #[]] 154 (0, 0))
  kr : Kr16 R W V
  sz : N ≤ V.heap.size
theorem Wi17.step {W : World} {J : Nat → (Nat → Prop) → World → Prop} {R : Nat → Prop} {l bY N : Nat} {P : List Pc17} {i : Nat} {E E' F : Nat → Prop} {V V' : World} (hJ : Abd16 W.heap.size J) (hN : W.heap.size ≤ N) (hRl : ∀ k, R k → k < W.heap.size)
    (hl : bY < N) (h : Wi17 W J R l bY N P i E F V) (hlo : Lo16 N E V) (hk : Kp E V V') (h1 : ∀ k, E k → E' k) (h2 : ∀ k, E' k → E k ∨ V.heap.size ≤ k) (h3 : Lo16 N E' V') (G : Nat → Prop) (hG : ∀ k, G k → V.heap.size ≤ k ∧ k < V'.heap.size) : Wi17 W J R l bY N P i E' (fun k => (F k ∨ E' k) ∨ G k) V' := by
  have hs := hk.size
  have hkr : Kr16 (fun k => R k ∨ k = bY) V V' := Kr16.of_kp hk (by
    rintro k (x | x) e
    · have := hRl k x; have := hlo k e; omega
    · have := hlo k e; omega)
  have lo2 : Lo16 W.heap.size (fun k => (F k ∨ E' k) ∨ G k) V' := by
    have := h.sz
    rintro k ((x | x) | x)
    · have := h.lo k x; omega
    · have := h3 k x; omega
    · have := hG k x; omega
  refine ⟨fun k x => .inl (.inr x), .inl (.inl h.fY), lo2, ?_, hkr.heap h.hY (.inr rfl), h.kr.trans (hkr.mono fun k x => .inl x), by have := h.sz; omega⟩
  refine hJ _ F _ V V' h.j h.lo (hk.mono fun k _ x => h.ef k x) (fun k x => .inl (.inl x)) ?_ lo2
  rintro k ((x | x) | x)
  · exact .inl x
  · rcases h2 k x with y | y
    · exact .inl (h.ef k y)
    · exact .inr y
  · exact .inr (hG k x).1
theorem yb17 (P : List Pc17) {i j : Nat} {p : Pc17} (h : P[i]? = some p) (hj : j < p.2.1.length) : (wL17 (ws17 P))[of17 P i + j]? = some #[.agg #[.int .i64 (p.1 + (j : Int)), .int .u8 (p.2.1.getD j 0), .bool p.2.2]] := wL17_get (ws17_get h hj)
set_option maxRecDepth 100000 in
set_option maxHeartbeats 4000000 in
theorem ww17 (q : Nat) (hq : 2 ≤ q) (B : Nat) (R : Nat → Prop) {gf : Nat} {lb : Array Value} {L : List (Array Value)} {P : List Pc17} (w : World) (eg : ∀ args w, (callFunc gf args).run Tryz.prog w = .ok (.enter gf args) w) (hB : w.heap[B]? = some (.cells #[.func (.func gf) #[] lb] 121 (0, 0))) (SQ : Seq16 5 Tryz.prog gf lb L R w) (hL : L.length = P.length) (hv : ∀ (i : Nat) v p, L[i]? = some v → P[i]? = some p → Pv17 w R v p) (hRB : R B) (hRl : ∀ k, R k → k < w.heap.size) :
    Seq16 q Tryz.prog 90 #[.pointer (some ⟨B, 0, none⟩)] (wL17 (ws17 P)) R w := by
  intro l J PX W hW hJ hP hY h0
  have hBW := one_cell16 (hW.heap hB hRB)
  refine callsIn_of_fn16 Tryz.func90 rfl ?_
  simp only [Tryz.ntmps90, List.size_toArray, List.length_cons, List.length_nil, Nat.reduceAdd, Nat.reduceSub, Array.replicate_succ, Array.replicate_zero, List.push_toArray, List.append_toArray, List.nil_append, List.cons_append]
  refine fn16_seq (fn16_ofP ?_)
  go_wp2
  obtain ⟨W1, hW1⟩ : ∃ W1, W1 = W.alloc (.cells #[.func (.yield l) #[] #[]] 154) := ⟨_, rfl⟩
  have cb1 : Cb16 W #[.func (.yield l) #[] #[]] 154 W1 := by rw [hW1]; exact cb16 _ _ _
  rw [← hW1]
  obtain ⟨bY, hbY⟩ : ∃ bY, bY = W.heap.size := ⟨_, rfl⟩
  have HBY : Hid (bY = W.heap.size) := hbY
  rw [← hbY]
  have hB1 : W1.cell? ⟨B, 0, none⟩ = some (.func (.func gf) #[] lb) := one_cell16 ((cb1.bl.block B (Array.getElem?_eq_some_iff.1 (hW.heap hB hRB)).1).trans (hW.heap hB hRB))
  have hRW : ∀ k, R k → k < W.heap.size := fun k x => Nat.lt_of_lt_of_le (hRl k x) hW.size
  have k1 : Kr16 R W W1 := ⟨cb1.bl.size, fun k hk _ => cb1.bl.block k hk⟩
  have SQ1 := SQ.later (hW.trans k1)
  have z1 := cb1.sz
  have WI0 : Wi17 W J R l bY W1.heap.size P 0 (fun _ => False) (fun k => k = bY) W1 := by
    have hlo : Lo16 W.heap.size (fun k => k = bY) W1 := by
      rintro k x; omega
    refine ⟨fun k x => x.elim, rfl, hlo, ?_, by rw [hbY]; exact cb1.cl, k1, Nat.le_refl _⟩
    rw [of17_zero]
    exact hJ 0 (fun _ => False) _ W W1 h0 (fun k x => x.elim) (.of_below cb1.bl) (fun k x => x.elim) (fun k x => .inr (hlo k x).1) hlo
  have hN : W.heap.size ≤ W1.heap.size := by omega
  have hll : bY < W1.heap.size := by omega
  have hPW : ∀ (i : Nat) v p, L[i]? = some v → P[i]? = some p → Pv17 W R v p := fun i v p x y => by
    have := hv i v p x y
    obtain ⟨a, cap, e1, e2, e3⟩ := this.lies
    exact ⟨⟨a, cap, e1, e2.kr hW e3, e3⟩, this.bd, this.ln⟩
  clear hW1 hbY cb1 SQ hv hB hBW z1
  refine fn16_seq (fn16_ofP ?_)
  go_wp2
  refine fn16_block ?_
  refine range16 (n := 5) (w := W1) Tryz.func90 (gf := gf) (lb := lb) ?_ eg ?_ SQ1 ?_
    (fun i E V => ∃ F, Wi17 W J R l bY W1.heap.size P i E F V) ?_ (fun ch E V => ∃ F, (∀ k, E k → F k) ∧ Lo16 W.heap.size F V ∧ PX ch F V) ?_ ?_ ?_ ?_ ?_
  · rfl
  · intro k hk; have := hRW k hk; omega
  · intro v hv
    obtain ⟨i, hi, rfl⟩ := List.getElem_of_mem hv
    obtain ⟨a, cap, e1, _, _⟩ := (hPW i L[i] P[i] (List.getElem?_eq_getElem hi) (List.getElem?_eq_getElem (by omega))).lies
    rw [e1]; rfl
  · rintro i E E' A A' ⟨F, hF⟩ hlo hk h1 h2 h3
    exact ⟨_, hF.step hJ hN hRW hll hlo hk h1 h2 h3 (fun _ => False) (fun k x => x.elim)⟩
  · rintro ch E E' A A' ⟨F, f1, f2, f3⟩ hlo hk h1 h2 h3
    have lo2 : Lo16 W.heap.size (fun k => F k ∨ E' k) A' := by
      have hs := hk.size
      rintro k (x | x)
      · have := f2 k x; omega
      · have := h3 k x; omega
    refine ⟨fun k => F k ∨ E' k, fun k x => .inr x, lo2, hP ch F _ A A' f3 f2 (hk.mono fun k _ x => f1 k x) (fun k x => .inl x) ?_ lo2⟩
    rintro k (x | x)
    · exact .inl x
    · rcases h2 k x with y | y
      · exact .inl (f1 k y)
      · exact .inr y
  · exact ⟨_, WI0⟩
  · rintro l' i v E V hv ⟨F, hF⟩ hlo hEl hlr hkr
    have hi : i < P.length := by
      have := (List.getElem?_eq_some_iff.1 hv).1
      omega
    have hgp : P[i]? = some P[i] := List.getElem?_eq_getElem hi
    have hpv := hPW i v P[i] hv hgp
    have HOF : Hid (of17 P (i + 1) = of17 P i + P[i].2.1.length) := of17_succ hgp
    have HYB : Hid (∀ j, j < P[i].2.1.length → (wL17 (ws17 P))[of17 P i + j]? = some #[.agg #[.int .i64 (P[i].1 + (j : Int)), .int .u8 (P[i].2.1.getD j 0), .bool P[i].2.2]]) := fun j hj => yb17 P hgp hj
    generalize P[i] = p at *
    obtain ⟨pp, pb, pf⟩ := p
    simp only at HOF HYB
    obtain ⟨⟨a, cap, rfl, hseg, hsr⟩, hpd, hpn⟩ := hpv
    simp only at hseg hsr hpd hpn ⊢
    obtain ⟨m, hm⟩ : ∃ m, m = pb.length := ⟨_, rfl⟩
    rw [← hm] at HOF HYB hsr hpn ⊢
    have HM : Hid (m = pb.length) := hm
    obtain ⟨wA, hwA⟩ : ∃ wA, wA = V.alloc (.cells #[.int .i64 pp, .slice a m cap, .bool pf] 156) := ⟨_, rfl⟩
    have HWA : Hid (V.alloc (.cells #[.int .i64 pp, .slice a m cap, .bool pf] 156) = wA) := hwA.symm
    obtain ⟨os, hos⟩ : ∃ os, os = V.heap.size := ⟨_, rfl⟩
    have HOS : Hid (os = V.heap.size) := hos
    have cA : Cb16 V #[.int .i64 pp, .slice a m cap, .bool pf] 156 wA := by rw [hwA]; exact cb16 _ _ _
    have qA : wA.heap[os]? = some (.cells #[.int .i64 pp, .slice a m cap, .bool pf] 156 (0, 0)) := by rw [hos]; exact cA.cl
    have bA := cA.bl
    have zA := cA.sz
    have hloA : Lo16 W1.heap.size E wA := fun k x => by have := hlo k x; omega
    have OA := hF.step hJ hN hRW hll hlo (Kp.of_below bA) (fun k x => x) (fun k x => .inl x) hloA (fun k => k = os) (fun k x => by omega)
    obtain ⟨FA, hFA, hFAo⟩ : ∃ FA, Wi17 W J R l bY W1.heap.size P i E FA wA ∧ FA os := ⟨_, OA, .inr rfl⟩
    have HEL : Hid (E l') := hEl
    have hl'o : l' < os := by have := hlo l' hEl; omega
    have HLOA : Hid (Lo16 W1.heap.size E wA) := hloA
    have HVA : Hid (Kr16 (fun k => E k ∨ R k) V wA) := ⟨bA.size, fun k hk _ => bA.block k hk⟩
    clear hm hwA hos cA bA zA OA hF hlr hkr hloA hlo hEl SQ1 WI0 hgp hv
    gi_wp2
    rw [HWA.out, ← HOS.out]
    refine As16.mk HVA.out ⟨FA, hFA⟩ (fun V2 hk2 _ _ => ?_)
    have hs2 := hk2.size
    have O2' := hFA.step hJ hN hRW hll HLOA.out (hk2.mono (S' := E) (fun k _ x => by rw [show k = l' from x]; exact HEL.out)) (fun k x => x) (fun k x => .inl x) (fun k x => by have := HLOA.out k x; omega) (fun _ => False) (fun k x => x.elim)
    obtain ⟨F2, O2, F2o⟩ : ∃ F2, Wi17 W J R l bY W1.heap.size P i E F2 V2 ∧ F2 os := ⟨_, O2', .inl (.inl hFAo)⟩
    have q2 := hk2.heap qA (by show ¬ os = l'; omega)
    clear O2' hFA hFAo hk2 hs2 HWA HVA qA
    have a0 := three_cell0 q2
    have a1 := three_cell1 q2
    have a2 := three_cell2 q2
    have hYc := one_cell16 O2.hY
    have hs2 : Seg V2 a pb := hseg.kr O2.kr (by rw [← HM.out]; exact hsr)
    have HO2 : Hid (Wi17 W J R l bY W1.heap.size P i E F2 V2) := O2
    obtain ⟨b0, hb0⟩ : ∃ b0, b0 = of17 P i := ⟨_, rfl⟩
    rw [← hb0] at HYB HOF
    have hj0 : J (b0 + 0) F2 V2 := by rw [hb0]; exact O2.j
    have hF2Y : F2 bY := O2.fY
    have hlo2 := O2.lo
    have hkr2 := O2.kr
    clear O2 hb0 q2 hseg
    gi_wp2
    gi_loopw [11] (fun t11 wr => ∃ j : Nat, j ≤ m ∧ t11 = .int .i64 (j : Int) ∧ J (b0 + j) F2 wr ∧ Kr16 (fun k => F2 k ∨ R k) V2 wr) (fun t11 _ => m - (intOf t11).toNat)
    case atStart => exact ⟨0, Nat.zero_le _, rfl, hj0, Kr16.refl _ _⟩
    case round =>
      obtain ⟨j, hj, rfl, hJj, hkj⟩ := hrel
      have hYw := hkj.cell hYc (.inl hF2Y)
      have e0 := hkj.cell a0 (.inl F2o)
      have e2 := hkj.cell a2 (.inl F2o)
      have hloj : Lo16 W.heap.size F2 wr := fun k x => ⟨(hlo2 k x).1, Nat.lt_of_lt_of_le (hlo2 k x).2 hkj.size⟩
      have hkRj : Kr16 R W wr := hkr2.trans (hkj.mono fun k x => .inr x)
      by_cases hlt : j < m
      · have hji : (j : Int) < (m : Int) := by omega
        have hj0i : (0 : Int) ≤ (j : Int) := by omega
        obtain ⟨b, off, rfl, c1⟩ := (hs2.kr hkj (fun x o e hl => .inr (hsr x o e (by rw [HM.out]; exact hl)))).at_ j (by rw [← HM.out]; omega)
        have hv := hs2.bd j
        obtain ⟨fn, tmps, assign, body, hy, hR⟩ := hY (b0 + j) _ F2 wr (HYB.out j hlt) hJj hloj hkRj
        have hw1 : IntKind.i64.wrap (pp + (j : Int)) = pp + (j : Int) := IntWalk.i64_in _ (by omega)
        have HKJ : Hid (Kr16 (fun k => F2 k ∨ R k) V2 wr) := hkj
        clear hJj hkj hkRj hloj hs2 hsr
        generalize pb.getD j 0 = dv at *
        gi_wp2
        refine (roundIn_any16 hR).mono ?_
        rintro e W4 hyd
        cases e with
        | returned v =>
          obtain ⟨rfl, hJ3, hk3⟩ := hyd
          have HJ3 : Hid (J (b0 + (j + 1)) F2 W4) := hJ3
          have HK3 : Hid (Kr16 (fun k => F2 k ∨ R k) V2 W4) := HKJ.out.trans hk3
          clear hJ3 hk3 hR hy HKJ
          gi_wp2
          go_roundw
          case rel => exact ⟨j + 1, by omega, by simp, HJ3.out, HK3.out⟩
          case measure => simp [intOf]; omega
        | panicked ch =>
          obtain ⟨hx, hk3⟩ := hyd
          have HO := HO2.out
          have HX : Hid (bp16 (fun i E V => ∃ F, Wi17 W J R l bY W1.heap.size P i E F V) (fun ch E V => ∃ F, (∀ k, E k → F k) ∧ Lo16 W.heap.size F V ∧ PX ch F V) i E (fun k => E k ∨ R k) V2 (.panic ch) { tmps := #[], defers := [] } W4) := by
            refine ⟨rfl, ⟨F2, HO.ef, fun k x => ⟨(hlo2 k x).1, Nat.lt_of_lt_of_le (hlo2 k x).2 (HKJ.out.trans hk3).size⟩, hx⟩, (HKJ.out.trans hk3).mono ?_⟩
            rintro k (x | x)
            · exact .inl (HO.ef k x)
            · exact .inr x
          clear hx hk3 hR hy HKJ HO
          gi_wp2
          exact HX.out
        | outgrown => exact hyd.elim
      · have hj2 : j = m := by omega
        subst hj2
        have hneg : ¬ (j : Int) < (j : Int) := by omega
        have HO := HO2.out
        have HF : Hid ((∃ F, Wi17 W J R l bY W1.heap.size P (i + 1) E F wr) ∧ Kr16 (fun k => E k ∨ R k) V2 wr) := by
          refine ⟨⟨F2, HO.ef, HO.fY, hloj, ?_, hkj.heap HO.hY (.inl HO.fY), hkRj, Nat.le_trans HO.sz hkj.size⟩, hkj.mono ?_⟩
          · rw [HOF.out]; exact hJj
          · rintro k (x | x)
            · exact .inl (HO.ef k x)
            · exact .inr x
        clear hJj hkj hloj hkRj HO hs2 hsr hlt hj
        gi_wp2
        exact HF.out
  · rintro Dd E V hED hlo ⟨F, hF⟩ hD
    rw [hL] at hF
    have hlD := hF.ef _ hED
    have hkp : Kp F V (V.putObj Dd (.deferred none)) := Kp.put16 hlD _
    have hlo2 : Lo16 W.heap.size F (V.putObj Dd (.deferred none)) := fun k x => ⟨(hF.lo k x).1, Nat.lt_of_lt_of_le (hF.lo k x).2 hkp.size⟩
    refine ⟨by simp, .inl ⟨_, _, rfl, run_takeDeferred hD, ?_⟩⟩
    refine ⟨_, results_none rfl _ _ _, F, ?_, ?_⟩
    · rw [HBY.out]; exact hlo2
    · rw [wL17_len, ← of17_all]
      exact hJ _ F F V _ hF.j hF.lo hkp (fun k x => x) (fun k x => .inl x) hlo2
  · rintro ch Dd E V hED hlo ⟨F, f1, f2, f3⟩ hD
    have hkp : Kp F V (V.putObj Dd (.deferred none)) := Kp.put16 (f1 _ hED) _
    have hlo2 : Lo16 W.heap.size F (V.putObj Dd (.deferred none)) := fun k x => ⟨(f2 k x).1, Nat.lt_of_lt_of_le (f2 k x).2 hkp.size⟩
    refine ⟨by simp, .inl ⟨_, _, rfl, run_takeDeferred hD, ?_⟩⟩
    refine ⟨F, ?_, ?_⟩
    · rw [HBY.out]; exact hlo2
    · exact hP ch F F V _ f3 f2 hkp (fun k x => x) (fun k x => .inl x) hlo2
end Go.Proofs.YtmfpdchfofffeaaGreatDoor

namespace Go.Proofs.YtmfpdchfofffeaaGreatDoor
open Go.RowKit Go.Shelf
set_option linter.unusedVariables false
structure Pr17 (base bw : Nat) (vS vD vX : Value) (s : Pt17) (w : World) : Prop where
  hp : w.heap[bw]? = some (.cells #[.int .i64 s.pos, vS, vD, vX, .int .i64 s.p] 116 (0, 0))
  oS : w.ownsRow base 108 3 vS s.S.length (flat16 s.S)
  oD : w.ownsRow base 5 1 vD s.D.length (s.D.map (Value.int .u8))
  oX : w.ownsRow base 5 1 vX s.X.length (s.X.map (Value.int .u8))
  nS : vS.ownBlock ≠ some bw
  nD : vD.ownBlock ≠ some bw
  nX : vX.ownBlock ≠ some bw
  sd : ∀ g, vS.ownBlock = some g → vD.ownBlock ≠ some g
  sx : ∀ g, vS.ownBlock = some g → vX.ownBlock ≠ some g
  dx : ∀ g, vD.ownBlock = some g → vX.ownBlock ≠ some g
  bb : base ≤ bw
def Pf17 (bw : Nat) (vS vD vX : Value) : Nat → Prop := fun k => k = bw ∨ vS.ownBlock = some k ∨ vD.ownBlock = some k ∨ vX.ownBlock = some k
theorem Pr17.kp {base bw : Nat} {vS vD vX : Value} {s : Pt17} {w w' : World} {E : Nat → Prop} (h : Pr17 base bw vS vD vX s w) (hk : Kp E w w') (hE : ∀ k, Pf17 bw vS vD vX k → ¬ E k) : Pr17 base bw vS vD vX s w' :=
  ⟨hk.heap h.hp (hE bw (.inl rfl)), own_kp16 h.oS hk (fun x e => hE x (.inr (.inl e))), own_kp h.oD hk (fun x e => hE x (.inr (.inr (.inl e)))), own_kp h.oX hk (fun x e => hE x (.inr (.inr (.inr e)))), h.nS, h.nD, h.nX, h.sd, h.sx, h.dx, h.bb⟩
theorem Pr17.below {base bw : Nat} {vS vD vX : Value} {s : Pt17} {w w' : World} (h : Pr17 base bw vS vD vX s w) (hb : Below w.heap.size w w') : Pr17 base bw vS vD vX s w' := h.kp (Kp.of_below (S := fun _ => False) hb) (fun _ _ x => x)
theorem Pr17.lt {base bw : Nat} {vS vD vX : Value} {s : Pt17} {w : World} (h : Pr17 base bw vS vD vX s w) : ∀ k, Pf17 bw vS vD vX k → base ≤ k ∧ k < w.heap.size := by
  rintro k (rfl | e | e | e)
  · exact ⟨h.bb, (Array.getElem?_eq_some_iff.1 h.hp).1⟩
  · exact h.oS.lt k e
  · exact h.oD.lt k e
  · exact h.oX.lt k e
theorem five_cells {V : World} {b : Nat} {x0 x1 x2 x3 x4 : Value} {t : TypeId} (h : V.heap[b]? = some (.cells #[x0, x1, x2, x3, x4] t (0, 0))) : V.cell? ⟨b, 0, none⟩ = some x0 ∧ V.cell? ⟨b, 1, none⟩ = some x1 ∧ V.cell? ⟨b, 2, none⟩ = some x2 ∧ V.cell? ⟨b, 3, none⟩ = some x3 ∧ V.cell? ⟨b, 4, none⟩ = some x4 := by
  simp [World.cell?, h]
theorem five_free {w : World} {b i : Nat} {x0 x1 x2 x3 x4 : Value} {t : TypeId} (h : w.heap[b]? = some (.cells #[x0, x1, x2, x3, x4] t (0, 0))) : w.frozen? ⟨b, i, none⟩ = false := by simp [World.frozen?, h]
theorem five_set0 {w : World} {b : Nat} {x0 x1 x2 x3 x4 : Value} {t : TypeId} (h : w.heap[b]? = some (.cells #[x0, x1, x2, x3, x4] t (0, 0))) (u : Value) : (w.setCell ⟨b, 0, none⟩ u).heap[b]? = some (.cells #[u, x1, x2, x3, x4] t (0, 0)) := by
  simp [World.setCell, Array.getElem?_modify, h]
theorem five_set1 {w : World} {b : Nat} {x0 x1 x2 x3 x4 : Value} {t : TypeId} (h : w.heap[b]? = some (.cells #[x0, x1, x2, x3, x4] t (0, 0))) (u : Value) : (w.setCell ⟨b, 1, none⟩ u).heap[b]? = some (.cells #[x0, u, x2, x3, x4] t (0, 0)) := by
  simp [World.setCell, Array.getElem?_modify, h]
theorem five_set2 {w : World} {b : Nat} {x0 x1 x2 x3 x4 : Value} {t : TypeId} (h : w.heap[b]? = some (.cells #[x0, x1, x2, x3, x4] t (0, 0))) (u : Value) : (w.setCell ⟨b, 2, none⟩ u).heap[b]? = some (.cells #[x0, x1, u, x3, x4] t (0, 0)) := by
  simp [World.setCell, Array.getElem?_modify, h]
theorem five_set3 {w : World} {b : Nat} {x0 x1 x2 x3 x4 : Value} {t : TypeId} (h : w.heap[b]? = some (.cells #[x0, x1, x2, x3, x4] t (0, 0))) (u : Value) : (w.setCell ⟨b, 3, none⟩ u).heap[b]? = some (.cells #[x0, x1, x2, u, x4] t (0, 0)) := by
  simp [World.setCell, Array.getElem?_modify, h]
theorem five_set4 {w : World} {b : Nat} {x0 x1 x2 x3 x4 : Value} {t : TypeId} (h : w.heap[b]? = some (.cells #[x0, x1, x2, x3, x4] t (0, 0))) (u : Value) : (w.setCell ⟨b, 4, none⟩ u).heap[b]? = some (.cells #[x0, x1, x2, x3, u] t (0, 0)) := by
  simp [World.setCell, Array.getElem?_modify, h]
variable {base bw : Nat} {vS vD vX : Value} {s : Pt17} {w : World}
/-- A number is turned. -/
theorem Pr17.num {s' : Pt17} {i : Nat} {u : Value} (h : Pr17 base bw vS vD vX s w) (hS : s'.S = s.S) (hD : s'.D = s.D) (hX : s'.X = s.X) (hp : (w.setCell ⟨bw, i, none⟩ u).heap[bw]? = some (.cells #[.int .i64 s'.pos, vS, vD, vX, .int .i64 s'.p] 116 (0, 0))) : Pr17 base bw vS vD vX s' (w.setCell ⟨bw, i, none⟩ u) := by
  have ks : Kp (fun k => k = bw) w (w.setCell ⟨bw, i, none⟩ u) := Kp.set (S := fun k => k = bw) rfl _
  exact ⟨hp, by rw [hS]; exact own_kp16 h.oS ks (fun x e x2 => h.nS (by rw [e, x2])), by rw [hD]; exact own_kp h.oD ks (fun x e x2 => h.nD (by rw [e, x2])), by rw [hX]; exact own_kp h.oX ks (fun x e x2 => h.nX (by rw [e, x2])), h.nS, h.nD, h.nX, h.sd, h.sx, h.dx, h.bb⟩
/-- A byte more of Extra. -/
theorem Pr17.setX {g rc : Nat} {y : Int} {w' : World} (h : Pr17 base bw vS vD vX s w) (own : w'.ownsRow base 5 1 (.slice (some ⟨g, 0, none⟩) (s.X.length + 1) rc) (s.X.length + 1) (s.X.map (Value.int .u8) ++ [.int .u8 y])) (hk : Kp (fun k => vX.ownBlock = some k) w w') (hat : vX.ownBlock = some g ∨ w.heap.size ≤ g) :
    w'.heap[bw]? = some (.cells #[.int .i64 s.pos, vS, vD, vX, .int .i64 s.p] 116 (0, 0)) ∧ Pr17 base bw vS vD (.slice (some ⟨g, 0, none⟩) (s.X.length + 1) rc) { s with X := s.X ++ [y] } (w'.setCell ⟨bw, 3, none⟩ (.slice (some ⟨g, 0, none⟩) (s.X.length + 1) rc)) ∧ Kp (Pf17 bw vS vD vX) w (w'.setCell ⟨bw, 3, none⟩ (.slice (some ⟨g, 0, none⟩) (s.X.length + 1) rc)) := by
  have hlt := h.lt
  have ks : Kp (fun k => k = bw) w' (w'.setCell ⟨bw, 3, none⟩ (.slice (some ⟨g, 0, none⟩) (s.X.length + 1) rc)) := Kp.set (S := fun k => k = bw) rfl _
  have q' := hk.heap h.hp (fun e => h.nX e)
  have hgn : g ≠ bw ∧ (∀ x, vS.ownBlock = some x → g ≠ x) ∧ (∀ x, vD.ownBlock = some x → g ≠ x) := by
    rcases hat with e | e
    · exact ⟨fun x => h.nX (by rw [e, x]), fun x hx y => h.sx x hx (by rw [e, y]), fun x hx y => h.dx x hx (by rw [e, y])⟩
    · have l1 := (hlt bw (.inl rfl)).2
      refine ⟨by omega, fun x hx y => ?_, fun x hx y => ?_⟩
      · have := (hlt x (.inr (.inl hx))).2; omega
      · have := (hlt x (.inr (.inr (.inl hx)))).2; omega
  refine ⟨q', ⟨five_set3 q' _, ?_, ?_, ?_, h.nS, h.nD, ?_, h.sd, ?_, ?_, h.bb⟩, (hk.mono (S' := Pf17 bw vS vD vX) (fun i _ e => .inr (.inr (.inr e)))).trans (ks.mono (S' := Pf17 bw vS vD vX) (fun i _ e => .inl e)) (fun _ _ h => h)⟩
  · exact own_kp16 (own_kp16 h.oS hk (fun x e y => h.sx x e y)) ks (fun x e y => h.nS (by rw [e]; exact congrArg some y))
  · exact own_kp (own_kp h.oD hk (fun x e y => h.dx x e y)) ks (fun x e y => h.nD (by rw [e]; exact congrArg some y))
  · have : (s.X ++ [y]).length = s.X.length + 1 := by simp
    show World.ownsRow _ _ _ _ _ (s.X ++ [y]).length _
    rw [this]
    show World.ownsRow _ _ _ _ _ _ ((s.X ++ [y]).map (Value.int .u8))
    rw [List.map_append]
    exact own_kp own ks (fun x e y => by
      have e : some g = some x := e
      injection e with e
      exact hgn.1 (e.trans y))
  · intro e
    have e : some g = some bw := e
    injection e with e
    exact hgn.1 e
  · intro x e y
    have y : some g = some x := y
    injection y with y
    exact hgn.2.1 x e y
  · intro x e y
    have y : some g = some x := y
    injection y with y
    exact hgn.2.2 x e y
/-- A byte more of Diff. -/
theorem Pr17.setD {g rc : Nat} {y : Int} {w' : World} (h : Pr17 base bw vS vD vX s w) (own : w'.ownsRow base 5 1 (.slice (some ⟨g, 0, none⟩) (s.D.length + 1) rc) (s.D.length + 1) (s.D.map (Value.int .u8) ++ [.int .u8 y])) (hk : Kp (fun k => vD.ownBlock = some k) w w') (hat : vD.ownBlock = some g ∨ w.heap.size ≤ g) :
    w'.heap[bw]? = some (.cells #[.int .i64 s.pos, vS, vD, vX, .int .i64 s.p] 116 (0, 0)) ∧ Pr17 base bw vS (.slice (some ⟨g, 0, none⟩) (s.D.length + 1) rc) vX { s with D := s.D ++ [y] } (w'.setCell ⟨bw, 2, none⟩ (.slice (some ⟨g, 0, none⟩) (s.D.length + 1) rc)) ∧ Kp (Pf17 bw vS vD vX) w (w'.setCell ⟨bw, 2, none⟩ (.slice (some ⟨g, 0, none⟩) (s.D.length + 1) rc)) := by
  have hlt := h.lt
  have ks : Kp (fun k => k = bw) w' (w'.setCell ⟨bw, 2, none⟩ (.slice (some ⟨g, 0, none⟩) (s.D.length + 1) rc)) := Kp.set (S := fun k => k = bw) rfl _
  have q' := hk.heap h.hp (fun e => h.nD e)
  have hgn : g ≠ bw ∧ (∀ x, vS.ownBlock = some x → g ≠ x) ∧ (∀ x, vX.ownBlock = some x → g ≠ x) := by
    rcases hat with e | e
    · exact ⟨fun x => h.nD (by rw [e, x]), fun x hx y => h.sd x hx (by rw [e, y]), fun x hx y => h.dx g e (by rw [hx, y])⟩
    · have l1 := (hlt bw (.inl rfl)).2
      refine ⟨by omega, fun x hx y => ?_, fun x hx y => ?_⟩
      · have := (hlt x (.inr (.inl hx))).2; omega
      · have := (hlt x (.inr (.inr (.inr hx)))).2; omega
  refine ⟨q', ⟨five_set2 q' _, ?_, ?_, ?_, h.nS, ?_, h.nX, ?_, h.sx, ?_, h.bb⟩, (hk.mono (S' := Pf17 bw vS vD vX) (fun i _ e => .inr (.inr (.inl e)))).trans (ks.mono (S' := Pf17 bw vS vD vX) (fun i _ e => .inl e)) (fun _ _ h => h)⟩
  · exact own_kp16 (own_kp16 h.oS hk (fun x e y => h.sd x e y)) ks (fun x e y => h.nS (by rw [e]; exact congrArg some y))
  · have : (s.D ++ [y]).length = s.D.length + 1 := by simp
    show World.ownsRow _ _ _ _ _ (s.D ++ [y]).length _
    rw [this]
    show World.ownsRow _ _ _ _ _ _ ((s.D ++ [y]).map (Value.int .u8))
    rw [List.map_append]
    exact own_kp own ks (fun x e y => by
      have e : some g = some x := e
      injection e with e
      exact hgn.1 (e.trans y))
  · exact own_kp (own_kp h.oX hk (fun x e y => h.dx x y e)) ks (fun x e y => h.nX (by rw [e]; exact congrArg some y))
  · intro e
    have e : some g = some bw := e
    injection e with e
    exact hgn.1 e
  · intro x e y
    have y : some g = some x := y
    injection y with y
    exact hgn.2.1 x e y
  · intro x e y
    have e : some g = some x := e
    injection e with e
    exact hgn.2.2 x y e
/-- A step more. -/
theorem Pr17.setS {g rc : Nat} {y : St16} {w' : World} (h : Pr17 base bw vS vD vX s w) (own : w'.ownsRow base 108 3 (.slice (some ⟨g, 0, none⟩) (s.S.length + 1) rc) (s.S.length + 1) (flat16 s.S ++ [.int .i64 y.1, .int .i64 y.2.1, .int .i64 y.2.2])) (hk : Kp (fun k => vS.ownBlock = some k) w w') (hat : vS.ownBlock = some g ∨ w.heap.size ≤ g) :
    w'.heap[bw]? = some (.cells #[.int .i64 s.pos, vS, vD, vX, .int .i64 s.p] 116 (0, 0)) ∧ Pr17 base bw (.slice (some ⟨g, 0, none⟩) (s.S.length + 1) rc) vD vX { s with S := s.S ++ [y] } (w'.setCell ⟨bw, 1, none⟩ (.slice (some ⟨g, 0, none⟩) (s.S.length + 1) rc)) ∧ Kp (Pf17 bw vS vD vX) w (w'.setCell ⟨bw, 1, none⟩ (.slice (some ⟨g, 0, none⟩) (s.S.length + 1) rc)) := by
  have hlt := h.lt
  have ks : Kp (fun k => k = bw) w' (w'.setCell ⟨bw, 1, none⟩ (.slice (some ⟨g, 0, none⟩) (s.S.length + 1) rc)) := Kp.set (S := fun k => k = bw) rfl _
  have q' := hk.heap h.hp (fun e => h.nS e)
  have hgn : g ≠ bw ∧ (∀ x, vD.ownBlock = some x → g ≠ x) ∧ (∀ x, vX.ownBlock = some x → g ≠ x) := by
    rcases hat with e | e
    · exact ⟨fun x => h.nS (by rw [e, x]), fun x hx y => h.sd g e (by rw [hx, y]), fun x hx y => h.sx g e (by rw [hx, y])⟩
    · have l1 := (hlt bw (.inl rfl)).2
      refine ⟨by omega, fun x hx y => ?_, fun x hx y => ?_⟩
      · have := (hlt x (.inr (.inr (.inl hx)))).2; omega
      · have := (hlt x (.inr (.inr (.inr hx)))).2; omega
  refine ⟨q', ⟨five_set1 q' _, ?_, ?_, ?_, ?_, h.nD, h.nX, ?_, ?_, h.dx, h.bb⟩, (hk.mono (S' := Pf17 bw vS vD vX) (fun i _ e => .inr (.inl e))).trans (ks.mono (S' := Pf17 bw vS vD vX) (fun i _ e => .inl e)) (fun _ _ h => h)⟩
  · have : (s.S ++ [y]).length = s.S.length + 1 := by simp
    show World.ownsRow _ _ _ _ _ (s.S ++ [y]).length _
    rw [this]
    show World.ownsRow _ _ _ _ _ _ (flat16 (s.S ++ [y]))
    rw [flat16_app]
    exact own_kp16 own ks (fun x e y => by
      have e : some g = some x := e
      injection e with e
      exact hgn.1 (e.trans y))
  · exact own_kp (own_kp h.oD hk (fun x e y => h.sd x y e)) ks (fun x e y => h.nD (by rw [e]; exact congrArg some y))
  · exact own_kp (own_kp h.oX hk (fun x e y => h.sx x y e)) ks (fun x e y => h.nX (by rw [e]; exact congrArg some y))
  · intro e
    have e : some g = some bw := e
    injection e with e
    exact hgn.1 e
  · intro x e y
    have e : some g = some x := e
    injection e with e
    exact hgn.2.1 x y e
  · intro x e y
    have e : some g = some x := e
    injection e with e
    exact hgn.2.2 x y e
/-- A number of the last step is turned. -/
theorem flat16_len (l : List St16) : (flat16 l).length = l.length * 3 := by
  induction l with
  | nil => rfl
  | cons a l ih =>
    have : flat16 (a :: l) = [.int .i64 a.1, .int .i64 a.2.1, .int .i64 a.2.2] ++ flat16 l := by unfold flat16; rw [List.flatMap_cons]
    rw [this, List.length_append, ih]; simp; omega
theorem ml17_split {S : List St16} (h : S ≠ []) : S = S.dropLast ++ [S.getLastD z16] := by
  have := List.dropLast_concat_getLast h
  rw [show S.getLastD z16 = S.getLast h by rw [List.getLastD_eq_getLast?, List.getLast?_eq_some_getLast h]; rfl]
  exact this.symm
theorem flat17_last {S : List St16} (h : S ≠ []) : flat16 S = flat16 S.dropLast ++ [.int .i64 (S.getLastD z16).1, .int .i64 (S.getLastD z16).2.1, .int .i64 (S.getLastD z16).2.2] := by
  conv => lhs; rw [ml17_split h]
  rw [flat16_app]; rfl
theorem flat17_set0 {S : List St16} (h : S ≠ []) (v : Int) : (flat16 S).set ((S.length - 1) * 3 + 0) (.int .i64 v) = flat16 (ml17 (fun t => (v, t.2.1, t.2.2)) S) := by
  have hl := flat16_len S.dropLast
  rw [List.length_dropLast] at hl
  unfold ml17
  rw [flat17_last h, flat16_app, ← hl, List.set_append_right _ _ (by omega), show (flat16 S.dropLast).length + 0 - (flat16 S.dropLast).length = 0 by omega]
  rfl
theorem flat17_set1 {S : List St16} (h : S ≠ []) (v : Int) : (flat16 S).set ((S.length - 1) * 3 + 1) (.int .i64 v) = flat16 (ml17 (fun t => (t.1, v, t.2.2)) S) := by
  have hl := flat16_len S.dropLast
  rw [List.length_dropLast] at hl
  unfold ml17
  rw [flat17_last h, flat16_app, ← hl, List.set_append_right _ _ (by omega), show (flat16 S.dropLast).length + 1 - (flat16 S.dropLast).length = 1 by omega]
  rfl
theorem flat17_set2 {S : List St16} (h : S ≠ []) (v : Int) : (flat16 S).set ((S.length - 1) * 3 + 2) (.int .i64 v) = flat16 (ml17 (fun t => (t.1, t.2.1, v)) S) := by
  have hl := flat16_len S.dropLast
  rw [List.length_dropLast] at hl
  unfold ml17
  rw [flat17_last h, flat16_app, ← hl, List.set_append_right _ _ (by omega), show (flat16 S.dropLast).length + 2 - (flat16 S.dropLast).length = 2 by omega]
  rfl
theorem flat17_get {S : List St16} (h : S ≠ []) : (flat16 S)[(S.length - 1) * 3]? = some (.int .i64 (S.getLastD z16).1) ∧ (flat16 S)[(S.length - 1) * 3 + 1]? = some (.int .i64 (S.getLastD z16).2.1) ∧ (flat16 S)[(S.length - 1) * 3 + 2]? = some (.int .i64 (S.getLastD z16).2.2) := by
  have hl := flat16_len S.dropLast
  rw [List.length_dropLast] at hl
  rw [flat17_last h, ← hl]
  refine ⟨?_, ?_, ?_⟩
  · rw [List.getElem?_append_right (by omega), Nat.sub_self]; rfl
  · rw [List.getElem?_append_right (by omega), Nat.add_sub_cancel_left]; rfl
  · rw [List.getElem?_append_right (by omega), Nat.add_sub_cancel_left]; rfl
/-- The last step lies there. -/
structure La17 (vS : Value) (S : List St16) (g r c : Nat) (w : World) : Prop where
  vs : vS = .slice (some ⟨g, 0, none⟩) (r + 1) c
  ln : S.length = r + 1
  c0 : w.cell? ⟨g, r * 3, none⟩ = some (.int .i64 (S.getLastD z16).1)
  c1 : w.cell? ⟨g, r * 3 + 1, none⟩ = some (.int .i64 (S.getLastD z16).2.1)
  c2 : w.cell? ⟨g, r * 3 + 2, none⟩ = some (.int .i64 (S.getLastD z16).2.2)
  fr : ∀ j, w.frozen? ⟨g, j, none⟩ = false
theorem Pr17.last (h : Pr17 base bw vS vD vX s w) (hs : s.S ≠ []) : ∃ g r c, La17 vS s.S g r c w := by
  have hp := List.length_pos_iff.2 hs
  obtain ⟨r, hr⟩ : ∃ r, s.S.length = r + 1 := ⟨s.S.length - 1, by omega⟩
  rcases h.oS.2 with ⟨_, e⟩ | ⟨g, cap, cur, rfl, _⟩
  · omega
  · have hc := h.oS.cells (g := g) rfl
    obtain ⟨f0, f1, f2⟩ := flat17_get hs
    have hadd : ∀ i, (⟨g, 0, none⟩ : Addr).add i = ⟨g, i, none⟩ := fun i => by simp [Addr.add]; intro h; omega
    rw [hr, Nat.add_sub_cancel] at f0 f1 f2
    have g0 := hc _ _ f0
    have g1 := hc _ _ f1
    have g2 := hc _ _ f2
    rw [hadd] at g0 g1 g2
    exact ⟨g, r, cap, by rw [hr], hr, g0, g1, g2, h.oS.frozenAt⟩
theorem Pr17.turn {g r c j : Nat} {S' : List St16} {u : Value} (h : Pr17 base bw vS vD vX s w) (hl : La17 vS s.S g r c w) (hj : j < 3) (hS : (flat16 s.S).set (r * 3 + j) u = flat16 S') (hn : S'.length = s.S.length) : Pr17 base bw vS vD vX { s with S := S' } (w.setCell ⟨g, r * 3 + j, none⟩ u) ∧ Kp (Pf17 bw vS vD vX) w (w.setCell ⟨g, r * 3 + j, none⟩ u) := by
  have hg : vS.ownBlock = some g := by rw [hl.vs]; rfl
  have ks : Kp (fun k => k = g) w (w.setCell ⟨g, r * 3 + j, none⟩ u) := Kp.set (S := fun k => k = g) rfl _
  refine ⟨⟨ks.heap h.hp (fun e => h.nS (by rw [hg]; exact congrArg some e.symm)), ?_, own_kp h.oD ks (fun x e y => h.sd g hg (by rw [e]; exact congrArg some y)), own_kp h.oX ks (fun x e y => h.sx g hg (by rw [e]; exact congrArg some y)), h.nS, h.nD, h.nX, h.sd, h.sx, h.dx, h.bb⟩, ks.mono (fun i _ e => .inr (.inl (by rw [hg]; exact congrArg some e.symm)))⟩
  have ho := h.oS
  rw [hl.vs, hl.ln] at ho
  have := ho.stored (r * 3 + j) u
  rw [hS] at this
  show World.ownsRow _ _ _ _ _ S'.length (flat16 S')
  rw [hn, hl.vs, hl.ln]
  exact this.1
/-- Behind a call. -/
def TkQ17 (base bw : Nat) (vS vD vX : Value) (s : Pt17) (w : World) (e : Ending) (w' : World) : Prop :=
  e = .returned (.tuple #[]) ∧ ∃ vS' vD' vX', Pr17 base bw vS' vD' vX' s w' ∧ Kp (Pf17 bw vS vD vX) w w' ∧ (∀ k, Pf17 bw vS' vD' vX' k → Pf17 bw vS vD vX k ∨ w.heap.size ≤ k)
end Go.Proofs.YtmfpdchfofffeaaGreatDoor
