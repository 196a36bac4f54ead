import Derived.Test.YtmfpdchfofffeaaGreatDoorEdM
namespace Go.Proofs.YtmfpdchfofffeaaGreatDoor
set_option linter.unusedVariables false
abbrev Wy17 := Int × Int × Bool
abbrev Pc17 := Int × List Int × Bool
def wy17 (p : Pc17) : List Wy17 := (List.range p.2.1.length).map fun (i : Nat) => (p.1 + (i : Int), p.2.1.getD i 0, p.2.2)
theorem wy17_len (p : Pc17) : (wy17 p).length = p.2.1.length := by simp [wy17]
theorem wy17_get {p : Pc17} {j : Nat} (h : j < p.2.1.length) : (wy17 p)[j]? = some (p.1 + (j : Int), p.2.1.getD j 0, p.2.2) := by simp [wy17, h]
def ws17 (P : List Pc17) : List Wy17 := P.flatMap wy17
def of17 (P : List Pc17) (i : Nat) : Nat := (ws17 (P.take i)).length
theorem of17_zero (P : List Pc17) : of17 P 0 = 0 := by simp [of17, ws17]
theorem of17_all (P : List Pc17) : of17 P P.length = (ws17 P).length := by simp [of17]
theorem split17 {P : List Pc17} {i : Nat} {p : Pc17} (h : P[i]? = some p) : P = P.take i ++ p :: P.drop (i + 1) := by
  obtain ⟨hi, rfl⟩ := List.getElem?_eq_some_iff.1 h
  have h2 : P.drop i = P[i] :: P.drop (i + 1) := List.drop_eq_getElem_cons hi
  rw [← h2, List.take_append_drop]
theorem of17_succ {P : List Pc17} {i : Nat} {p : Pc17} (h : P[i]? = some p) : of17 P (i + 1) = of17 P i + p.2.1.length := by
  obtain ⟨hi, rfl⟩ := List.getElem?_eq_some_iff.1 h
  unfold of17 ws17
  rw [List.take_succ_eq_append_getElem hi, List.flatMap_append, List.length_append]
  simp [wy17_len]
theorem ws17_get {P : List Pc17} {i j : Nat} {p : Pc17} (h : P[i]? = some p) (hj : j < p.2.1.length) : (ws17 P)[of17 P i + j]? = some (p.1 + (j : Int), p.2.1.getD j 0, p.2.2) := by
  have e : ws17 P = ws17 (P.take i) ++ (wy17 p ++ ws17 (P.drop (i + 1))) := by
    conv => lhs; rw [split17 h]
    unfold ws17
    rw [List.flatMap_append, List.flatMap_cons]
  rw [e]
  unfold of17
  rw [List.getElem?_append_right (by omega), Nat.add_sub_cancel_left, List.getElem?_append_left (by rw [wy17_len]; exact hj)]
  exact wy17_get hj
/-- The pieces of an edit's first n steps, begun at a place. -/
def pc17 (S : List St16) (D X : List Int) (p0 : Int) (k : Nat) : Pc17 :=
  if k % 2 = 0 then (p0 + pl16 S (k / 2), (D.drop (sa16 S (k / 2))).take (ad16 S (k / 2)), true) else (0, (X.drop (sc16 S (k / 2))).take (cp16 S (k / 2)), false)
def pi17 (S : List St16) (D X : List Int) (p0 : Int) (n : Nat) : List Pc17 := (List.range (2 * n)).map (pc17 S D X p0)
theorem pi17_len (S : List St16) (D X : List Int) (p0 : Int) (n : Nat) : (pi17 S D X p0 n).length = 2 * n := by simp [pi17]
theorem pi17_get {S : List St16} {D X : List Int} {p0 : Int} {n k : Nat} (h : k < 2 * n) : (pi17 S D X p0 n)[k]? = some (pc17 S D X p0 k) := by simp [pi17, h]
theorem pc17_a (S : List St16) (D X : List Int) (p0 : Int) (i : Nat) : pc17 S D X p0 (2 * i) = (p0 + pl16 S i, (D.drop (sa16 S i)).take (ad16 S i), true) := by
  unfold pc17
  rw [if_pos (by omega), show 2 * i / 2 = i by omega]
theorem pc17_c (S : List St16) (D X : List Int) (p0 : Int) (i : Nat) : pc17 S D X p0 (2 * i + 1) = (0, (X.drop (sc16 S i)).take (cp16 S i), false) := by
  unfold pc17
  rw [if_neg (by omega), show (2 * i + 1) / 2 = i by omega]

structure Pt17 where
  S : List St16
  D : List Int
  X : List Int
  pos : Int
  p : Int
def z17 : Pt17 := ⟨[], [], [], 0, 0⟩
/-- The last step is turned. -/
def ml17 (f : St16 → St16) (S : List St16) : List St16 := S.dropLast ++ [f (S.getLastD z16)]
def cpy17 (s : St16) : St16 := (s.1, s.2.1 + 1, s.2.2)
def add17 (s : St16) : St16 := (s.1 + 1, s.2.1, s.2.2)
def sek17 (k : Int) (s : St16) : St16 := (s.1, s.2.1, k)
def Pt17.len (s : Pt17) : Nat := s.D.length + s.X.length
/-- The last step can add at this place. -/
def Pt17.lead (s : Pt17) (to : Int) : Pt17 :=
  if s.S = [] then { s with S := [z16], p := to }
  else if (s.S.getLastD z16).2.1 = 0 ∧ to = s.p then s
  else { s with S := ml17 (sek17 (to - s.p)) s.S ++ [z16], p := to }
def Pt17.ini (s : Pt17) (to : Int) : Pt17 := if s.D = [] then { s with pos := to, p := to } else s
def Pt17.take (s : Pt17) (o : Wy17) : Pt17 :=
  if o.2.2 = true then
    { (s.ini o.1).lead o.1 with S := ml17 add17 ((s.ini o.1).lead o.1).S, D := s.D ++ [o.2.1], p := ((s.ini o.1).lead o.1).p + 1 }
  else { s with S := ml17 cpy17 (if s.S = [] then [z16] else s.S), X := s.X ++ [o.2.1] }
/-- Windows, and the one that is being made. -/
abbrev Cs17 := List Pt17 × Pt17
def cs17 (n : Nat) (c : Cs17) (o : Wy17) : Cs17 := if (c.2.take o).len = n then (c.1 ++ [c.2.take o], z17) else (c.1, c.2.take o)
def cf17 (n : Nat) (L : List Wy17) : Cs17 := L.foldl (cs17 n) ([], z17)
def cw17 (n : Nat) (L : List Wy17) : List Pt17 := if 0 < (cf17 n L).2.len then (cf17 n L).1 ++ [(cf17 n L).2] else (cf17 n L).1
theorem cf17_snoc (n : Nat) (L : List Wy17) (o : Wy17) : cf17 n (L ++ [o]) = cs17 n (cf17 n L) o := by simp [cf17]
theorem lead17_len (s : Pt17) (to : Int) : (s.lead to).D = s.D ∧ (s.lead to).X = s.X ∧ (s.lead to).pos = s.pos := by
  unfold Pt17.lead
  split
  · exact ⟨rfl, rfl, rfl⟩
  · split <;> exact ⟨rfl, rfl, rfl⟩
theorem ini17_len (s : Pt17) (to : Int) : (s.ini to).D = s.D ∧ (s.ini to).X = s.X ∧ (s.ini to).S = s.S := by
  unfold Pt17.ini
  split <;> exact ⟨rfl, rfl, rfl⟩
theorem take17_len (s : Pt17) (o : Wy17) : (s.take o).len = s.len + 1 := by
  unfold Pt17.take Pt17.len
  split
  · simp only [List.length_append, List.length_cons, List.length_nil]
    rw [(lead17_len _ _).2.1, (ini17_len _ _).2.1]; omega
  · simp only [List.length_append, List.length_cons, List.length_nil]; omega
theorem ml17_len {f : St16 → St16} {S : List St16} (h : S ≠ []) : (ml17 f S).length = S.length := by
  unfold ml17
  have := List.length_pos_iff.2 h
  simp; omega
end Go.Proofs.YtmfpdchfofffeaaGreatDoor
