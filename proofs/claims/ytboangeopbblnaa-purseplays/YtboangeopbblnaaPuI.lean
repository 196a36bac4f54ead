
import Derived.Test.YtboangeopbblnaaPuH
import Derived.Test.YtboangeopbblnaaOpenPu
namespace Go.Proofs.Ytboangeopbblnaa
open Go.RowKit Go.Maps Go.WideMaps Go.MuLone Go.Shelf
set_option linter.unusedVariables false
set_option linter.unusedSimpArgs false
set_option maxRecDepth 100000

/-! Names of a purse; two purses beside each other. -/
set_option maxRecDepth 100000 in
set_option maxHeartbeats 1000000 in
theorem pNam23 {w : World} {p l m : Nat} {S : Pu23} (h : Pm23 w p l m S) :
    Calls Try.prog 18 #[.pointer (some ⟨p, 0, none⟩)] w fun e w' => ∃ ra n rc, e = .returned (.slice ra n rc) ∧ n = S.L.length ∧ w'.ownsRow w.heap.size 9 1 (.slice ra n rc) n ((S.L.map Ho23.nm).map Value.string) ∧ Pm23 w' p l m S ∧ Kp (fun k => k = l ∨ k = m) w w' := by
  have c0 := one_c23 h.hp
  have hmd := pmad23 h
  have hop : Hid (Calls Try.prog 33 #[.pointer (some ⟨l, 0, none⟩)] w (NmQ23 w l m S)) := pnms23 h.lg
  have HS : Hid (Pm23 w p l m S) := h
  clear h
  go_enter Try.func18, Try.ntmps18
  go_wp2_with (go_at_call 29; refine hmd.mono ?_; rintro e w' ⟨rfl, hw⟩; subst w')
  refine hop.out.mono ?_
  rintro e w' ⟨ra, n, rc, rfl, hn, ho, h1, h2⟩
  have h3 : Kp (fun k => k = l ∨ k = m) w w' := h2.mono (fun _ _ h => .inl h)
  have HF : Hid (n = S.L.length ∧ w'.ownsRow w.heap.size 9 1 (.slice ra n rc) n ((S.L.map Ho23.nm).map Value.string) ∧ Pm23 w' p l m S ∧ Kp (fun k => k = l ∨ k = m) w w') := ⟨hn, ho, HS.out.then_ h1 h3, h3⟩
  clear h1 h2 h3 hn ho
  go_wp2_with fail
  go_ret
  exact ⟨ra, n, rc, rfl, HF.out⟩
/-- Two purses beside each other, both made since w0, and nothing else touched. -/
structure Pr23 (w0 w : World) (p l m q r n : Nat) (S T : Pu23) : Prop where
  a : Pm23 w p l m S
  b : Pm23 w q r n T
  d : q ≠ l ∧ q ≠ m ∧ r ≠ l ∧ r ≠ m ∧ n ≠ l ∧ n ≠ m ∧ p ≠ r ∧ p ≠ n
  g : w0.heap.size ≤ l ∧ w0.heap.size ≤ m ∧ w0.heap.size ≤ r ∧ w0.heap.size ≤ n
  k : Below w0.heap.size w0 w
theorem Pr23.below {w0 w w' : World} {p l m q r n : Nat} {S T : Pu23} (h : Pr23 w0 w p l m q r n S T) (hb : Below w.heap.size w w') : Pr23 w0 w' p l m q r n S T :=
  ⟨h.a.below hb, h.b.below hb, h.d, h.g, h.k.trans (hb.mono h.k.size)⟩
theorem Pr23.turn_a {w0 w w' : World} {p l m q r n : Nat} {S S' T : Pu23} (h : Pr23 w0 w p l m q r n S T) (h' : Pm23 w' p l m S') (hk : Kp (fun k => k = l ∨ k = m) w w') : Pr23 w0 w' p l m q r n S' T :=
  ⟨h', h.b.kp hk (by have := h.d; omega) (by have := h.d; omega) (by have := h.d; omega), h.d, h.g, h.k.trans (hk.below (B := w0.heap.size) (fun i hi => by have := h.g; omega) h.k.size)⟩
theorem Pr23.turn_b {w0 w w' : World} {p l m q r n : Nat} {S T T' : Pu23} (h : Pr23 w0 w p l m q r n S T) (h' : Pm23 w' q r n T') (hk : Kp (fun k => k = r ∨ k = n) w w') : Pr23 w0 w' p l m q r n S T' :=
  ⟨h.a.kp hk (by have := h.d; omega) (by have := h.d; omega) (by have := h.d; omega), h', h.d, h.g, h.k.trans (hk.below (B := w0.heap.size) (fun i hi => by have := h.g; omega) h.k.size)⟩
/-- What a call on both leaves: no block but the purses' own. -/
abbrev Kb23 (l m r n : Nat) (w w' : World) : Prop := Kp (fun k => k = l ∨ k = m ∨ k = r ∨ k = n) w w'
theorem kb_a23 {l m r n : Nat} {w w' : World} (h : Kp (fun k => k = l ∨ k = m) w w') : Kb23 l m r n w w' := h.mono fun _ _ h => by rcases h with h | h <;> simp [h]
theorem kb_b23 {l m r n : Nat} {w w' : World} (h : Kp (fun k => k = r ∨ k = n) w w') : Kb23 l m r n w w' := h.mono fun _ _ h => by rcases h with h | h <;> simp [h]
section
variable {w0 w : World} {p l m q r n : Nat} {S T : Pu23}
theorem aOpn23 (h : Pr23 w0 w p l m q r n S T) {s : ByteArray} (hs : s.size ≤ 9223372036854775807) (x : Int) :
    Calls Try.prog 14 #[.pointer (some ⟨p, 0, none⟩), .string s, .int .i64 x] w fun e w' => e = .returned (.int .i64 (oE23 S s x)) ∧ Pr23 w0 w' p l m q r n (oS23 S s x) T ∧ Kb23 l m r n w w' :=
  (pOpn23 h.a hs x).mono fun e w' ⟨he, h1, h2⟩ => ⟨he, h.turn_a h1 h2, kb_a23 h2⟩
theorem bOpn23 (h : Pr23 w0 w p l m q r n S T) {s : ByteArray} (hs : s.size ≤ 9223372036854775807) (x : Int) :
    Calls Try.prog 14 #[.pointer (some ⟨q, 0, none⟩), .string s, .int .i64 x] w fun e w' => e = .returned (.int .i64 (oE23 T s x)) ∧ Pr23 w0 w' p l m q r n S (oS23 T s x) ∧ Kb23 l m r n w w' :=
  (pOpn23 h.b hs x).mono fun e w' ⟨he, h1, h2⟩ => ⟨he, h.turn_b h1 h2, kb_b23 h2⟩
theorem aHld23 (h : Pr23 w0 w p l m q r n S T) {s : ByteArray} (hs : s.size ≤ 9223372036854775807) (x : Int) :
    Calls Try.prog 15 #[.pointer (some ⟨p, 0, none⟩), .string s, .int .i64 x] w fun e w' => e = .returned (.int .i64 (hE23 S s x)) ∧ Pr23 w0 w' p l m q r n (hS23 S s x) T ∧ Kb23 l m r n w w' :=
  (pHld23 h.a hs x).mono fun e w' ⟨he, h1, h2⟩ => ⟨he, h.turn_a h1 h2, kb_a23 h2⟩
theorem bHld23 (h : Pr23 w0 w p l m q r n S T) {s : ByteArray} (hs : s.size ≤ 9223372036854775807) (x : Int) :
    Calls Try.prog 15 #[.pointer (some ⟨q, 0, none⟩), .string s, .int .i64 x] w fun e w' => e = .returned (.int .i64 (hE23 T s x)) ∧ Pr23 w0 w' p l m q r n S (hS23 T s x) ∧ Kb23 l m r n w w' :=
  (pHld23 h.b hs x).mono fun e w' ⟨he, h1, h2⟩ => ⟨he, h.turn_b h1 h2, kb_b23 h2⟩
theorem aHed23 (h : Pr23 w0 w p l m q r n S T) :
    Calls Try.prog 12 #[.pointer (some ⟨p, 0, none⟩)] w fun e w' => e = .returned (.int .i64 (hs23 S.L)) ∧ Pr23 w0 w' p l m q r n S T ∧ Kb23 l m r n w w' :=
  (pHed23 h.a).mono fun e w' ⟨he, h1, h2⟩ => ⟨he, h.turn_a h1 h2, kb_a23 h2⟩
theorem bHed23 (h : Pr23 w0 w p l m q r n S T) :
    Calls Try.prog 12 #[.pointer (some ⟨q, 0, none⟩)] w fun e w' => e = .returned (.int .i64 (hs23 T.L)) ∧ Pr23 w0 w' p l m q r n S T ∧ Kb23 l m r n w w' :=
  (pHed23 h.b).mono fun e w' ⟨he, h1, h2⟩ => ⟨he, h.turn_b h1 h2, kb_b23 h2⟩
theorem aPek23 (h : Pr23 w0 w p l m q r n S T) :
    Calls Try.prog 16 #[.pointer (some ⟨p, 0, none⟩)] w fun e w' => e = .returned (.int .i64 S.pk) ∧ Pr23 w0 w' p l m q r n S T ∧ Kb23 l m r n w w' :=
  (pPek23 h.a).mono fun e w' ⟨he, h1, h2⟩ => ⟨he, h.turn_a h1 h2, kb_a23 h2⟩
theorem aMst23 (h : Pr23 w0 w p l m q r n S T) :
    Calls Try.prog 17 #[.pointer (some ⟨p, 0, none⟩)] w fun e w' => e = .returned (.int .i64 (ms23 S.L)) ∧ Pr23 w0 w' p l m q r n S T ∧ Kb23 l m r n w w' :=
  (pMst23 h.a).mono fun e w' ⟨he, h1, h2⟩ => ⟨he, h.turn_a h1 h2, kb_a23 h2⟩
theorem bMst23 (h : Pr23 w0 w p l m q r n S T) :
    Calls Try.prog 17 #[.pointer (some ⟨q, 0, none⟩)] w fun e w' => e = .returned (.int .i64 (ms23 T.L)) ∧ Pr23 w0 w' p l m q r n S T ∧ Kb23 l m r n w w' :=
  (pMst23 h.b).mono fun e w' ⟨he, h1, h2⟩ => ⟨he, h.turn_b h1 h2, kb_b23 h2⟩
end
/-- Both made, one behind the other. -/
theorem pr_new23 {w0 w1 w2 : World} {p l m q r n : Nat} {S T : Pu23} (h1 : Pm23 w1 p l m S) (b1 : Below w0.heap.size w0 w1) (h2 : Pm23 w2 q r n T) (b2 : Below w1.heap.size w1 w2) (g1 : w0.heap.size ≤ l ∧ w0.heap.size ≤ m) (g2 : w1.heap.size ≤ q ∧ w1.heap.size ≤ r ∧ w1.heap.size ≤ n) : Pr23 w0 w2 p l m q r n S T := by
  have e1 := h1.lg.lt
  have e2 : p < w1.heap.size := (Array.getElem?_eq_some_iff.1 h1.hp).1
  have e3 := b1.size
  exact ⟨h1.below b2, h2, by omega, by omega, b1.trans (b2.mono b1.size)⟩
/-- The script's cells, later. -/
theorem Ss23.old {w w' : World} {a : Option Addr} {len : Nat} {O : Nat → Oq23} (h : Ss23 w a len O) (hb : Below w.heap.size w w') : Ss23 w' a len O :=
  ⟨fun i hi => by
    obtain ⟨g, off, e0, e1, e2, e3⟩ := h.at_ i hi
    exact ⟨g, off, e0, (hb.cell (p := ⟨g, off + i * 3, none⟩) (World.block_lt_of_cell? w _ e1)).trans e1, (hb.cell (p := ⟨g, off + i * 3 + 1, none⟩) (World.block_lt_of_cell? w _ e2)).trans e2, (hb.cell (p := ⟨g, off + i * 3 + 2, none⟩) (World.block_lt_of_cell? w _ e3)).trans e3⟩, h.of⟩
/-- Lists in order with the same holders are the same. -/
theorem so_eq23 {A B : List Ho23} (ha : So23 A) (hb : So23 B) (hp : A.Perm B) : A = B := by
  unfold So23 at ha hb
  exact List.Perm.eq_of_pairwise (le := fun a b => kb23 a.nm < kb23 b.nm) (fun a b _ _ h1 h2 => absurd (List.lt_trans h1 h2) (List.lt_irrefl _)) ha hb hp
/-- A holder that holds nothing. -/
def ho23 (x : ByteArray × Int) : Ho23 := ⟨x.1, x.2, 0⟩
/-- What was opened so far. -/
structure Nn23 (S : Pu23) (acc : List (ByteArray × Int)) : Prop where
  pk : S.pk = 0
  pm : S.L.Perm (acc.map ho23)
theorem Nn23.open_ {S : Pu23} {acc : List (ByteArray × Int)} (h : Nn23 S acc) {s : ByteArray} {x : Int} (e : oE23 S s x = 0) : Nn23 (oS23 S s x) (acc ++ [(s, x)]) := by
  unfold oS23
  rw [if_pos e]
  refine ⟨h.pk, ?_⟩
  refine (in23_perm _ _).trans ((h.pm.cons _).trans ?_)
  rw [List.map_append]
  exact (List.perm_append_singleton _ _).symm
theorem Nn23.pre {S : Pu23} {acc : List (ByteArray × Int)} (h : Nn23 S acc) {s : ByteArray} {x : Int} (e : oE23 S s x = 0) : Nn23 (oS23 S s x) ((s, x) :: acc) := by
  unfold oS23
  rw [if_pos e]
  exact ⟨h.pk, (in23_perm _ _).trans (h.pm.cons _)⟩
theorem Nn23.len {S : Pu23} {acc : List (ByteArray × Int)} (h : Nn23 S acc) : S.L.length = acc.length := by rw [h.pm.length_eq, List.length_map]
/-- Opened again, from the last one on. -/
theorem Nn23.again {S T : Pu23} {acc : List (ByteArray × Int)} (h : Nn23 S acc) (ok : Ok23 S) {i : Nat} {x : ByteArray × Int} (hi : acc[i]? = some x) (hT : Nn23 T (acc.drop (i + 1))) : oE23 T x.1 x.2 = 0 ∧ x.1.size ≤ 9223372036854775807 := by
  have hil : i < acc.length := (List.getElem?_eq_some_iff.1 hi).1
  have hx : ho23 x ∈ S.L := h.pm.mem_iff.2 (List.mem_map.2 ⟨x, List.mem_of_getElem? hi, rfl⟩)
  have hb := ok.bd _ hx
  have hln := ok.ln
  rw [h.len] at hln
  have htl := hT.len
  rw [List.length_drop] at htl
  have hne : (acc.map ho23).Pairwise (fun a b => a.nm ≠ b.nm) := (ok.so.ne.perm h.pm (fun {a b} hab => hab.symm))
  refine ⟨oE23_ok (by have := hb.1; have := hb.2.1; simp only [ho23] at *; omega) (by have := hb.2.2.1; simp only [ho23] at this; omega) (by omega) ?_, hb.2.2.2⟩
  unfold fd23
  rw [List.find?_eq_none]
  intro y hy
  have hy2 := hT.pm.mem_iff.1 hy
  obtain ⟨z, hz, rfl⟩ := List.mem_map.1 hy2
  rw [List.pairwise_map] at hne
  have hsp : acc = acc.take i ++ x :: acc.drop (i + 1) := by
    have h1 : acc[i] = x := by rw [List.getElem?_eq_getElem hil] at hi; injection hi
    rw [← h1, List.getElem_cons_drop, List.take_append_drop]
  rw [hsp] at hne
  have h2 := (List.pairwise_cons.1 (List.pairwise_append.1 hne).2.1).1 z hz
  simp only [decide_eq_true_eq]
  exact fun e => h2 e.symm
theorem Nn23.eq {S T : Pu23} {acc : List (ByteArray × Int)} (h : Nn23 S acc) (hT : Nn23 T acc) (s : Ok23 S) (t : Ok23 T) : S = T := by
  have e := so_eq23 s.so t.so (h.pm.trans hT.pm.symm)
  cases S; cases T
  have h1 := h.pk
  have h2 := hT.pk
  simp only at e h1 h2
  rw [e, h1, h2]
end Go.Proofs.Ytboangeopbblnaa
