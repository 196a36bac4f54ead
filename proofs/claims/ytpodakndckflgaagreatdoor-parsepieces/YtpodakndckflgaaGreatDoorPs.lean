import Derived.Test.YtpodakndckflgaaGreatDoorPr
import Derived.Deep.AppendLies
import Derived.Test.YtpodakndckflgaaGreatDoorPb
namespace Go.Proofs.YtpodakndckflgaaGreatDoor
open Go.RowKit Go.Shelf
set_option linter.unusedVariables false
set_option linter.unusedSimpArgs false
def tk19 (s : R19) (t : Int) : R19 := { s with tk := t }
theorem put_tk19 (s : R19) (k : Nat) (y t : Int) : (tk19 s t).put k y = tk19 (s.put k y) t := by unfold R19.put; split <;> rfl
theorem nb_tk19 (s : R19) (v m t : Int) : nb19 (tk19 s t) v m = ((nb19 s v m).1, (nb19 s v m).2.1, tk19 (nb19 s v m).2.2 t) := by
  by_cases h1 : tkErr s.tc v ≠ 0
  · have a : nb19 (tk19 s t) v m = (false, 190, { tk19 s t with tv := 0, tc := 0 }) := if_pos h1
    have b : nb19 s v m = (false, 190, { s with tv := 0, tc := 0 }) := if_pos h1
    rw [a, b]; rfl
  · by_cases h2 : 128 ≤ v
    · have a : nb19 (tk19 s t) v m = (false, 0, { tk19 s t with tv := tkVal s.tv s.tc v, tc := s.tc + 1 }) := (if_neg h1).trans (if_pos h2)
      have b : nb19 s v m = (false, 0, { s with tv := tkVal s.tv s.tc v, tc := s.tc + 1 }) := (if_neg h1).trans (if_pos h2)
      rw [a, b]; rfl
    · have a : nb19 (tk19 s t) v m = ((s.cn + 1) % m == 0, 0, { ((tk19 ({ s with tv := 0, tc := 0 } : R19) t).put s.cn.toNat (mx19 (tkVal s.tv s.tc v))) with cn := (s.cn + 1) % m }) := (if_neg h1).trans (if_neg h2)
      have b : nb19 s v m = ((s.cn + 1) % m == 0, 0, { (({ s with tv := 0, tc := 0 } : R19).put s.cn.toNat (mx19 (tkVal s.tv s.tc v))) with cn := (s.cn + 1) % m }) := (if_neg h1).trans (if_neg h2)
      rw [a, b, put_tk19]; rfl
theorem dg_tk19 (s : R19) (e : E19) (v t : Int) : dg19 (tk19 s t) e v = ((dg19 s e v).1, (dg19 s e v).2.1, tk19 (dg19 s e v).2.2.1 t, (dg19 s e v).2.2.2) := by
  by_cases h1 : s.nx = 1
  · rw [dg19_1 (s := tk19 s t) e v h1, dg19_1 e v h1]
    by_cases h : v = mag18.getD s.cn.toNat 0
    · have a : mg19 (tk19 s t) v = (0, { tk19 s t with cn := (s.cn + 1) % 5, nx := if (s.cn + 1) % 5 = 0 then 2 else s.nx }) := if_pos h
      have b : mg19 s v = (0, { s with cn := (s.cn + 1) % 5, nx := if (s.cn + 1) % 5 = 0 then 2 else s.nx }) := if_pos h
      rw [a, b]; rfl
    · have a : mg19 (tk19 s t) v = (190, tk19 s t) := if_neg h
      have b : mg19 s v = (190, s) := if_neg h
      rw [a, b]
  by_cases h2 : s.nx = 2
  · rw [dg19_2 (s := tk19 s t) e v h2, dg19_2 e v h2]
    unfold hn19
    rw [nb_tk19]
    cases (nb19 s v 4).1 <;> rfl
  by_cases h3 : s.nx = 3
  · rw [dg19_3 (s := tk19 s t) e v h3, dg19_3 e v h3]; rfl
  by_cases h4 : s.nx = 4
  · rw [dg19_4 (s := tk19 s t) e v h4, dg19_4 e v h4]
    by_cases a1 : (wd19 s).1 = true
    · by_cases a2 : s.hd.Ok
      · have a : hs19 (tk19 s t) e = (true, 0, { tk19 s t with cn := (s.cn + 1) % 4, nx := go19 s }, { e019 with kd := 1, hd := s.hd }) := (if_pos a1).trans (if_pos a2)
        have b : hs19 s e = (true, 0, { s with cn := (s.cn + 1) % 4, nx := go19 s }, { e019 with kd := 1, hd := s.hd }) := (if_pos a1).trans (if_pos a2)
        rw [a, b]; rfl
      · have a : hs19 (tk19 s t) e = (false, 190, { tk19 s t with cn := (s.cn + 1) % 4 }, e) := (if_pos a1).trans (if_neg a2)
        have b : hs19 s e = (false, 190, { s with cn := (s.cn + 1) % 4 }, e) := (if_pos a1).trans (if_neg a2)
        rw [a, b]; rfl
    · have a : hs19 (tk19 s t) e = (false, (wd19 s).2, { tk19 s t with cn := (s.cn + 1) % 4 }, e) := if_neg a1
      have b : hs19 s e = (false, (wd19 s).2, { s with cn := (s.cn + 1) % 4 }, e) := if_neg a1
      rw [a, b]; rfl
  by_cases h5 : s.nx = 5
  · rw [dg19_5 (s := tk19 s t) e v h5, dg19_5 e v h5]
    unfold sz19
    rw [nb_tk19]
    generalize nb19 s v 7 = r
    obtain ⟨r1, r2, r3⟩ := r
    dsimp only
    cases r1
    · rfl
    · rw [if_pos rfl, if_pos rfl]
      show (if ft18 r3.hd r3.wn (zs19 r3) = 0 then _ else _) = _
      by_cases hf : ft18 r3.hd r3.wn (zs19 r3) = 0
      · rw [if_pos hf, if_pos hf]; rfl
      · rw [if_neg hf, if_neg hf]
  by_cases h6 : s.nx = 6
  · rw [dg19_6 (s := tk19 s t) e v h6, dg19_6 e v h6]
    unfold sm19
    have hk : ∀ k, sk19 (tk19 s t) k = tk19 (sk19 s k) t := fun k => by
      unfold sk19
      by_cases k0 : k = 0
      · rw [if_pos k0, if_pos k0]; rfl
      · rw [if_neg k0, if_neg k0]
        by_cases k1 : k = 1
        · rw [if_pos k1, if_pos k1]; rfl
        · rw [if_neg k1, if_neg k1]; rfl
    rw [show (op19 (tk19 s t).l0 (tk19 s t).l1 (tk19 s t).l2) = op19 s.l0 s.l1 s.l2 from rfl, hk]
    generalize sk19 s (op19 s.l0 s.l1 s.l2).1 = q
    show (_, _, (if (op19 q.l0 q.l1 q.l2).2 = true then _ else _), _) = _
    by_cases hf : (op19 q.l0 q.l1 q.l2).2 = true
    · rw [if_pos hf, if_pos hf]; rfl
    · rw [if_neg hf, if_neg hf]; rfl
  · unfold dg19
    rw [if_neg (show ¬ (tk19 s t).nx = 1 from h1), if_neg (show ¬ (tk19 s t).nx = 2 from h2), if_neg (show ¬ (tk19 s t).nx = 3 from h3), if_neg (show ¬ (tk19 s t).nx = 4 from h4), if_neg (show ¬ (tk19 s t).nx = 5 from h5), if_neg (show ¬ (tk19 s t).nx = 6 from h6), if_neg h1, if_neg h2, if_neg h3, if_neg h4, if_neg h5, if_neg h6]
    by_cases a1 : (wd19 s).1 = true
    · have a : es19 (tk19 s t) e = (true, 0, { tk19 s t with cn := (s.cn + 1) % 4, nx := 8 }, { e019 with kd := 4 }) := if_pos a1
      have b : es19 s e = (true, 0, { s with cn := (s.cn + 1) % 4, nx := 8 }, { e019 with kd := 4 }) := if_pos a1
      rw [a, b]; rfl
    · have a : es19 (tk19 s t) e = (false, (wd19 s).2, { tk19 s t with cn := (s.cn + 1) % 4 }, e) := if_neg a1
      have b : es19 s e = (false, (wd19 s).2, { s with cn := (s.cn + 1) % 4 }, e) := if_neg a1
      rw [a, b]; rfl
theorem ful_tk19 : ∀ (z : List Int) (s : R19) (l : List E19) (t : Int), ful19 (tk19 s t) l z = ful19 s l z
  | [], s, l, t => rfl
  | v :: r, s, l, t => by
    rw [ful19, ful19]
    rw [show am19 (tk19 s t) v = tk19 (am19 s v) t from rfl, dg_tk19]
    show (if s.nx = 8 then _ else _) = _
    dsimp only
    split
    · rfl
    · split
      · rfl
      · exact ful_tk19 r _ _ t
def sv19 (k : Int) (B : List Int) : E19 := { e019 with kd := 3, st := k, bs := B }
theorem psh19_sv (l : List E19) (k : Int) (B : List Int) (v : Int) : psh19 (psh19 l (sv19 k B)) (sv19 k [v]) = psh19 l (sv19 k (B ++ [v])) := by
  unfold psh19
  rw [if_neg (show ¬ (sv19 k B).kd = 0 by show ¬ (3 : Int) = 0; decide), if_neg (show ¬ (sv19 k [v]).kd = 0 by show ¬ (3 : Int) = 0; decide), if_neg (show ¬ (sv19 k (B ++ [v])).kd = 0 by show ¬ (3 : Int) = 0; decide)]
  cases hl : l.getLast? with
  | none =>
    dsimp only
    rw [List.getLast?_append]
    simp [sv19]
  | some y =>
    dsimp only
    by_cases hy : (sv19 k B).kd = 3 ∧ y.kd = 3 ∧ y.st = (sv19 k B).st
    · rw [if_pos hy, if_pos (show (sv19 k (B ++ [v])).kd = 3 ∧ y.kd = 3 ∧ y.st = (sv19 k (B ++ [v])).st from ⟨rfl, hy.2.1, hy.2.2⟩)]
      rw [List.getLast?_append]
      simp [sv19, hy.2.1, show y.st = k from hy.2.2]
    · rw [if_neg hy, if_neg (show ¬ ((sv19 k (B ++ [v])).kd = 3 ∧ y.kd = 3 ∧ y.st = (sv19 k (B ++ [v])).st) from fun x => hy ⟨rfl, x.2.1, x.2.2⟩)]
      rw [List.getLast?_append]
      simp [sv19]
/-- Is the last thing that was told of the stream at hand? -/
def pf19 (s : R19) (l : List E19) : Prop := ∃ y, l.getLast? = some y ∧ y.kd = 3 ∧ y.st = (op19 s.l0 s.l1 s.l2).1
/-- Few things are told. -/
structure CB19 (s : R19) (l : List E19) : Prop where
  a : s.nx ≤ 4 → l = []
  b : s.nx = 5 ∨ s.nx = 7 → (l.length : Int) ≤ 1 + 4 * s.wn
  c : s.nx = 6 → ¬ pf19 s l → (l.length : Int) + cS19 s.l0 s.l1 s.l2 ≤ 1 + 4 * s.wn
  d : s.nx = 6 → pf19 s l → (l.length : Int) + cS19 s.l0 s.l1 s.l2 ≤ 2 + 4 * s.wn
  e : s.nx = 8 → (l.length : Int) ≤ 2 + 4 * s.wn
theorem psh19_new {l : List E19} {x : E19} (h0 : x.kd ≠ 0) (h3 : ¬ (x.kd = 3 ∧ ∃ y, l.getLast? = some y ∧ y.kd = 3 ∧ y.st = x.st)) : psh19 l x = l ++ [x] := by
  unfold psh19
  rw [if_neg h0]
  cases hl : l.getLast? with
  | none => rfl
  | some y =>
    dsimp only
    rw [if_neg (fun hx : x.kd = 3 ∧ y.kd = 3 ∧ y.st = x.st => h3 ⟨hx.1, y, hl, hx.2.1, hx.2.2⟩)]
theorem psh19_old {l : List E19} {x y : E19} (hx : x.kd = 3) (hl : l.getLast? = some y) (hy : y.kd = 3 ∧ y.st = x.st) : psh19 l x = l.dropLast ++ [{ y with bs := y.bs ++ x.bs }] := by
  unfold psh19
  rw [if_neg (by rw [hx]; decide), hl]
  dsimp only
  rw [if_pos ⟨hx, hy.1, hy.2⟩]
theorem psh19_old_len {l : List E19} {x y : E19} (hx : x.kd = 3) (hl : l.getLast? = some y) (hy : y.kd = 3 ∧ y.st = x.st) : (psh19 l x).length = l.length := by
  rw [psh19_old hx hl hy]
  have : l ≠ [] := by intro e; rw [e] at hl; cases hl
  have := List.length_pos_iff.2 this
  simp
  omega
/-- The last of what was told, behind bytes of a stream. -/
theorem psh19_last (l : List E19) {x : E19} (hx : x.kd = 3) : ∃ y, (psh19 l x).getLast? = some y ∧ y.kd = 3 ∧ y.st = x.st := by
  by_cases h : ∃ y, l.getLast? = some y ∧ y.kd = 3 ∧ y.st = x.st
  · obtain ⟨y, hl, hy⟩ := h
    rw [psh19_old hx hl hy]
    exact ⟨{ y with bs := y.bs ++ x.bs }, by simp, hy.1, hy.2⟩
  · rw [psh19_new (by rw [hx]; decide) (fun y => h y.2)]
    exact ⟨x, by simp, hx, rfl⟩
/-- A byte of a stream. -/
theorem CB19.inn {s : R19} {l : List E19} {v : Int} (h : G19 s) (c : CB19 s l) (h6 : s.nx = 6) : CB19 (dg19 s e019 v).2.2.1 (psh19 l (dg19 s e019 v).2.2.2) ∧ ((dg19 s e019 v).1 = true → (dg19 s e019 v).2.2.1.nx = 6 → ¬ pf19 (dg19 s e019 v).2.2.1 (psh19 l (dg19 s e019 v).2.2.2)) := by
  obtain ⟨he, -, hw, hc⟩ := dg19_in e019 v h h6
  have hbd := cS19_bd (dg19 s e019 v).2.2.1.l0 (dg19 s e019 v).2.2.1.l1 (dg19 s e019 v).2.2.1.l2
  have hx3 : (dg19 s e019 v).2.2.2.kd = 3 := by rw [he]
  have hxs : (dg19 s e019 v).2.2.2.st = (op19 s.l0 s.l1 s.l2).1 := by rw [he]
  obtain ⟨y, hy, hy3, hys⟩ := psh19_last l hx3
  rw [hxs] at hys
  have hlen : (pf19 s l → (psh19 l (dg19 s e019 v).2.2.2).length = l.length) ∧ (¬ pf19 s l → (psh19 l (dg19 s e019 v).2.2.2).length = l.length + 1) := by
    refine ⟨fun hp => ?_, fun hp => ?_⟩
    · obtain ⟨y', a1, a2, a3⟩ := hp
      exact psh19_old_len hx3 a1 ⟨a2, a3.trans hxs.symm⟩
    · rw [psh19_new (by rw [hx3]; decide) (fun z => hp (by obtain ⟨y', a1, a2, a3⟩ := z.2; exact ⟨y', a1, a2, a3.trans hxs⟩))]
      simp
  generalize psh19 l (dg19 s e019 v).2.2.2 = l' at *
  generalize (dg19 s e019 v).2.2.1 = s' at *
  generalize (dg19 s e019 v).1 = wh at *
  have main : (l'.length : Int) + cS19 s'.l0 s'.l1 s'.l2 ≤ (if wh = true then 1 else 2) + 4 * s'.wn := by
    rw [hw]
    by_cases hp : pf19 s l
    · have h1 := c.d h6 hp
      have h2 := hlen.1 hp
      rcases hc with ⟨rfl, _, _, q⟩ | ⟨rfl, q, _⟩
      · rw [if_neg (by decide)]; omega
      · rw [if_pos rfl]; omega
    · have h1 := c.c h6 hp
      have h2 := hlen.2 hp
      rcases hc with ⟨rfl, _, _, q⟩ | ⟨rfl, q, _⟩
      · rw [if_neg (by decide)]; omega
      · rw [if_pos rfl]; omega
  rcases hc with ⟨rfl, n6, o, q⟩ | ⟨rfl, q, ⟨n6, o⟩ | n57⟩
  · rw [if_neg (by decide)] at main
    refine ⟨⟨fun x => by omega, fun x => by omega, fun _ hn => absurd ⟨y, hy, hy3, hys.trans o.symm⟩ hn, fun _ _ => main, fun x => by omega⟩, fun x => by cases x⟩
  · rw [if_pos rfl] at main
    have hn : ¬ pf19 s' l' := by
      rintro ⟨y', a1, a2, a3⟩
      rw [hy] at a1
      obtain rfl := Option.some.inj a1
      exact o (a3.symm.trans hys)
    exact ⟨⟨fun x => by omega, fun x => by omega, fun _ _ => main, fun _ hp => absurd hp hn, fun x => by omega⟩, fun _ _ => hn⟩
  · rw [if_pos rfl] at main
    exact ⟨⟨fun x => by omega, fun _ => by omega, fun x => by omega, fun x => by omega, fun x => by omega⟩, fun _ x => by omega⟩
/-- A byte of no stream. -/
theorem CB19.out {s : R19} {l : List E19} {v : Int} (h : G19 s) (c : CB19 s l) (h6 : s.nx ≠ 6) (h8 : s.nx ≠ 8) (he : (dg19 s e019 v).2.1 = 0) : CB19 (dg19 s e019 v).2.2.1 (psh19 l (dg19 s e019 v).2.2.2) ∧ ((dg19 s e019 v).1 = true → (dg19 s e019 v).2.2.1.nx = 6 → ¬ pf19 (dg19 s e019 v).2.2.1 (psh19 l (dg19 s e019 v).2.2.2)) := by
  have hn := h.nx
  rcases dg19_out e019 v h h6 h8 he with ⟨hw, hE, a6, a8, a4, a5, aw⟩ | ⟨hw, -, k0, k3, -, hh⟩
  · rw [hE, psh19_none, hw]
    generalize (dg19 s e019 v).2.2.1 = s' at *
    refine ⟨⟨fun x => ?_, fun x => ?_, fun x => absurd x a6, fun x => absurd x a6, fun x => absurd x a8⟩, fun x => by cases x⟩
    · by_cases h4 : s.nx ≤ 4
      · exact c.a h4
      · have := a5 (by omega); omega
    · by_cases h4 : s.nx ≤ 4
      · have := a4 h4; omega
      · have := a5 (by omega); rw [aw]; exact c.b (by omega)
  · rw [psh19_new k0 (fun x => k3 x.1)]
    have hbd := cS19_bd (dg19 s e019 v).2.2.1.l0 (dg19 s e019 v).2.2.1.l1 (dg19 s e019 v).2.2.1.l2
    generalize (dg19 s e019 v).2.2.1 = s' at *
    generalize (dg19 s e019 v).2.2.2 = x' at *
    have hnp : ¬ pf19 s' (l ++ [x']) := by
      rintro ⟨y', a1, a2, a3⟩
      rw [List.getLast?_append] at a1
      obtain rfl : x' = y' := by simpa using a1
      exact k3 a2
    have hlen : ((l ++ [x']).length : Int) = l.length + 1 := by simp
    have w0 := h.wn.2.1
    rcases hh with ⟨n4, w, n⟩ | ⟨n5, w, n⟩ | ⟨n7, w, n⟩
    · have := c.a (by omega)
      have w1 := w0 (by omega)
      rw [this] at hlen
      have hl1 : (([] : List E19).length : Int) = 0 := rfl
      rw [this]
      refine ⟨⟨fun x => by omega, fun _ => ?_, fun x => by omega, fun x => by omega, fun x => by omega⟩, fun _ x => by omega⟩
      rw [w, w1]; simp
    · have := c.b (.inl n5)
      exact ⟨⟨fun x => by omega, fun x => by omega, fun _ _ => by omega, fun _ hp => absurd hp hnp, fun x => by omega⟩, fun _ _ => hnp⟩
    · have := c.b (.inr n7)
      exact ⟨⟨fun x => by omega, fun x => by omega, fun x => by omega, fun x => by omega, fun _ => by omega⟩, fun _ x => by omega⟩
end Go.Proofs.YtpodakndckflgaaGreatDoor

namespace Go.Proofs.YtpodakndckflgaaGreatDoor
open Go.RowKit Go.Shelf
set_option linter.unusedVariables false
set_option linter.unusedSimpArgs false
theorem nb19_wr (s : R19) (v m : Int) : (nb19 s v m).2.2.wr = s.wr := by
  have hp : ∀ (q : R19) k y, (q.put k y).wr = q.wr := fun q k y => by unfold R19.put; split <;> rfl
  unfold nb19
  split
  · rfl
  · split
    · rfl
    · show (R19.put _ _ _).wr = _
      rw [hp]
theorem dg19_wr (s : R19) (e : E19) (v : Int) : (dg19 s e v).2.2.1.wr = s.wr := by
  unfold dg19
  split
  · unfold mg19; split <;> rfl
  split
  · show (hn19 s v).2.wr = s.wr
    unfold hn19; split <;> exact nb19_wr s v 4
  split
  · rfl
  split
  · unfold hs19
    split
    · split <;> rfl
    · rfl
  split
  · unfold sz19
    split
    · split <;> exact nb19_wr s v 7
    · exact nb19_wr s v 7
  split
  · have hk : ∀ k, (sk19 s k).wr = s.wr := fun k => by
      unfold sk19
      split
      · rfl
      · split <;> rfl
    unfold sm19
    dsimp only
    split
    · exact hk _
    · exact hk _
  · unfold es19; split <;> rfl
/-- What is told so far in this call. -/
def Ac19 (s : R19) (e : E19) : Prop := e = e019 ∨ (s.nx = 6 ∧ e = sv19 (op19 s.l0 s.l1 s.l2).1 e.bs)
structure Ru19 (s : R19) (e : E19) (k : Nat) (l : List E19) (z rest : List Int) (r : Int × Nat × R19 × E19) : Prop where
  fu : ful19 s (psh19 l e) (z ++ rest) = ful19 r.2.2.1 (psh19 l r.2.2.2) (z.drop (r.2.1 - k) ++ rest)
  g : G19 r.2.2.1
  cb : CB19 r.2.2.1 (psh19 l r.2.2.2)
  k0 : k ≤ r.2.1
  k1 : r.2.1 ≤ k + z.length
  en : r.2.1 = k + z.length ∨ r.2.2.1.nx = 8 ∨ (r.2.2.1.nx = 6 → ¬ pf19 r.2.2.1 (psh19 l r.2.2.2))
  ac : r.2.2.2 = e019 ∨ (r.2.2.2.kd ≠ 0 ∧ r.2.2.2.kd ≠ 3) ∨ (s.nx = 6 ∧ r.2.2.2.kd = 3 ∧ r.2.2.2.st = (op19 s.l0 s.l1 s.l2).1)
  bb : ∀ v ∈ r.2.2.2.bs, 0 ≤ v ∧ v ≤ 255
  bl : r.2.2.2.bs.length ≤ e.bs.length + z.length
  wr : r.2.2.1.wr = s.wr
  mv : z ≠ [] → s.nx ≠ 8 → k < r.2.1
theorem Ac19.ac {s : R19} {e : E19} (h : Ac19 s e) : e = e019 ∨ (e.kd ≠ 0 ∧ e.kd ≠ 3) ∨ (s.nx = 6 ∧ e.kd = 3 ∧ e.st = (op19 s.l0 s.l1 s.l2).1) := by
  rcases h with h | ⟨h6, h⟩
  · exact .inl h
  · exact .inr (.inr ⟨h6, by rw [h]; rfl, by rw [h]; rfl⟩)
theorem psh19_ac {s : R19} {e : E19} {v : Int} (l : List E19) (hG : G19 s) (ha : Ac19 s e) (h8 : s.nx ≠ 8) (he : (dg19 (am19 s v) e v).2.1 = 0) : psh19 (psh19 l e) (dg19 (am19 s v) e019 v).2.2.2 = psh19 l (dg19 (am19 s v) e v).2.2.2 := by
  by_cases h6 : s.nx = 6
  · have d1 := (dg19_in e v (hG.am v) h6).1
    have d0 := (dg19_in e019 v (hG.am v) h6).1
    rw [d0, d1]
    rcases ha with rfl | ⟨-, ha⟩
    · rfl
    · rw [ha]
      exact psh19_sv l _ e.bs v
  · rcases ha with rfl | ⟨x, -⟩
    · rfl
    · exact absurd x h6
theorem run_inv19 : ∀ (z : List Int) (s : R19) (e : E19) (k : Nat) (l : List E19) (rest : List Int), (∀ v ∈ z, 0 ≤ v ∧ v ≤ 255) → (∀ v ∈ e.bs, 0 ≤ v ∧ v ≤ 255) → G19 s → Ac19 s e → CB19 s (psh19 l e) →
    ((run19 dg19 s e k z).1 ≠ 0 → (ful19 s (psh19 l e) (z ++ rest)).1 = (run19 dg19 s e k z).1) ∧ ((run19 dg19 s e k z).1 = 0 → Ru19 s e k l z rest (run19 dg19 s e k z))
  | [], s, e, k, l, rest, hz, hb, hG, ha, hc => by
    refine ⟨fun h => absurd rfl h, fun _ => ?_⟩
    exact ⟨by show _ = ful19 s (psh19 l e) (([] : List Int).drop (k - k) ++ rest); rw [Nat.sub_self]; rfl, hG, hc, Nat.le_refl _, Nat.le_refl _, .inl rfl, ha.ac, hb, Nat.le_refl _, rfl, fun x => absurd rfl x⟩
  | v :: r, s, e, k, l, rest, hz, hb, hG, ha, hc => by
    have hv := hz v (List.mem_cons_self ..)
    by_cases h8 : s.nx = 8
    · rw [run19_over h8]
      refine ⟨fun h => absurd rfl h, fun _ => ?_⟩
      exact ⟨by show _ = ful19 s (psh19 l e) ((v :: r).drop (k - k) ++ rest); rw [Nat.sub_self]; rfl, hG, hc, Nat.le_refl _, Nat.le_add_right _ _, .inr (.inl h8), ha.ac, hb, Nat.le_add_right _ _, rfl, fun _ x => absurd h8 x⟩
    obtain ⟨q1, q2, q3⟩ := dg19_e (am19 s v) e v
    by_cases he : (dg19 (am19 s v) e v).2.1 = 0
    · rw [run19_wh h8 he]
      have he0 : (dg19 (am19 s v) e019 v).2.1 = 0 := by rw [← q2]; exact he
      have hgn := g19_any (hG.am v) hv h8 he
      have hps := psh19_ac l hG ha h8 he
      have hcn : CB19 (dg19 (am19 s v) e v).2.2.1 (psh19 l (dg19 (am19 s v) e v).2.2.2) ∧ ((dg19 (am19 s v) e v).1 = true → (dg19 (am19 s v) e v).2.2.1.nx = 6 → ¬ pf19 (dg19 (am19 s v) e v).2.2.1 (psh19 l (dg19 (am19 s v) e v).2.2.2)) := by
        have hc' : CB19 (am19 s v) (psh19 l e) := ⟨hc.a, hc.b, hc.c, hc.d, hc.e⟩
        rw [← hps, q1, q3]
        by_cases h6 : s.nx = 6
        · exact CB19.inn (hG.am v) hc' h6
        · exact CB19.out (hG.am v) hc' h6 h8 he0
      have hfu : ful19 s (psh19 l e) (v :: r ++ rest) = ful19 (dg19 (am19 s v) e v).2.2.1 (psh19 l (dg19 (am19 s v) e v).2.2.2) (r ++ rest) := by
        show ful19 s (psh19 l e) (v :: (r ++ rest)) = _
        rw [ful19, if_neg h8, if_neg (by simp [he0]), hps, q3]
      have hbn : ∀ x ∈ (dg19 (am19 s v) e v).2.2.2.bs, 0 ≤ x ∧ x ≤ 255 := by
        by_cases h6 : s.nx = 6
        · rw [(dg19_in e v (hG.am v) h6).1]
          intro x hx
          rcases List.mem_append.1 hx with h | h
          · exact hb x h
          · rw [List.mem_singleton.1 h]; exact hv
        · rcases dg19_out e v (hG.am v) h6 h8 he with ⟨_, hE, _⟩ | ⟨_, _, _, _, hE, _⟩
          · rw [hE]; exact hb
          · rw [hE]; intro x hx; cases hx
      have hbl := dg19_bs (s := am19 s v) (e := e) (v := v) hG.nx
      have hwr : (dg19 (am19 s v) e v).2.2.1.wr = s.wr := dg19_wr (am19 s v) e v
      have hac : (dg19 (am19 s v) e v).2.2.2 = e019 ∨ ((dg19 (am19 s v) e v).2.2.2.kd ≠ 0 ∧ (dg19 (am19 s v) e v).2.2.2.kd ≠ 3) ∨ (s.nx = 6 ∧ (dg19 (am19 s v) e v).2.2.2.kd = 3 ∧ (dg19 (am19 s v) e v).2.2.2.st = (op19 s.l0 s.l1 s.l2).1) := by
        by_cases h6 : s.nx = 6
        · rw [(dg19_in e v (hG.am v) h6).1]
          exact .inr (.inr ⟨h6, rfl, rfl⟩)
        · rcases dg19_out e v (hG.am v) h6 h8 he with ⟨_, hE, _⟩ | ⟨_, _, k0, k3, _, _⟩
          · rw [hE]
            rcases ha with ha | ⟨x, _⟩
            · exact .inl ha
            · exact absurd x h6
          · exact .inr (.inl ⟨k0, k3⟩)
      by_cases hw : (dg19 (am19 s v) e v).1 = true
      · rw [if_pos hw]
        refine ⟨fun h => absurd rfl h, fun _ => ?_⟩
        refine ⟨?_, hgn, hcn.1, Nat.le_succ _, ?_, .inr (.inr (hcn.2 hw)), hac, hbn, ?_, hwr, fun _ _ => Nat.lt_succ_self _⟩
        · show _ = ful19 _ _ ((v :: r).drop (k + 1 - k) ++ rest)
          rw [show k + 1 - k = 1 by omega, hfu]
          rfl
        · show k + 1 ≤ k + (r.length + 1); omega
        · exact Nat.le_trans hbl (by show e.bs.length + 1 ≤ e.bs.length + (r.length + 1); omega)
      · rw [if_neg hw]
        have han : Ac19 (dg19 (am19 s v) e v).2.2.1 (dg19 (am19 s v) e v).2.2.2 := by
          by_cases h6 : s.nx = 6
          · obtain ⟨d1, _, _, d4⟩ := dg19_in e v (hG.am v) h6
            rcases d4 with ⟨_, n6, o, _⟩ | ⟨x, _⟩
            · refine .inr ⟨n6, ?_⟩
              rw [d1, o]
              rcases ha with rfl | ⟨_, ha⟩
              · rfl
              · rw [ha]; rfl
            · exact absurd x hw
          · rcases dg19_out e v (hG.am v) h6 h8 he with ⟨_, hE, _⟩ | ⟨x, _⟩
            · rw [hE]
              rcases ha with ha | ⟨x, _⟩
              · exact .inl ha
              · exact absurd x h6
            · exact absurd x hw
        have hop : (dg19 (am19 s v) e v).2.2.1.nx = 6 → s.nx = 6 ∧ (op19 (dg19 (am19 s v) e v).2.2.1.l0 (dg19 (am19 s v) e v).2.2.1.l1 (dg19 (am19 s v) e v).2.2.1.l2).1 = (op19 s.l0 s.l1 s.l2).1 := fun n6 => by
          by_cases h6 : s.nx = 6
          · obtain ⟨_, _, _, d4⟩ := dg19_in e v (hG.am v) h6
            rcases d4 with ⟨_, _, o, _⟩ | ⟨x, _⟩
            · exact ⟨h6, o⟩
            · exact absurd x hw
          · rcases dg19_out e v (hG.am v) h6 h8 he with ⟨_, _, x, _⟩ | ⟨x, _⟩
            · exact absurd n6 x
            · exact absurd x hw
        have IH := run_inv19 r (dg19 (am19 s v) e v).2.2.1 (dg19 (am19 s v) e v).2.2.2 (k + 1) l rest (fun x hx => hz x (List.mem_cons_of_mem _ hx)) hbn hgn han hcn.1
        rw [hfu]
        refine ⟨IH.1, fun h0 => ?_⟩
        obtain ⟨i1, i2, i3, i4, i5, i6, i7, i8, i9, i10, i11⟩ := IH.2 h0
        generalize run19 dg19 (dg19 (am19 s v) e v).2.2.1 (dg19 (am19 s v) e v).2.2.2 (k + 1) r = R at *
        refine ⟨?_, i2, i3, by omega, ?_, ?_, ?_, i8, ?_, i10.trans hwr, fun _ _ => by omega⟩
        · rw [hfu, i1]
          rw [show R.2.1 - k = (R.2.1 - (k + 1)) + 1 by omega]
          rfl
        · show _ ≤ k + (r.length + 1); omega
        · rcases i6 with i6 | i6
          · left; show _ = k + (r.length + 1); omega
          · exact .inr i6
        · rcases i7 with i7 | i7 | ⟨a1, a2, a3⟩
          · exact .inl i7
          · exact .inr (.inl i7)
          · obtain ⟨b1, b2⟩ := hop a1
            exact .inr (.inr ⟨b1, a2, a3.trans b2⟩)
        · show _ ≤ e.bs.length + (r.length + 1); omega
    · rw [run19_err h8 he]
      refine ⟨fun _ => ?_, fun h => absurd h he⟩
      show (ful19 s (psh19 l e) (v :: (r ++ rest))).1 = _
      rw [ful19, if_neg h8, if_pos (by rw [← q2]; exact he)]
      exact q2.symm
end Go.Proofs.YtpodakndckflgaaGreatDoor

namespace Go.Proofs.YtpodakndckflgaaGreatDoor
open Go.RowKit Go.Shelf
set_option linter.unusedVariables false
set_option linter.unusedSimpArgs false
abbrev X19 := E19 × Option Addr × Nat
def fe19 (L : List X19) : List Value := L.flatMap fun x => (x.1.cs x.2.1 x.2.2).toList
structure Le19 (base : Nat) (v : Value) (L : List X19) (w : World) : Prop where
  own : w.ownsRow base 39 16 v L.length (fe19 L)
  seg : ∀ x ∈ L, Seg w x.2.1 x.1.bs
  ap : ∀ x ∈ L, ∀ b off, x.2.1 = some ⟨b, off, none⟩ → 0 < x.1.bs.length → base ≤ b ∧ v.ownBlock ≠ some b
theorem own_kq19 {w w' : World} {S : Nat → Prop} {base n sz : Nat} {e : TypeId} {v : Value} {xs : List Value} (h : w.ownsRow base e sz v n xs) (hb : Kp S w w') (hn : ∀ x, v.ownBlock = some x → ¬ S x) : w'.ownsRow base e sz v n xs := by
  refine ⟨h.1, ?_⟩
  rcases h.2 with h | ⟨g, cap, cur, h1, h2, h3, h4⟩
  · exact .inl h
  · exact .inr ⟨g, cap, cur, h1, h2, hb.heap h3 (hn g (by rw [h1]; rfl)), h4⟩
theorem Le19.nil (base : Nat) (w : World) : Le19 base (.slice none 0 0) [] w := ⟨World.ownsRow_nil _ _ _ _, (fun _ h => by cases h), (fun _ h => by cases h)⟩
theorem Le19.kp {base : Nat} {v : Value} {L : List X19} {w w' : World} {S : Nat → Prop} (h : Le19 base v L w) (hk : Kp S w w') (hS : ∀ k, S k → k < base) : Le19 base v L w' :=
  ⟨own_kq19 h.own hk (fun k e x => by have := (h.own.lt k e).1; have := hS k x; omega), fun x hx => (h.seg x hx).kp hk (fun b off e hp y => by have := (h.ap x hx b off e hp).1; have := hS b y; omega), h.ap⟩
theorem Le19.old {base : Nat} {v : Value} {L : List X19} {w w' : World} (h : Le19 base v L w) (hb : Below w.heap.size w w') : Le19 base v L w' := h.kp (Kp.of_below (S := fun _ => False) hb) (fun _ x => x.elim)
theorem Le19.sl {base : Nat} {v : Value} {L : List X19} {w : World} (h : Le19 base v L w) : ∃ p c, v = .slice p L.length c := own_sl18 h.own
theorem info_ev20 : (Tryz.prog.info? 39).map (fun i => (i.zero, i.size, i.bytes)) = some (some (.agg #[.int .i64 0, .int .i64 0, .int .i64 0, .int .u32 0, .int .u32 0, .int .i64 0, .int .i64 0, .int .i64 0, .int .i64 0, .int .i64 0, .int .i64 0, .int .i64 0, .int .i64 0, .int .i64 0, .int .i64 0, .slice none 0 0]), 16, 136) := by kernel_rfl
theorem evc_one19 (e : E19) (p : Option Addr) (c : Nat) : ∀ u ∈ (e.cs p c).toList, u.oneCell' = true := by
  have := evc_all19 e p c
  intro u hu
  exact Array.all_eq_true_iff_forall_mem.1 this u (Array.mem_toList_iff.1 hu)
/-- One more event: the append. -/
theorem Le19.push {base : Nat} {v : Value} {L : List X19} {V : World} (h : Le19 base v L V) (e : E19) (p : Option Addr) (c : Nat) (hn : L.length + 1 ≤ 1000000000) (hb : base ≤ V.heap.size) (hs : Seg V p e.bs) (hp : ∀ b off, p = some ⟨b, off, none⟩ → 0 < e.bs.length → base ≤ b ∧ v.ownBlock ≠ some b) :
    ∃ g rc w', (Builtin.append_ #[24, 24] 24 #[v, .slice (some ⟨V.heap.size, 0, none⟩) 1 1]).run Tryz.prog (V.alloc (.cells (e.cs p c) 39)) = .ok (.slice (some ⟨g, 0, none⟩) (L.length + 1) rc) w' ∧
      Le19 base (.slice (some ⟨g, 0, none⟩) (L.length + 1) rc) (L ++ [(e, p, c)]) w' ∧ Kp (fun k => base ≤ k) V w' := by
  obtain ⟨i0, hi, hz0, hz1, hz2⟩ := info_parts info_ev20
  obtain ⟨g, rc, w', hr, h1, h2, h3, h4⟩ := run_append_lies (P := Tryz.prog) (V.alloc (.cells (e.cs p c) 39)) 24 24 base 39 i0 _ 16 136 Tryz.underlying24 hi hz0 hz1 hz2 rfl (by omega) v L.length (fe19 L) (h.own.alloc _) ⟨V.heap.size, 0, none⟩ 1 1 (e.cs p c).toList rfl
    (World.news_of_block (heap_alloc_new V (.cells (e.cs p c) 39 (0, 0)))) (evc_one19 e p c) (by omega) (by unfold maxLen; omega) (by omega) (by simp; omega) (V.heap.size + 1) (by simp)
  have k : Kp (fun k => v.ownBlock = some k) V w' := (Kp.alloc V _).trans (Kp.grown (S := fun k => v.ownBlock = some k) h2 (fun i e => e)) (fun _ _ e => e)
  refine ⟨g, rc, w', hr, ⟨?_, ?_, ?_⟩, k.mono (fun q _ x => (h.own.lt q x).1)⟩
  · rw [show (L ++ [(e, p, c)]).length = L.length + 1 by simp, show fe19 (L ++ [(e, p, c)]) = fe19 L ++ (e.cs p c).toList by simp [fe19]]
    exact h1
  · intro x hx
    rcases List.mem_append.1 hx with hx | hx
    · exact (h.seg x hx).kp k (fun b off e' hp' y => (h.ap x hx b off e' hp').2 y)
    · obtain rfl := List.mem_singleton.1 hx
      exact hs.kp k (fun b off e' hp' y => (hp b off e' hp').2 y)
  · intro x hx b off e' hp'
    have hgo : ∀ b', b' < V.heap.size → v.ownBlock ≠ some b' → (Value.slice (some ⟨g, 0, none⟩) (L.length + 1) rc).ownBlock ≠ some b' := fun b' hl hv hx => by
      have hx : some g = some b' := hx
      injection hx with hx
      rcases h3 with y | y
      · rw [hx] at y; exact hv y
      · omega
    rcases List.mem_append.1 hx with hx | hx
    · obtain ⟨a1, a2⟩ := h.ap x hx b off e' hp'
      exact ⟨a1, hgo b ((h.seg x hx).lt b off e' hp') a2⟩
    · obtain rfl := List.mem_singleton.1 hx
      obtain ⟨a1, a2⟩ := hp b off e' hp'
      exact ⟨a1, hgo b (hs.lt b off e' hp') a2⟩
/-- An event of the list: its cells. -/
theorem Le19.row {base : Nat} {v : Value} {L : List X19} {w : World} (h : Le19 base v L w) {i : Nat} {x : X19} (hx : L[i]? = some x) : ∃ g c, v = .slice (some ⟨g, 0, none⟩) L.length c ∧ ∀ j, j < 16 → w.cell? ⟨g, i * 16 + j, none⟩ = (x.1.cs x.2.1 x.2.2)[j]? := by
  have hl := (List.getElem?_eq_some_iff.1 hx).1
  obtain ⟨-, h2 | ⟨g, cap, cur, hv, _⟩⟩ := h.own
  · omega
  refine ⟨g, cap, hv, fun j hj => ?_⟩
  have ho := h.own
  rw [hv] at ho
  rw [ho.cellAt (i * 16 + j) (by omega)]
  have key : ∀ (M : List X19) (i : Nat) (x : X19), M[i]? = some x → (fe19 M)[i * 16 + j]? = (x.1.cs x.2.1 x.2.2)[j]? := by
    intro M
    induction M with
    | nil => intro i x hx; cases hx
    | cons m M ih =>
      intro i x hx
      have hm : ((m.1.cs m.2.1 m.2.2).toList).length = 16 := rfl
      show ((m.1.cs m.2.1 m.2.2).toList ++ fe19 M)[i * 16 + j]? = _
      cases i with
      | zero =>
        obtain rfl : m = x := by simpa using hx
        rw [List.getElem?_append_left (by rw [hm]; omega)]
        simp
      | succ i =>
        rw [List.getElem?_append_right (by rw [hm]; omega), hm, show (i + 1) * 16 + j - 16 = i * 16 + j by omega]
        exact ih i x (by simpa using hx)
  exact key L i x hx
end Go.Proofs.YtpodakndckflgaaGreatDoor

namespace Go.Proofs.YtpodakndckflgaaGreatDoor
open Go.RowKit Go.Shelf
set_option linter.unusedVariables false
set_option linter.unusedSimpArgs false
open Classical in
noncomputable def al19 (z : List Int) : Int × List E19 :=
  if (ful19 (s019 1) [] z).1 ≠ 0 then ((ful19 (s019 1) [] z).1, []) else if (ful19 (s019 1) [] z).2.1 ≠ 8 then (192, []) else if (ful19 (s019 1) [] z).2.2.2 ≠ [] then (190, []) else (0, (ful19 (s019 1) [] z).2.2.1)
def AlQ19 (w : World) (z : List Int) (e : Ending) (w' : World) : Prop :=
  Below w.heap.size w w' ∧ (((al19 z).1 ≠ 0 ∧ e = .returned (.tuple #[.slice none 0 0, .int .i64 (al19 z).1])) ∨ ((al19 z).1 = 0 ∧ ∃ vO L, e = .returned (.tuple #[vO, .int .i64 0]) ∧ L.map (·.1) = (al19 z).2 ∧ Le19 (w.heap.size + 1) vO L w'))
def lnv19 : Value → Nat
  | .slice _ n _ => n
  | _ => 0
structure Ai19 (w : World) (pb : Nat) (z : List Int) (s : R19) (L : List X19) (zr : List Int) (a : Option Addr) (cp : Nat) (vO : Value) (V : World) : Prop where
  st : St19 V pb 60 s
  le : Le19 (pb + 1) vO L V
  sg : Seg V a zr
  cc : zr.length ≤ cp
  al : ∀ x off, a = some ⟨x, off, none⟩ → 0 < zr.length → x < pb
  g : G19 s
  cb : CB19 s (L.map (·.1))
  wr : s.wr = 0
  tk : 0 ≤ s.tk ∧ s.tk + zr.length ≤ z.length
  fu : ful19 s (L.map (·.1)) zr = ful19 (s019 1) [] z
  np : zr = [] ∨ (s.nx = 6 → ¬ pf19 s (L.map (·.1)))
  bl : Below pb w V
  sz : pb < V.heap.size
theorem g19_new : G19 (s019 1) := by
  refine ⟨by decide, tk00 ⟨rfl, rfl⟩, fun _ _ => ⟨rfl, rfl⟩, by decide, fun x => ?_, fun x => ?_, by decide, fun x => ?_, by decide⟩
  · exact absurd x (by decide)
  · exact absurd x (by decide)
  · exact absurd x (by decide)
theorem cb19_new : CB19 (s019 1) [] := ⟨fun _ => rfl, fun x => by rcases x with x | x <;> exact absurd x (by decide), fun x => absurd x (by decide), fun x => absurd x (by decide), fun x => absurd x (by decide)⟩
theorem G19.tkk {s : R19} (h : G19 s) (t : Int) : G19 (tk19 s t) := ⟨h.nx, h.tk, h.t0, h.cn, h.im, h.ok, h.wn, h.st, h.lf⟩
theorem CB19.tkk {s : R19} {l : List E19} (h : CB19 s l) (t : Int) : CB19 (tk19 s t) l := ⟨h.a, h.b, h.c, h.d, h.e⟩
/-- Few things are told. -/
theorem CB19.few {s : R19} {l : List E19} (h : CB19 s l) (g : G19 s) : l.length + 1 ≤ 1000000000 := by
  have hn := g.nx
  have hw := g.wn
  have hb := (win18_bd s.hd).2.1
  have hs := cS19_bd s.l0 s.l1 s.l2
  by_cases h4 : s.nx ≤ 4
  · rw [h.a h4]; decide
  · have hw := hw.2.2 (by omega)
    rcases (by omega : s.nx = 5 ∨ s.nx = 6 ∨ s.nx = 7 ∨ s.nx = 8) with x | x | x | x
    · have := h.b (.inl x); omega
    · by_cases hp : pf19 s l
      · have := h.d x hp; omega
      · have := h.c x hp; omega
    · have := h.b (.inr x); omega
    · have := h.e x; omega
/-- A step that was right. -/
theorem Ai19.go {w : World} {pb : Nat} {z : List Int} {s : R19} {L L' : List X19} {zr : List Int} {a : Option Addr} {cp : Nat} {vO vO' : Value} {V V' : World} (h : Ai19 w pb z s L zr a cp vO V)
    (r : Int × Nat × R19 × E19) (hr : Ru19 s e019 0 (L.map (·.1)) zr [] r) (hL : L'.map (·.1) = psh19 (L.map (·.1)) r.2.2.2) (hst : St19 V' pb 60 (tk19 r.2.2.1 (s.tk + r.2.1))) (hle : Le19 (pb + 1) vO' L' V') (hk : Kp (fun k => pb ≤ k) V V') :
    Ai19 w pb z (tk19 r.2.2.1 (s.tk + r.2.1)) L' (zr.drop r.2.1) (rs16 a cp r.2.1) (cp - r.2.1) vO' V' := by
  have k1 : r.2.1 ≤ zr.length := by have := hr.k1; omega
  obtain ⟨sg, sa⟩ := seg_rs16 (c := cp) (d := r.2.1) h.sg k1 h.cc
  have hl : (zr.drop r.2.1).length = zr.length - r.2.1 := by simp
  have hal : ∀ x off, rs16 a cp r.2.1 = some ⟨x, off, none⟩ → 0 < (zr.drop r.2.1).length → x < pb := fun x off e hp => by
    obtain ⟨o, ho⟩ := sa x off e hp
    exact h.al x o ho (by omega)
  refine ⟨hst, hle, sg.kp hk (fun x off e hp y => by have := hal x off e hp; have y : pb ≤ x := y; omega), by have := h.cc; omega, hal, hr.g.tkk _, ?_, ?_, ?_, ?_, ?_, ?_, ?_⟩
  · rw [hL]; exact hr.cb.tkk _
  · exact hr.wr.trans h.wr
  · have := h.tk
    show 0 ≤ s.tk + (r.2.1 : Int) ∧ s.tk + (r.2.1 : Int) + ((zr.drop r.2.1).length : Int) ≤ z.length
    omega
  · rw [ful_tk19, hL]
    have := hr.fu
    rw [psh19_none, List.append_nil, List.append_nil, Nat.sub_zero] at this
    rw [← this]
    exact h.fu
  · rw [hL]
    rcases hr.en with x | x | x
    · left; rw [x]; simp
    · right; intro y; exact absurd (y.symm.trans x) (by decide)
    · right; exact x
  · exact h.bl.trans (hk.below (fun _ x => x) (Nat.le_of_lt h.sz))
  · have := h.sz; have := hk.size; omega
end Go.Proofs.YtpodakndckflgaaGreatDoor
