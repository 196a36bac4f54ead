import Derived.Test.YtmddnmpldmdllaaDoorPo
import Derived.Test.YtmddnmpldmdllaaDoorPb
import Derived.Deep.RegionLaw
import Derived.Deep.RegionHeld3
import Derived.Test.YtmddnmpldmdllaaDoorPc
import Derived.Test.YtmddnmpldmdllaaDoorPg
namespace Go.Proofs.YtmddnmpldmdllaaDoor
open Go.RowKit
set_option linter.unusedVariables false

/-! The landed swell: load, coded, put. -/
theorem errD_pln : errD 288 plnL9 = 0 ∧ errD 32 plnD9 = 0 := ⟨by kernel_rfl, by kernel_rfl⟩
theorem pln_len11 : plnL9.length = 288 ∧ plnD9.length = 32 := ⟨by kernel_rfl, by kernel_rfl⟩
theorem pln_ok11 : errC plnL9 = 0 ∧ errC plnD9 = 0 := ⟨by kernel_rfl, by kernel_rfl⟩
theorem plnL9_bd11 : ∀ z ∈ plnL9, -9223372036854775808 ≤ z ∧ z ≤ 9223372036854775807 := fun z hz => by
  have := (errS_zero (errC_zero pln_ok11.1).1).2 z hz
  omega
theorem plnD9_bd11 : ∀ z ∈ plnD9, -9223372036854775808 ≤ z ∧ z ≤ 9223372036854775807 := fun z hz => by
  have := (errS_zero (errC_zero pln_ok11.2).1).2 z hz
  omega
theorem own_shape1' {w : World} {base n : Nat} {e : TypeId} {a : Option Addr} {cap : Nat} {xs : List Value} (h : w.ownsRow base e 1 (.slice a n cap) n xs) (hn : 0 < n) : ∃ g, a = some ⟨g, 0, none⟩ ∧ n ≤ cap ∧ base ≤ g ∧ g < w.heap.size := by
  obtain ⟨g, cp, hv, h1, h2, h3⟩ := own_shape h hn
  simp only [Value.slice.injEq] at hv
  exact ⟨g, hv.1, by rw [hv.2.2]; exact h1, h2, h3⟩
section
variable {w w' : World} {b g S : Nat} {L K L' K' : List Int} {H H' : List Bool} {t t' dl dd hd : Nat} {win lim nx : Int} {last : Bool} {Q : Nat → Prop} {bf np pc tk : Nat} {pa : Option Addr} {most : Int} {out : Value}
theorem below_box8' (w : World) (o : Obj) : Below w.heap.size w (w.alloc o) := (Below.refl _ _).alloc (Nat.le_refl _) _
/-- Blocks that part. -/
structure Df (b g dl dd bf : Nat) : Prop where
  bg : b ≠ g
  b1 : b ≠ dl
  b2 : b ≠ dd
  b3 : b ≠ bf
  g1 : g ≠ dl
  g2 : g ≠ dd
  g3 : g ≠ bf
  d1 : dl ≠ dd
  d2 : dl ≠ bf
  d3 : dd ≠ bf
set_option maxRecDepth 100000 in
set_option maxHeartbeats 2000000 in
theorem psw_load (z1 z2 : List Int) (gl gd lc dc : Nat) (F : Df b g dl dd bf) (h : Sw w b g S L K H t dl dd hd win lim nx last) (D1 : De w dl 288 z1) (D2 : De w dd 32 z2) (sL : SegZ w (some ⟨gl, 0, none⟩) plnL9) (sD : SegZ w (some ⟨gd, 0, none⟩) plnD9) (hgd : gd ≠ dl) :
    Calls Tryd.prog 43 #[.pointer (some ⟨b, 0, none⟩), .slice (some ⟨gl, 0, none⟩) 288 lc, .slice (some ⟨gd, 0, none⟩) 32 dc] w fun e w' => e = .returned (.tuple #[]) ∧ Sw w' b g S L K H t dl dd hd win lim 4 last ∧ De w' dl 288 plnL9 ∧ De w' dd 32 plnD9 ∧ Kp (fun k => k = b ∨ k = dl ∨ k = dd) w w' := by
  have c5 := h.cell 5 _ rfl
  have C1 := load_any dl 288 z1 (some ⟨gl, 0, none⟩) plnL9 288 lc pln_len11.1 w D1 sL (by omega)
  unfold LodQ at C1
  rw [errD_pln.1, if_pos rfl] at C1
  have HH : Hid (Sw w b g S L K H t dl dd hd win lim nx last) := h
  have HD2 : Hid (De w dd 32 z2) := D2
  have HSD : Hid (SegZ w (some ⟨gd, 0, none⟩) plnD9) := sD
  clear h D1 D2 sL sD
  go_enter Tryd.func43, Tryd.ntmps43
  go_wp2_with fail
  refine C1.mono ?_
  rintro e w1 ⟨rfl, E1, k1⟩
  have h1 := HH.out.kp k1 F.b1 F.g1
  have D2 := HD2.out.keep (k1.block dd (by obtain ⟨S, _, _, q⟩ := HD2.out.row; exact (Array.getElem?_eq_some_iff.1 q).1) (fun e => F.d1 e.symm))
  have C2 := load_any dd 32 z2 (some ⟨gd, 0, none⟩) plnD9 32 dc pln_len11.2 w1 D2 (HSD.out.kp k1 (fun g' o' e _ => by cases e; exact hgd)) (by omega)
  unfold LodQ at C2
  rw [errD_pln.2, if_pos rfl] at C2
  have c6 := h1.cell 6 _ rfl
  have HH1 : Hid (Sw w1 b g S L K H t dl dd hd win lim nx last) := h1
  have HE1 : Hid (De w1 dl 288 plnL9) := E1
  have HK1 : Hid (Kp (fun k => k = dl) w w1) := k1
  clear C1 h1 E1 k1 D2 c5
  go_wp2_with fail
  refine C2.mono ?_
  rintro e w2 ⟨rfl, E2, k2⟩
  have h2 := HH1.out.kp k2 F.b2 F.g2
  have E1 := HE1.out.keep (k2.block dl (by obtain ⟨S, _, _, q⟩ := HE1.out.row; exact (Array.getElem?_eq_some_iff.1 q).1) F.d1)
  have c10 := h2.cell 10 _ rfl
  have f10 := h2.free 10
  have h3 := h2.setNx 4
  have k3 : Kp (fun k => k = b) w2 (w2.setCell ⟨b, 10, none⟩ (.int .i64 4)) := Kp.set (S := fun k => k = b) rfl _
  have HFIN : Hid (Sw (w2.setCell ⟨b, 10, none⟩ (.int .i64 4)) b g S L K H t dl dd hd win lim 4 last ∧ De (w2.setCell ⟨b, 10, none⟩ (.int .i64 4)) dl 288 plnL9 ∧ De (w2.setCell ⟨b, 10, none⟩ (.int .i64 4)) dd 32 plnD9 ∧ Kp (fun k => k = b ∨ k = dl ∨ k = dd) w (w2.setCell ⟨b, 10, none⟩ (.int .i64 4))) := by
    refine ⟨h3, E1.keep (k3.block dl (by obtain ⟨S, _, _, q⟩ := E1.row; exact (Array.getElem?_eq_some_iff.1 q).1) (fun e => F.b1 e.symm)), E2.keep (k3.block dd (by obtain ⟨S, _, _, q⟩ := E2.row; exact (Array.getElem?_eq_some_iff.1 q).1) (fun e => F.b2 e.symm)), ?_⟩
    exact ((HK1.out.mono (S' := fun k => k = b ∨ k = dl ∨ k = dd) (fun _ _ e => .inr (.inl e))).trans k2 (fun _ _ e => .inr (.inr e))).trans k3 (fun _ _ e => .inl e)
  clear C2 h2 h3 k3 k2 E1 E2 c6
  go_wp2_with fail
  refine bodyPost_end (results_none rfl _ _ _) rfl ?_
  exact ⟨rfl, HFIN.out⟩
set_option maxRecDepth 100000 in
set_option maxHeartbeats 2000000 in
/-- coded, where a symbol is there. -/
theorem psw_coded_beg (s : Nat) (hB : Beg plnL9 H s) (hU : ∀ s', Beg plnL9 H s' → s' = s) (F : Df b g dl dd bf) (h : Sw w b g S L K H t dl dd hd win lim nx last) (D1 : De w dl 288 plnL9) (ht : t ≤ 4611686018427387000) :
    Calls Tryd.prog 50 #[.pointer (some ⟨b, 0, none⟩), .pointer (some ⟨dl, 0, none⟩)] w fun e w' => e = .returned (.tuple #[.int .i64 (s : Int), .bool true]) ∧ Sw w' b g S L K (H.drop (ln plnL9 s)) (t + ln plnL9 s) dl dd hd win lim nx last ∧ Kp (fun k => k = b) w w' := by
  have C := next5_o dl 288 plnL9 b H t w D1 h.rdr ht
  have HH : Hid (Sw w b g S L K H t dl dd hd win lim nx last) := h
  clear h D1
  go_enter Tryd.func50, Tryd.ntmps50
  go_wp2_with fail
  refine C.mono ?_
  rintro e w1 ⟨hq, hk⟩
  clear C
  rcases hq with ⟨s', h1, rfl, h2⟩ | ⟨h1, _⟩ | ⟨h1, _⟩
  · have e := hU s' h1
    subst e
    have H3 : Hid (Sw w1 b g S L K (H.drop (ln plnL9 s')) (t + ln plnL9 s') dl dd hd win lim nx last) := HH.out.ofR h2 hk
    clear h2 h1 hB hU
    go_wp2_with fail
    go_ret2
    exact ⟨rfl, H3.out, hk⟩
  · exact absurd hB (h1 s)
  · exact absurd hB (h1 s)
set_option maxRecDepth 100000 in
set_option maxHeartbeats 2000000 in
/-- coded, where more bits are wanted. -/
theorem psw_coded_may (hN : ∀ s, ¬ Beg plnL9 H s) (hM : May plnL9 H) (F : Df b g dl dd bf) (h : Sw w b g S L K H t dl dd hd win lim nx last) (D1 : De w dl 288 plnL9) (ht : t ≤ 4611686018427387000) :
    Calls Tryd.prog 50 #[.pointer (some ⟨b, 0, none⟩), .pointer (some ⟨dl, 0, none⟩)] w fun e w' => e = .returned (.tuple #[.int .i64 0, .bool false]) ∧ Sw w' b g S L K H t dl dd hd win lim nx last ∧ Kp (fun k => k = b) w w' := by
  have C := next5_o dl 288 plnL9 b H t w D1 h.rdr ht
  have HH : Hid (Sw w b g S L K H t dl dd hd win lim nx last) := h
  clear h D1
  go_enter Tryd.func50, Tryd.ntmps50
  go_wp2_with fail
  refine C.mono ?_
  rintro e w1 ⟨hq, hk⟩
  clear C
  rcases hq with ⟨s', h1, _⟩ | ⟨h1, _, rfl, h2⟩ | ⟨h1, hm2, _⟩
  · exact absurd h1 (hN s')
  · have h3 := HH.out.ofR h2 hk
    clear h2 h1 hN hM
    go_wp2_with fail
    go_ret2
    exact ⟨rfl, h3, hk⟩
  · exact absurd hM hm2
set_option maxRecDepth 100000 in
set_option maxHeartbeats 2000000 in
/-- put, where one may come: the first. -/
theorem psw_put (x : Int) (hx : 0 ≤ x ∧ x ≤ 255) (F : Df b g dl dd bf) (h : Sw w b g S L K H t dl dd hd win lim nx last) (hf : Fl w bf pa np pc tk most (.slice none 0 0)) (h1 : 0 ≤ lim ∧ lim ≤ 268435456) (h2 : (L.length : Int) < lim) :
    Calls Tryd.prog 47 #[.pointer (some ⟨b, 0, none⟩), .pointer (some ⟨bf, 0, none⟩), .int .u8 x] w fun e w' => e = .returned (.tuple #[]) ∧ ∃ K' og oc, Sw w' b g S (L ++ [x]) K' H t dl dd hd win lim nx last ∧ Fl w' bf pa np pc tk most (.slice (some ⟨og, 0, none⟩) 1 oc) ∧ w'.ownsRow w.heap.size 5 1 (.slice (some ⟨og, 0, none⟩) 1 oc) 1 [.int .u8 x] ∧ Kp (fun k => k = b ∨ k = g ∨ k = bf) w w' := by
  obtain ⟨iu, hiu, hu0, hu1, hu2⟩ := info_parts info_u8w
  have CS := psw_spare h h1 h2
  have HH : Hid (Sw w b g S L K H t dl dd hd win lim nx last) := h
  have HF : Hid (Fl w bf pa np pc tk most (.slice none 0 0)) := hf
  clear h hf
  go_enter Tryd.func47, Tryd.ntmps47
  go_wp2_with fail
  refine CS.mono ?_
  rintro e w1 ⟨rfl, b1⟩
  clear CS
  have ba := below_box8' w1 (.cells #[.int .u8 x] 5)
  have B1 : Below w.heap.size w (w1.alloc (.cells #[.int .u8 x] 5)) := b1.trans (ba.mono b1.size)
  have hS1 := HH.out.old B1
  have hF1 := HF.out.kp (Kp.of_below (S := fun _ => False) B1) (fun e => e)
  have hsg : Seg (w1.alloc (.cells #[.int .u8 x] 5)) (some ⟨w1.heap.size, 0, none⟩) [x] := by
    have hh := heap_alloc_new w1 (.cells #[.int .u8 x] 5)
    refine ⟨fun i hi => ⟨w1.heap.size, 0, rfl, ?_⟩, by decide, getD_bd (by decide) (by intro z hz; simp at hz; omega)⟩
    simp only [List.length_cons, List.length_nil] at hi
    obtain rfl : i = 0 := by omega
    rw [Nat.zero_add, cell_of_row _ _ 0 _ _ _ hh]
    rfl
  have hbw := HH.out.b_lt
  have hgw := HH.out.g_lt
  have hw1 := b1.size
  have hfw : bf < w.heap.size := (Array.getElem?_eq_some_iff.1 HF.out.hp).1
  have CP := pput_k_o (some ⟨w1.heap.size, 0, none⟩) [x] 1 1 rfl hS1.ring hsg (by omega) (fun e => by cases e) (fun x' o' e _ => by cases e; omega) (by omega)
  have HSa : Hid (Sw (w1.alloc (.cells #[.int .u8 x] 5)) b g S L K H t dl dd hd win lim nx last) := hS1
  have HFa : Hid (Fl (w1.alloc (.cells #[.int .u8 x] 5)) bf pa np pc tk most (.slice none 0 0)) := hF1
  have HBa : Hid (Below w.heap.size w (w1.alloc (.cells #[.int .u8 x] 5))) := B1
  clear hS1 hF1 B1 ba b1 hsg
  go_wp2_with fail
  refine CP.mono ?_
  rintro e w2 ⟨rfl, K', hR, kR⟩
  have hS2 := HSa.out.ofO hR
  have hF2 := HFa.out.kp kR (by rintro (e | e); exact F.b3 e.symm; exact F.g3 e.symm)
  have c3 := hF2.cell 3 _ rfl
  have f3 := hF2.free 3
  have hw2 : w.heap.size ≤ w2.heap.size := Nat.le_trans HBa.out.size kR.size
  have HS2 : Hid (Sw w2 b g S (L ++ [x]) K' H t dl dd hd win lim nx last) := hS2
  have HF2 : Hid (Fl w2 bf pa np pc tk most (.slice none 0 0)) := hF2
  have HK2 : Hid (Kp (fun k => k = b ∨ k = g ∨ k = bf) w w2) := ((Kp.of_below (S := fun k => k = b ∨ k = g ∨ k = bf) HBa.out).trans kR (fun _ _ e => by rcases e with e | e; exact .inl e; exact .inr (.inl e)))
  clear CP hR kR hS2 hF2
  go_wp2_with (at_builtin; refine wpList_app1 rfl (.tmp 18) (.tmp 20) 22 rfl w.heap.size 5 iu (.int .u8 0) 1 Tryd.underlying22 hiu hu0 hu1 hu2 rfl w2 (.int .u8 x) rfl (World.ownsRow_nil _ _ _ _) rfl rfl (by omega) (by omega) hw2 ?_; intro og oc w3 hown3 hg3 hf3; have k3 : Kp (fun _ => False) w2 w3 := (Kp.grown (S := fun _ => False) hg3 (fun i e => by simp [Value.ownBlock] at e)); have hF3 := HF2.out.kp k3 (fun e => e); have d3 := hF3.cell 3 _ rfl; have df := hF3.free 3)
  have hS3 := HS2.out.kp k3 (fun e => e) (fun e => e)
  have hF4 := hF3.setOut (.slice (some ⟨og, 0, none⟩) 1 oc)
  have k4 : Kp (fun k => k = bf) w3 (w3.setCell ⟨bf, 3, none⟩ (.slice (some ⟨og, 0, none⟩) 1 oc)) := Kp.set (S := fun k => k = bf) rfl _
  have hS4 := hS3.kp k4 F.b3 F.g3
  have hog := hown3.lt og rfl
  have O4 := own_kp hown3 k4 (fun k e => by
    have e2 : k = og := by simpa [Value.ownBlock] using e.symm
    intro e3
    omega)
  refine bodyPost_end (results_none rfl _ _ _) rfl ?_
  exact ⟨rfl, K', og, oc, hS4, hF4, O4, (HK2.out.trans k3 (fun _ _ e => e.elim)).trans k4 (fun _ _ e => .inr (.inr e))⟩
end
end Go.Proofs.YtmddnmpldmdllaaDoor

namespace Go.Proofs.YtmddnmpldmdllaaDoor
open Go.RowKit
set_option linter.unusedVariables false

/-! The landed swell: begin, symbol. -/
section
variable {w w' : World} {b g S : Nat} {L K L' K' : List Int} {H H' : List Bool} {t t' dl dd hd : Nat} {win lim nx : Int} {last : Bool} {Q : Nat → Prop} {bf np pc tk : Nat} {pa : Option Addr} {most : Int} {out : Value}
set_option maxRecDepth 100000 in
set_option maxHeartbeats 2000000 in
/-- begin, where its bits are not there. -/
theorem psw_begin_no (fv : Value) (hH : H.length < 3) (h : Sw w b g S L K H t dl dd hd win lim nx last) (ht : t ≤ 4611686018427387000) :
    Calls Tryd.prog 31 #[.pointer (some ⟨b, 0, none⟩), fv] w fun e w' => e = .returned (.bool false) ∧ Sw w' b g S L K H t dl dd hd win lim nx last ∧ Kp (fun k => k = b) w w' := by
  have C := take_any_o b H t 3 w h.rdr (by omega)
  have hth : there H 3 = false := by unfold there; exact decide_eq_false (by omega)
  rw [hth] at C
  have e1 : takeL H 3 = H := by unfold takeL; rw [hth]; rfl
  have e2 : takeT H t 3 = t := by unfold takeT; rw [hth]; rfl
  rw [e1, e2] at C
  generalize takeV H 3 = V at *
  have HH : Hid (Sw w b g S L K H t dl dd hd win lim nx last) := h
  clear h hth e1 e2
  go_enter Tryd.func31, Tryd.ntmps31
  go_wp2_with fail
  refine C.mono ?_
  rintro e w1 ⟨rfl, h1, h2⟩
  have k1 : Kp (fun k => k = b) w w1 := Kp.grown h2 (fun i hi => by cases hi; rfl)
  have h3 := HH.out.ofR h1 k1
  clear C h1 h2
  go_wp2_with fail
  go_ret
  exact ⟨rfl, h3, k1⟩
set_option maxRecDepth 100000 in
set_option maxHeartbeats 4000000 in
/-- begin of a Plain block, the last. -/
theorem psw_begin_plain (fv : Value) (R : List Bool) (z1 z2 : List Int) (hH : H = true :: true :: false :: R) (F : Df b g dl dd bf) (h : Sw w b g S L K H t dl dd hd win lim nx last) (D1 : De w dl 288 z1) (D2 : De w dd 32 z2) (ht : t ≤ 4611686018427387000) :
    Calls Tryd.prog 31 #[.pointer (some ⟨b, 0, none⟩), fv] w fun e w' => e = .returned (.bool true) ∧ Sw w' b g S L K R (t + 3) dl dd hd win lim 4 true ∧ De w' dl 288 plnL9 ∧ De w' dd 32 plnD9 ∧ Kp (fun k => k = b ∨ k = dl ∨ k = dd) w w' := by
  have C := take_any_o b H t 3 w h.rdr (by omega)
  have hth : there H 3 = true := by unfold there; rw [hH]; simp; omega
  rw [hth] at C
  have e1 : takeL H 3 = R := by unfold takeL; rw [hth, hH]; rfl
  have e2 : takeT H t 3 = t + 3 := by unfold takeT; rw [hth]; rfl
  have e3 : takeV H 3 = 3 := by unfold takeV; rw [hth, hH]; rfl
  rw [e1, e2, e3] at C
  have HH : Hid (Sw w b g S L K H t dl dd hd win lim nx last) := h
  have HD : Hid (De w dl 288 z1 ∧ De w dd 32 z2) := ⟨D1, D2⟩
  have a1 : bits .and .u64 3 1 = 1 := by decide
  clear h hth e1 e2 e3 D1 D2
  go_enter Tryd.func31, Tryd.ntmps31
  go_wp2_with fail
  refine C.mono ?_
  rintro e w1 ⟨rfl, h1, h2⟩
  have k1 : Kp (fun k => k = b) w w1 := Kp.grown h2 (fun i hi => by cases hi; rfl)
  have h3 := HH.out.ofR h1 k1
  have c11 := h3.cell 11 _ rfl
  have f11 := h3.free 11
  have h4 := h3.setLast true
  have k4 : Kp (fun k => k = b) w (w1.setCell ⟨b, 11, none⟩ (.bool true)) := k1.trans (Kp.set (S := fun k => k = b) rfl _) (fun _ _ e => e)
  have H4 : Hid (Sw (w1.setCell ⟨b, 11, none⟩ (.bool true)) b g S L K R (t + 3) dl dd hd win lim nx true) := h4
  have HK4 : Hid (Kp (fun k => k = b) w (w1.setCell ⟨b, 11, none⟩ (.bool true))) := k4
  clear C h1 h2 h3 h4 k1 k4
  go_wp2_with fail
  generalize w1.setCell ⟨b, 11, none⟩ (.bool true) = w2 at *
  refine (pplain9 w2).mono ?_
  rintro e w3 ⟨la, lc, da, rfl, o1, o2, _, b3⟩
  obtain ⟨gl, rfl, hlc, hgl, hgl2⟩ := own_shape1' o1 (by omega)
  have s1 : SegZ w3 (some ⟨gl, 0, none⟩) plnL9 := own_segZ o1 plnL9_bd11
  have s2 : SegZ w3 (some ⟨da, 0, none⟩) plnD9 := own_segZ o2 plnD9_bd11
  have hda := (o2.lt da rfl).1
  have lt1 : dl < w.heap.size := by obtain ⟨S, _, _, q⟩ := HD.out.1.row; exact (Array.getElem?_eq_some_iff.1 q).1
  have lt2 : dd < w.heap.size := by obtain ⟨S, _, _, q⟩ := HD.out.2.row; exact (Array.getElem?_eq_some_iff.1 q).1
  have kk := HK4.out.size
  have E1 := (HD.out.1.keep (HK4.out.block dl lt1 (fun e => F.b1 e.symm))).keep (b3.block dl (by omega))
  have E2 := (HD.out.2.keep (HK4.out.block dd lt2 (fun e => F.b2 e.symm))).keep (b3.block dd (by omega))
  have CL := psw_load z1 z2 gl da lc 32 F (H4.out.old b3) E1 E2 s1 s2 (by omega)
  have HB3 : Hid (Below w2.heap.size w2 w3) := b3
  clear o1 o2 s1 s2 E1 E2 b3 hgl hgl2 hda
  go_wp2_with fail
  refine CL.mono ?_
  rintro e w4 ⟨rfl, h5, E1, E2, k5⟩
  have k6 : Kp (fun k => k = b ∨ k = dl ∨ k = dd) w w4 := ((HK4.out.mono (S' := fun k => k = b ∨ k = dl ∨ k = dd) (fun _ _ e => .inl e)).trans (Kp.of_below (S := fun _ => False) HB3.out) (fun _ _ e => e.elim)).trans k5 (fun _ _ e => e)
  clear CL k5
  go_wp2_with fail
  go_ret
  exact ⟨rfl, h5, E1, E2, k6⟩
set_option maxRecDepth 100000 in
set_option maxHeartbeats 2000000 in
theorem psw_sym_may (hN : ∀ s, ¬ Beg plnL9 H s) (hM : May plnL9 H) (F : Df b g dl dd bf) (h : Sw w b g S L K H t dl dd hd win lim nx last) (D1 : De w dl 288 plnL9) (ht : t ≤ 4611686018427387000) :
    Calls Tryd.prog 35 #[.pointer (some ⟨b, 0, none⟩), .pointer (some ⟨bf, 0, none⟩)] w fun e w' => e = .returned (.bool false) ∧ Sw w' b g S L K H t dl dd hd win lim nx last ∧ Kp (fun k => k = b) w w' := by
  have C := psw_coded_may hN hM F h D1 ht
  have c5 := h.cell 5 _ rfl
  clear h D1 hN hM
  go_enter Tryd.func35, Tryd.ntmps35
  go_wp2_with fail
  refine C.mono ?_
  rintro e w1 ⟨rfl, h1, k1⟩
  clear C c5
  go_wp2_with fail
  go_ret
  exact ⟨rfl, h1, k1⟩
set_option maxRecDepth 100000 in
set_option maxHeartbeats 2000000 in
theorem psw_sym_put (s : Nat) (hs : s < 256) (hB : Beg plnL9 H s) (hU : ∀ s', Beg plnL9 H s' → s' = s) (F : Df b g dl dd bf) (h : Sw w b g S L K H t dl dd hd win lim nx last) (hf : Fl w bf pa np pc tk most (.slice none 0 0)) (D1 : De w dl 288 plnL9) (ht : t ≤ 4611686018427387000) (h1 : 0 ≤ lim ∧ lim ≤ 268435456) (h2 : (L.length : Int) < lim) :
    Calls Tryd.prog 35 #[.pointer (some ⟨b, 0, none⟩), .pointer (some ⟨bf, 0, none⟩)] w fun e w' => e = .returned (.bool true) ∧ ∃ K' og oc, Sw w' b g S (L ++ [(s : Int)]) K' (H.drop (ln plnL9 s)) (t + ln plnL9 s) dl dd hd win lim nx last ∧ Fl w' bf pa np pc tk most (.slice (some ⟨og, 0, none⟩) 1 oc) ∧ w'.ownsRow w.heap.size 5 1 (.slice (some ⟨og, 0, none⟩) 1 oc) 1 [.int .u8 (s : Int)] ∧ Kp (fun k => k = b ∨ k = g ∨ k = bf) w w' := by
  have C := psw_coded_beg s hB hU F h D1 ht
  have c5 := h.cell 5 _ rfl
  have hsi : (s : Int) < 256 := by omega
  have iw : IntKind.u8.wrap (s : Int) = (s : Int) := by rw [IntKind.wrap_u8]; omega
  have HF : Hid (Fl w bf pa np pc tk most (.slice none 0 0)) := hf
  clear h D1 hB hU hf
  obtain ⟨H2, hH2⟩ : ∃ H2, H2 = H.drop (ln plnL9 s) := ⟨_, rfl⟩
  obtain ⟨t2, ht2⟩ : ∃ t2, t2 = t + ln plnL9 s := ⟨_, rfl⟩
  rw [← hH2, ← ht2] at C ⊢
  clear hH2 ht2
  go_enter Tryd.func35, Tryd.ntmps35
  go_wp2_with fail
  refine C.mono ?_
  rintro e w1 ⟨rfl, h3, k1⟩
  have CP := psw_put (s : Int) (by omega) F h3 (HF.out.kp k1 (fun e => F.b3 e.symm)) h1 h2
  have HK1 : Hid (Kp (fun k => k = b) w w1) := k1
  clear C c5 h3 k1
  go_wp2_with fail
  refine CP.mono ?_
  rintro e w2 ⟨rfl, K', og, oc, h4, h5, O, k2⟩
  have HE : Hid (∃ K' og oc, Sw w2 b g S (L ++ [(s : Int)]) K' H2 t2 dl dd hd win lim nx last ∧ Fl w2 bf pa np pc tk most (.slice (some ⟨og, 0, none⟩) 1 oc) ∧ w2.ownsRow w.heap.size 5 1 (.slice (some ⟨og, 0, none⟩) 1 oc) 1 [.int .u8 (s : Int)] ∧ Kp (fun k => k = b ∨ k = g ∨ k = bf) w w2) := ⟨K', og, oc, h4, h5, own_base O HK1.out.size, (HK1.out.mono (S' := fun k => k = b ∨ k = g ∨ k = bf) (fun _ _ e => .inl e)).trans k2 (fun _ _ e => e)⟩
  clear CP h4 h5 O k2
  go_wp2_with fail
  go_ret
  exact ⟨rfl, HE.out⟩
set_option maxRecDepth 100000 in
set_option maxHeartbeats 2000000 in
theorem psw_sym_end (hB : Beg plnL9 H 256) (hU : ∀ s', Beg plnL9 H s' → s' = 256) (F : Df b g dl dd bf) (h : Sw w b g S L K H t dl dd hd win lim nx true) (D1 : De w dl 288 plnL9) (ht : t ≤ 4611686018427387000) :
    Calls Tryd.prog 35 #[.pointer (some ⟨b, 0, none⟩), .pointer (some ⟨bf, 0, none⟩)] w fun e w' => e = .returned (.bool true) ∧ Sw w' b g S L K (H.drop (ln plnL9 256)) (t + ln plnL9 256) dl dd hd win lim 9 true ∧ Kp (fun k => k = b) w w' := by
  have C := psw_coded_beg 256 hB hU F h D1 ht
  have c5 := h.cell 5 _ rfl
  clear h D1 hB hU
  obtain ⟨H2, hH2⟩ : ∃ H2, H2 = H.drop (ln plnL9 256) := ⟨_, rfl⟩
  obtain ⟨t2, ht2⟩ : ∃ t2, t2 = t + ln plnL9 256 := ⟨_, rfl⟩
  rw [← hH2, ← ht2] at C ⊢
  clear hH2 ht2
  go_enter Tryd.func35, Tryd.ntmps35
  go_wp2_with fail
  refine C.mono ?_
  rintro e w1 ⟨rfl, h3, k1⟩
  have CE := psw_end h3
  clear C c5 h3
  go_wp2_with fail
  refine CE.mono ?_
  rintro e w2 ⟨rfl, h4, k2⟩
  have k3 := k1.trans k2 (fun _ _ e => e)
  clear CE k1 k2
  go_wp2_with fail
  go_ret
  exact ⟨rfl, h4, k3⟩
end
end Go.Proofs.YtmddnmpldmdllaaDoor

namespace Go.Proofs.YtmddnmpldmdllaaDoor
open Go.RowKit
set_option linter.unusedVariables false

/-! The landed swell: feed. -/
section
variable {w w' : World} {b g S : Nat} {L K L' K' : List Int} {H H' : List Bool} {t t' dl dd hd : Nat} {win lim nx : Int} {last : Bool} {Q : Nat → Prop} {bf np pc tk : Nat} {pa : Option Addr} {most : Int} {out : Value}
set_option maxRecDepth 100000 in
set_option maxHeartbeats 2000000 in
/-- feed, where one is there. -/
theorem psw_feed (pg po : Nat) (p : List Int) (hpl : Hid (p.length = np)) (h : Sw w b g S L K H t dl dd hd win lim nx last) (hf : Fl w bf (some ⟨pg, po, none⟩) np pc tk most out) (hs : Seg w (some ⟨pg, po, none⟩) p) (htk : tk < np) (hnc : np ≤ pc) (hpc : pc ≤ 140737488355328) (hH : H.length ≤ 56) (hbf : b ≠ bf) (hpb : pg ≠ b) (hgf : g ≠ bf) :
    Calls Tryd.prog 26 #[.pointer (some ⟨b, 0, none⟩), .pointer (some ⟨bf, 0, none⟩)] w fun e w' => e = .returned (.bool true) ∧ Sw w' b g S L K (H ++ bN (p.getD tk 0).toNat 8) t dl dd hd win lim nx last ∧ Fl w' bf (some ⟨pg, po, none⟩) np pc (tk + 1) most out ∧ Kp (fun k => k = b ∨ k = bf) w w' := by
  have c0 := hf.cell 0 _ rfl
  have c1 := hf.cell 1 _ rfl
  have f1 := hf.free 1
  have hlt : (tk : Int) < (np : Int) := by omega
  have hne : ¬ (tk : Int) = (np : Int) := by omega
  have hneb : ((tk : Int) == (np : Int)) = false := by rw [beq_eq_false_iff_ne]; exact hne
  have i1 : IntKind.i64.wrap ((tk : Int) + 1) = (tk : Int) + 1 := IntWalk.i64_in _ (by omega)
  have hsg : Seg w (some ⟨pg, po + tk, none⟩) [p.getD tk 0] := by
    have h1 := (hs.drop tk).take 1
    rwa [show (p.drop tk).take 1 = [p.getD tk 0] by
      have hl : tk < p.length := by rw [hpl.out]; exact htk
      rw [List.drop_eq_getElem_cons hl, List.take_succ_cons, List.take_zero]
      simp [List.getD, hl]] at h1
  have HCF : Hid (∀ (W' : World) (a' : Option Addr) (n' c' : Nat), Kp (fun _ => False) w W' → a' = some ⟨pg, po + tk, none⟩ → n' = 1 → 1 ≤ c' → Calls Tryd.prog 40 #[.pointer (some ⟨b, 2, none⟩), .slice a' n' c'] W' fun e w' => e = .returned (.int .i64 1) ∧ Sw w' b g S L K (H ++ bN (p.getD tk 0).toNat 8) t dl dd hd win lim nx last ∧ Kp (fun k => k = b) W' w') := fun W' a' n' c' hW ha hn hc => by
    subst ha hn
    have h2 := h.kp hW (fun e => e) (fun e => e)
    have := feed_any_o b H t (some ⟨pg, po + tk, none⟩) [p.getD tk 0] c' W' h2.rdr (hsg.kp hW (fun _ _ _ _ e => e)) hc (fun g' o' e _ => by cases e; exact hpb) (by simp)
    have e1 : feedN H [p.getD tk 0].length = 1 := by unfold feedN; simp only [List.length_cons, List.length_nil]; omega
    rw [e1, show ([p.getD tk 0].take 1) = [p.getD tk 0] from rfl, bB_one] at this
    refine this.mono ?_
    rintro e w' ⟨rfl, hr, hk⟩
    exact ⟨rfl, h2.ofR hr hk, hk⟩
  have HF : Hid (Fl w bf (some ⟨pg, po, none⟩) np pc tk most out) := hf
  clear h hf hs hsg
  go_enter Tryd.func26, Tryd.ntmps26
  go_wp2_with fail
  go_region
  go_wp2_with fail
  have hk0 : Kp (fun _ => False) w w.drew.drew := ((Kp.refl _ w).drew).drew
  have c0 : w.drew.drew.cell? ⟨bf, 0, none⟩ = some (.slice (some ⟨pg, po, none⟩) np pc) := c0
  have c1 : w.drew.drew.cell? ⟨bf, 1, none⟩ = some (.int .i64 (tk : Int)) := c1
  have hcc : (tk : Int) + 1 ≤ (pc : Int) := by omega
  have h0t : (0 : Int) ≤ (tk : Int) := by omega
  have h01 : (0 : Int) ≤ (tk : Int) + 1 := by omega
  have hpt : ¬ pc = tk := by omega
  go_region_law ((go_simp; go_at_call 40; refine (HCF.out _ _ _ _ hk0 (by first | rfl | (simp; done)) (by omega) (by omega)).mono ?_; rintro e w1 ⟨rfl, hS1, hK1⟩; have hF1 : Fl w1 bf (some ⟨pg, po, none⟩) np pc tk most out := (HF.out.kp hk0 (fun e => e)).kp hK1 (fun e => hbf e.symm); have d0 := hF1.cell 0 _ rfl; have d1 := hF1.cell 1 _ rfl; have df := hF1.free 1))
  all_goals
    have hF2 : Fl (w1.setCell ⟨bf, 1, none⟩ (.int .i64 ((tk : Int) + 1))) bf (some ⟨pg, po, none⟩) np pc (tk + 1) most out := hF1.setTk (tk + 1)
    have hK2 : Kp (fun k => k = bf) w1 (w1.setCell ⟨bf, 1, none⟩ (.int .i64 ((tk : Int) + 1))) := Kp.set (S := fun k => k = bf) rfl _
    have hS2 := hS1.kp hK2 hbf hgf
    have hK3 : Kp (fun k => k = b ∨ k = bf) w (w1.setCell ⟨bf, 1, none⟩ (.int .i64 ((tk : Int) + 1))) := ((hk0.mono (S' := fun k => k = b ∨ k = bf) (fun _ _ e => e.elim)).trans hK1 (fun _ _ e => .inl e)).trans hK2 (fun _ _ e => .inr e)
    clear hF1 hS1 hK1 hK2 d0 d1 df
    go_wp2_with fail
    go_ret
    exact ⟨rfl, hS2, hF2, hK3⟩
end
end Go.Proofs.YtmddnmpldmdllaaDoor

namespace Go.Proofs.YtmddnmpldmdllaaDoor
open Go.RowKit
set_option linter.unusedVariables false

/-! The plain code at the document's second example. -/
set_option maxRecDepth 100000 in
theorem pl_cd11 : cd plnL9 97 = 145 ∧ ln plnL9 97 = 8 ∧ cd plnL9 256 = 0 ∧ ln plnL9 256 = 7 := ⟨by kernel_rfl, by kernel_rfl, by kernel_rfl, by kernel_rfl⟩
theorem pl_ln11 (s : Nat) (hs : s < plnL9.length) : 7 ≤ ln plnL9 s := by
  have hall : (plnL9.all fun z => decide (7 ≤ z)) = true := by kernel_rfl
  have hm : plnL9.getD s 0 ∈ plnL9 := by simp only [List.getD, List.getElem?_eq_getElem hs, Option.getD_some]; exact List.getElem_mem hs
  have := of_decide_eq_true (List.all_eq_true.1 hall _ hm)
  unfold ln
  omega
theorem no_beg11 {H : List Bool} (h : H.length < 7) (s : Nat) : ¬ Beg plnL9 H s := fun hb => by
  have := pl_ln11 s hb.1
  have := hb.2.2.1
  omega
def hA11 : List Bool := [true, false, false, true, false]
def hB11 : List Bool := [true, false, false, true, false, false, false, true, false, false, false, false, false]
def hC11 : List Bool := [false, false, false, false, false]
def hD11 : List Bool := [false, false, false, false, false, false, false, false, false, false, false, false, false]
theorem may_a11 : May plnL9 hA11 := ⟨97, by rw [pln_len11.1]; omega, by decide, by rw [pl_cd11.2.1]; decide, by rw [pl_cd11.1, pl_cd11.2.1]; decide⟩
theorem may_c11 : May plnL9 hC11 := ⟨256, by rw [pln_len11.1]; omega, by decide, by rw [pl_cd11.2.2.2]; decide, by rw [pl_cd11.2.2.1, pl_cd11.2.2.2]; decide⟩
theorem beg_b11 : Beg plnL9 hB11 97 := ⟨by rw [pln_len11.1]; omega, by decide, by rw [pl_cd11.2.1]; decide, by rw [pl_cd11.1, pl_cd11.2.1]; decide⟩
theorem beg_d11 : Beg plnL9 hD11 256 := ⟨by rw [pln_len11.1]; omega, by decide, by rw [pl_cd11.2.2.2]; decide, by rw [pl_cd11.2.2.1, pl_cd11.2.2.2]; decide⟩
end Go.Proofs.YtmddnmpldmdllaaDoor

namespace Go.Proofs.YtmddnmpldmdllaaDoor
open Go.RowKit
set_option linter.unusedVariables false

/-! The landed block: the tables of spans. -/
def lnS9 : List Int := [3, 0, 4, 0, 5, 0, 6, 0, 7, 0, 8, 0, 9, 0, 10, 0, 11, 1, 13, 1, 15, 1, 17, 1, 19, 2, 23, 2, 27, 2, 31, 2, 35, 3, 43, 3, 51, 3, 59, 3, 67, 4, 83, 4, 99, 4, 115, 4, 131, 5, 163, 5, 195, 5, 227, 5, 258, 0]
def dsS9 : List Int := [1, 0, 2, 0, 3, 0, 4, 0, 5, 1, 7, 1, 9, 2, 13, 2, 17, 3, 25, 3, 33, 4, 49, 4, 65, 5, 97, 5, 129, 6, 193, 6, 257, 7, 385, 7, 513, 8, 769, 8, 1025, 9, 1537, 9, 2049, 10, 3073, 10, 4097, 11, 6145, 11, 8193, 12, 12289, 12, 16385, 13, 24577, 13]
theorem info_plnsp99 : (Tryd.prog.info? 117).map (·.size) = some (arr lnS9).size := by kernel_rfl
set_option maxRecDepth 100000 in
set_option maxHeartbeats 4000000 in
theorem plnsp9 (w : World) :
    Calls Tryd.prog 70 #[] w fun e w' => e = .returned (.agg (arr lnS9)) ∧ Below w.heap.size w w' := by
  go_enter Tryd.func70, Tryd.ntmps70
  go_wp2_with (first
    | (refine wpList_store_row rfl 117 (.tmp 0) (.tmp 30) rfl w.heap.size (arr lnS9) rfl (by kernel_rfl) _ _ (heap_alloc_new w _) (by kernel_rfl) (by kernel_rfl) (arr_one _) ?_)
    | (refine wpList_build rfl 117 _ rfl (by kernel_rfl) ?_))
  refine bodyPost_ret (v := .agg (arr lnS9)) (results_cell_row rfl _ _ w.heap.size _ _ _ _ rfl (setRow_heap _ _ _ _ _ _ (heap_alloc_new w _)) Tryd.underlying117 rfl info_plnsp99) rfl ⟨rfl, ?_⟩
  exact ((Below.refl w.heap.size w).alloc (Nat.le_refl _) _).grown (grown_setRow _ _ _) (by simp) (fun j e => by cases e; exact Nat.le_refl _)
theorem info_pdssp99 : (Tryd.prog.info? 119).map (·.size) = some (arr dsS9).size := by kernel_rfl
set_option maxRecDepth 100000 in
set_option maxHeartbeats 4000000 in
theorem pdssp9 (w : World) :
    Calls Tryd.prog 71 #[] w fun e w' => e = .returned (.agg (arr dsS9)) ∧ Below w.heap.size w w' := by
  go_enter Tryd.func71, Tryd.ntmps71
  go_wp2_with (first
    | (refine wpList_store_row rfl 119 (.tmp 0) (.tmp 31) rfl w.heap.size (arr dsS9) rfl (by kernel_rfl) _ _ (heap_alloc_new w _) (by kernel_rfl) (by kernel_rfl) (arr_one _) ?_)
    | (refine wpList_build rfl 119 _ rfl (by kernel_rfl) ?_))
  refine bodyPost_ret (v := .agg (arr dsS9)) (results_cell_row rfl _ _ w.heap.size _ _ _ _ rfl (setRow_heap _ _ _ _ _ _ (heap_alloc_new w _)) Tryd.underlying119 rfl info_pdssp99) rfl ⟨rfl, ?_⟩
  exact ((Below.refl w.heap.size w).alloc (Nat.le_refl _) _).grown (grown_setRow _ _ _) (by simp) (fun j e => by cases e; exact Nat.le_refl _)
end Go.Proofs.YtmddnmpldmdllaaDoor

namespace Go.Proofs.YtmddnmpldmdllaaDoor
open Go.RowKit
set_option linter.unusedVariables false

/-! The landed block: within. -/
/-- Spans lie there, and a closure's two variables. -/
structure Sp9 (w : World) (P q1 q2 n : Nat) (S : List Int) (v : Int) : Prop where
  c1 : w.cell? ⟨q1, 0, none⟩ = some (.slice (some ⟨P, 0, none⟩) n n)
  c2 : w.cell? ⟨q2, 0, none⟩ = some (.int .i64 v)
  at_ : ∀ i, i < n → w.cell? ⟨P, i * 2, none⟩ = some (.int .i64 (S.getD (i * 2) 0))
end Go.Proofs.YtmddnmpldmdllaaDoor

namespace Go.Proofs.YtmddnmpldmdllaaDoor
open Go.RowKit
set_option linter.unusedVariables false

/-! The landed block: symbols. -/
theorem results_tmp49 {P : Program} {fn : Func} {t u v x : Tmp} (h : fn.results = #[.tmp t, .tmp u, .tmp v, .tmp x]) (tmps : Array Value) (w : World) : (results fn tmps).run P w = .ok (.tuple #[tmps.getD t undef, tmps.getD u undef, tmps.getD v undef, tmps.getD x undef]) w := by
  simp [results, h, go_sem]
set_option maxRecDepth 100000 in
theorem mono_plsy9 : ∀ b a : Fin 29, a.val ≤ b.val → lnS9.getD (a.val * 2) 0 ≤ lnS9.getD (b.val * 2) 0 := by decide
set_option maxRecDepth 100000 in
theorem bd_plsy9 : ∀ a : Fin 29, (0 ≤ lnS9.getD (a.val * 2) 0 ∧ lnS9.getD (a.val * 2) 0 ≤ 32768) ∧ 0 ≤ lnS9.getD (a.val * 2 + 1) 0 ∧ lnS9.getD (a.val * 2 + 1) 0 ≤ 13 := by decide
set_option maxRecDepth 100000 in
theorem mono_pdsy9 : ∀ b a : Fin 30, a.val ≤ b.val → dsS9.getD (a.val * 2) 0 ≤ dsS9.getD (b.val * 2) 0 := by decide
set_option maxRecDepth 100000 in
theorem bd_pdsy9 : ∀ a : Fin 30, (0 ≤ dsS9.getD (a.val * 2) 0 ∧ dsS9.getD (a.val * 2) 0 ≤ 32768) ∧ 0 ≤ dsS9.getD (a.val * 2 + 1) 0 ∧ dsS9.getD (a.val * 2 + 1) 0 ≤ 13 := by decide
end Go.Proofs.YtmddnmpldmdllaaDoor
