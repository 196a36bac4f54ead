
import Derived.Test.YthebboppbebffaaRgRef3
namespace Go.Proofs.Ythebboppbebffaa
open Go.RowKit
set_option linter.unusedVariables false

/-- As wpList_app, as one step of a region that draws its order. -/
theorem step_app {P : Program} {ops : Array Oper} {o : Oper} {a : Act} {K : Act → World → Prop} {Q : Exit → Act → World → Prop} {E : Prop} (hgd : o.guard = none) (s x : Operand) (t : TypeId)
    (ho : o.op = .call { callee := .builtin .append, args := #[s, x], argTypes := #[t, t] })
    (base : Nat) (e : TypeId) (i : TypeInfo) (z : Value) (bytes : Nat) (ht : P.underlying t = some (.slice e)) (hi : P.info? e = some i) (hz : i.zero = some z)
    (hsize : i.size = 1) (hby : i.bytes = bytes) (hzs : z.cells.size = 1)
    {w : World} {v : Value} {n : Nat} {xs : List Value} (hown : w.ownsRow base e 1 v n xs) {ad : Addr} {m cap : Nat} {news : List Value} (hl : news.length = m) (hnews : ∀ j u, news[j]? = some u → w.cell? (ad.add j) = some u) (h1 : ∀ u ∈ news, u.oneCell' = true)
    (hs : a.eval s = v) (hx : a.eval x = .slice (some ad) m cap)
    (h63 : n + m ≤ 140737488355328) (hbytes : (n + m) * bytes ≤ 140737488355328) (hbase : base ≤ w.heap.size)
    (h : ∀ (b : Option Addr) (c : Nat) (w' : World), w'.ownsRow base e 1 (.slice b (n + m) c) (n + m) (xs ++ news) → w.grownBy w' v.ownBlock → Fresh w v (.slice b (n + m) c) → K (a.put o.dst (.slice b (n + m) c)) w') :
    if Region.wanted o (yielded ops a.tmps) = true then Oper.wp P o a w K Q else E := by
  have hw : Region.wanted o (yielded ops a.tmps) = true := by simp [Region.wanted, hgd]
  rw [if_pos hw]
  obtain ⟨v', w', hr, h2, h3, h4, h5⟩ := run_app_st (P := P) t o.type base e i z bytes ht hi hz hsize hby hzs w hown ad m cap news hl hnews h1 h63 hbytes hbase
  obtain ⟨b, c, rfl⟩ : ∃ b c, v' = .slice b (n + m) c := by
    rcases h2.2 with ⟨rfl, h0⟩ | ⟨g, cp, cur, rfl, _⟩
    · exact ⟨none, 0, by rw [h0]⟩
    · exact ⟨_, _, rfl⟩
  unfold Oper.wp execOp
  simp only [ho, resolve, invoke, builtin, Sem.run_bind, Sem.run_pure, Result.andThen_ok, List.map_toArray, List.map_cons, List.map_nil, hs, hx, hr]
  exact h b c w' h2 h3 h5
theorem step_app_none {P : Program} {ops : Array Oper} {o : Oper} {a : Act} {w : World} {K : Act → World → Prop} {Q : Exit → Act → World → Prop} {E : Prop} (hgd : o.guard = none) (s x : Operand) (t : TypeId)
    (ho : o.op = .call { callee := .builtin .append, args := #[s, x], argTypes := #[t, t] }) (base : Nat) (e : TypeId) (i : TypeInfo) (size : Nat) (ht : P.underlying t = some (.slice e)) (hi : P.info? e = some i)
    (v : Value) (n : Nat) (xs : List Value) (hs : a.eval s = v) (hown : w.ownsRow base e size v n xs) (hx : a.eval x = .slice none 0 0) (h : K (a.put o.dst v) w) :
    if Region.wanted o (yielded ops a.tmps) = true then Oper.wp P o a w K Q else E := by
  have hw : Region.wanted o (yielded ops a.tmps) = true := by simp [Region.wanted, hgd]
  rw [if_pos hw]
  have hrun := run_append_owned_none (P := P) (w := w) base t o.type e i size ht hi v n xs hown
  unfold Oper.wp
  simp [execOp, ho, resolve, invoke, builtin, hs, hx, hrun, Result.andThen]
  exact h
set_option maxRecDepth 100000 in
theorem rlast6_no (b B S : Nat) (v : Value) (L : List Int) (n : Int) (w : World) (h : RgR w b B S v L) (hl : L.length ≤ 4611686018427387904) (hS : S ≤ 32768) (hno : n < 0 ∨ (heldN S L : Int) < n) :
    Calls Try.prog 30 #[.pointer (some ⟨b, 0, none⟩), .int .i64 n] w fun e w' => e = .returned (.tuple #[.slice none 0 0, .int .i64 1]) ∧ Below w.heap.size w w' := by
  have CH := rheld6_any b B S v L w h hl hS
  have HH : Hid ((min L.length S : Nat) = heldN S L) := rfl
  rw [HH.out] at CH
  by_cases h1 : n < 0
  · go_enter Try.func30, Try.ntmps30
    go_wp2_with fail
    go_ret2
    exact ⟨rfl, Below.refl _ _⟩
  · have h2 : (heldN S L : Int) < n := by omega
    clear hno
    generalize heldN S L = hN at *
    go_enter Try.func30, Try.ntmps30
    go_wp2_with fail
    refine CH.mono ?_
    rintro e w1 ⟨rfl, B1⟩
    go_wp2_with fail
    go_ret2
    exact ⟨rfl, B1⟩
set_option maxRecDepth 100000 in
set_option maxHeartbeats 4000000 in
theorem rlast6_ok (b B S : Nat) (v : Value) (L : List Int) (N : Nat) (w : World) (h : RgR w b B S v L) (hl : L.length ≤ 70368744177664) (hS : S ≤ 32768) (hok : N ≤ heldN S L) :
    Calls Try.prog 30 #[.pointer (some ⟨b, 0, none⟩), .int .i64 (N : Int)] w fun e w' => ∃ oa oc, e = .returned (.tuple #[.slice oa N oc, .int .i64 0]) ∧ w'.ownsRow w.heap.size 5 1 (.slice oa N oc) N ((L.drop (L.length - N)).map (Value.int .u8)) ∧ Below w.heap.size w w' := by
  obtain ⟨i0, hi, hz0, hz1, hz2⟩ := info_parts info_u8r
  have CH := rheld6_any b B S v L w h (by omega) hS
  have HH : Hid ((min L.length S : Nat) = heldN S L) := rfl
  rw [HH.out] at CH
  have hN0 : ¬ (N : Int) < 0 := by omega
  have hNh : ¬ (heldN S L : Int) < (N : Int) := by omega
  have hNL : N ≤ L.length := by have h1 : heldN S L ≤ L.length := by unfold heldN; omega
                                omega
  have HR : Hid (RgR w b B S v L) := h
  clear hok h HH
  generalize heldN S L = hN at *
  go_enter Try.func30, Try.ntmps30
  go_wp2_with fail
  refine CH.mono ?_
  rintro e w1 ⟨rfl, B1⟩
  obtain ⟨a, cap, rfl, hA⟩ := (show RgR w b B S v L from HR.out).old B1
  have c1 : w1.cell? ⟨b, 1, none⟩ = some (.slice a L.length cap) := two_cell1 hA.hp
  have hbl := hA.b_lt
  obtain ⟨_, a', cap', hv, sg, hxx, hcp, _⟩ := own_seg hA.own (M := 255) (by decide) hA.bd
  cases hv
  have hnl := own_nilcap6 hA.own
  obtain ⟨m, hm⟩ : ∃ m, m = L.length := ⟨_, rfl⟩
  have HM : Hid (L.length = m) := hm.symm
  obtain ⟨j, hj⟩ : ∃ j, j = m - N := ⟨_, rfl⟩
  have HJ : Hid (L.length - N = j) := by show _ = _; rw [HM.out]; exact hj.symm
  have HLD : Hid ((L.drop j).length = N) := by show _ = _; rw [List.length_drop, HM.out]; omega
  rw [← hm] at c1 hl hNL hcp
  have hjI : (m : Int) - (N : Int) = (j : Int) := by omega
  have hjw : IntKind.i64.wrap ((m : Int) - (N : Int)) = (j : Int) := by rw [hjI]; exact IntWalk.i64_in _ (by omega)
  have hj0 : (0 : Int) ≤ (j : Int) := by omega
  have hjm : (j : Int) ≤ (m : Int) := by omega
  have hmc : (m : Int) ≤ (cap : Int) := by omega
  have HMJ : Hid (m - j = N) := by show _ = _; omega
  have hmw : (w1.alloc (.cells #[] 5)).drew.ownsRow w1.heap.size 5 1 (.slice (some ⟨w1.heap.size, 0, none⟩) 0 0) 0 [] := World.ownsRow.drew (World.ownsRow_made w1 #[] 0 (Nat.le_refl _) (by decide) rfl)
  have bA : Below w1.heap.size w1 (w1.alloc (.cells #[] 5)).drew := ((Below.refl _ _).alloc (Nat.le_refl _) _).drew
  have hsA : w1.heap.size ≤ (w1.alloc (.cells #[] 5)).drew.heap.size := bA.size
  have c2 : w1.drew.cell? ⟨b, 1, none⟩ = some (.slice a m cap) := c1
  have HC3 : Hid ((w1.alloc (.cells #[] 5)).drew.cell? ⟨b, 1, none⟩ = some (.slice a m cap)) := (bA.cell (p := ⟨b, 1, none⟩) hbl).trans c1
  have SA : Seg (w1.alloc (.cells #[] 5)).drew a L := sg.old bA
  have HSA : Hid _ := SA
  cases a with
  | none =>
    have HX : Hid (m - j = 0 ∧ cap - j = 0 ∧ N = 0) := by
      have hc0 := hnl rfl
      show _ ∧ _ ∧ _
      omega
    clear hjI hnl hxx sg hcp hm hj CH hA hNL c1 SA HSA
    go_wp2_with fail
    go_region_held3 (fun w' => w'.cell? ⟨b, 1, none⟩ = some (.slice none m cap)) (first | exact HC3.out | go_keep)
      (first | (refine step_app_none rfl (.tmp 14) (.tmp 26) 34 rfl w1.heap.size 5 i0 1 Try.underlying34 hi (.slice (some ⟨w1.heap.size, 0, none⟩) 0 0) 0 [] rfl hmw (by show Value.slice none (m - j) (cap - j) = _; rw [HX.out.1, HX.out.2.1]) ?_))
    all_goals
      go_wp2_with fail
      go_ret2
      have hN := HX.out.2.2
      subst hN
      have hd : L.drop (L.length - 0) = [] := List.drop_of_length_le (by omega)
      rw [hd]
      exact ⟨some ⟨w1.heap.size, 0, none⟩, 0, rfl, own_base hmw B1.size, B1.trans (bA.mono B1.size)⟩
  | some ad =>
    obtain ⟨g, off, spot⟩ := ad
    obtain ⟨h0, h1, _, _⟩ := hxx _ rfl
    simp only at h0 h1
    subst h0 h1
    have HNW : Hid (∀ jj u, ((L.drop j).map (Value.int .u8))[jj]? = some u → (w1.alloc (.cells #[] 5)).drew.cell? ((⟨g, j, none⟩ : Addr).add jj) = some u) := by
      have := seg_cells (SegK.drop (b := g) (off := 0) SA j)
      rw [Nat.zero_add] at this
      exact this
    have hN46 : N ≤ 70368744177664 := by omega
    have HC1 : Hid (w1.cell? ⟨b, 1, none⟩ = some (.slice (some ⟨g, 0, none⟩) m cap)) := c1
    by_cases hcj : cap = j
    · have HX : Hid (m - j = 0 ∧ N = 0) := by show _ ∧ _; omega
      subst hcj
      clear hjI hnl hxx sg hcp hm hj CH hA hNL c1 SA HSA
      go_wp2_with fail
      go_region_held3 (fun w' => w'.cell? ⟨b, 1, none⟩ = some (.slice (some ⟨g, 0, none⟩) m cap)) (first | exact HC3.out | exact c4 | go_keep)
        (first | (refine step_app rfl (.tmp 14) (.tmp 26) 34 rfl w1.heap.size 5 i0 (.int .u8 0) 1 Try.underlying34 hi hz0 hz1 hz2 rfl hmw (ad := ⟨g, 0, none⟩) (m := 0) (cap := 0) (news := []) rfl (by simp) (by simp) rfl (by show Value.slice (some ⟨g, 0, none⟩) (m - cap) 0 = _; rw [HX.out.1]) (by omega) (by omega) hsA ?_; intro oa oc w2 own2 hg2 hf2; have b2 : Below w1.heap.size w1 w2 := bA.trans (below_own6 hmw hg2 hsA); have c4 := (b2.cell (p := ⟨b, 1, none⟩) hbl).trans HC1.out))
      all_goals
        go_wp2_with fail
        go_ret2
        have hN := HX.out.2
        subst hN
        have hd : L.drop (L.length - 0) = [] := List.drop_of_length_le (by omega)
        rw [hd]
        exact ⟨oa, oc, rfl, own_base own2 B1.size, B1.trans (b2.mono B1.size)⟩
    · have hcji : ¬ (cap : Int) = (j : Int) := by omega
      clear hjI hnl hxx sg hcp hm hj CH hA hNL c1 SA HSA
      go_wp2_with fail
      go_region_held3 (fun w' => w'.cell? ⟨b, 1, none⟩ = some (.slice (some ⟨g, 0, none⟩) m cap)) (first | exact HC3.out | exact c4 | go_keep)
        (first | (refine step_app rfl (.tmp 14) (.tmp 26) 34 rfl w1.heap.size 5 i0 (.int .u8 0) 1 Try.underlying34 hi hz0 hz1 hz2 rfl hmw (ad := ⟨g, j, none⟩) (m := N) (cap := cap - j) (news := (L.drop j).map (Value.int .u8)) (by rw [List.length_map]; exact HLD.out) HNW.out (ints_oneCell _ _) rfl (by show Value.slice (some ⟨g, j, none⟩) (m - j) (cap - j) = _; rw [HMJ.out]) (by omega) (by omega) hsA ?_; intro oa oc w2 own2 hg2 hf2; have b2 : Below w1.heap.size w1 w2 := bA.trans (below_own6 hmw hg2 hsA); have c4 := (b2.cell (p := ⟨b, 1, none⟩) hbl).trans HC1.out))
      all_goals
        rw [Nat.zero_add]
        go_wp2_with fail
        go_ret2
        rw [Nat.zero_add, List.nil_append] at own2
        refine ⟨oa, oc, rfl, ?_, B1.trans (b2.mono B1.size)⟩
        rw [HJ.out]
        exact own_base own2 B1.size
end Go.Proofs.Ythebboppbebffaa
