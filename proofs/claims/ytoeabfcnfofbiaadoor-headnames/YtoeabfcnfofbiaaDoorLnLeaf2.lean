
import Derived.Test.YtoeabfcnfofbiaaDoorLnLeaf
import Derived.WalkLawsBesides
namespace Go.Proofs.YtoeabfcnfofbiaaDoor
open Go.RowKit
set_option linter.unusedVariables false

/-- Items that lie somewhere, behind a row of the call's own. -/
theorem wpList_app4 {P : Program} {ops : Array Oper} {rest : List Oper} {o : Oper} {a : Act} {Q : Exit → Act → World → Prop} (hgd : o.guard = none) (s x : Operand) (t : TypeId)
    (ho : o.op = .call { callee := .builtin .append, args := #[s, x], argTypes := #[t, t] })
    (base : Nat) (e : TypeId) (i : TypeInfo) (z : Value) (bytes : Nat) (ht : P.underlying t = some (.slice e)) (hi : P.info? e = some i) (hz : i.zero = some z)
    (hsize : i.size = 4) (hby : i.bytes = bytes) (hzs : z.cells.size = 4)
    {w : World} {ra : Option Addr} {n rc : Nat} {l : List Im} (hown : w.ownsRow base e 4 (.slice ra n rc) n (flatI l)) {ad : Addr} {m cap : Nat} {r : List Im} (hl : r.length = m) (hnews : ∀ j u, (flatI r)[j]? = some u → w.cell? (ad.add j) = some u)
    (hs : a.eval s = .slice ra n rc) (hx : a.eval x = .slice (some ad) m cap)
    (h63 : n + m ≤ 140737488355328) (hbytes : (n + m) * bytes ≤ 140737488355328) (hbase : base ≤ w.heap.size)
    (h : ∀ (b : Option Addr) (c : Nat) (w' : World), w'.ownsRow base e 4 (.slice b (n + m) c) (n + m) (flatI (l ++ r)) → w.grownBy w' (Value.slice ra n rc).ownBlock → Below base w w' → wpList P ops Q rest (a.put o.dst (.slice b (n + m) c)) w') : wpList P ops Q (o :: rest) a w := by
  refine wpList_append_own _ hgd s x t ho base e i z 4 bytes ht hi hz hsize hby hzs (by decide) _ n (flatI l) hs hown ad m cap (flatI r) hx (by rw [flatI_len, hl]) hnews (flatI_one r) (by unfold maxLen; omega) hbytes hbase ?_
  intro v' w' h1 h2 _
  obtain ⟨b, c, rfl⟩ : ∃ b c, v' = .slice b (n + m) c := by
    rcases h1.2 with ⟨rfl, h0⟩ | ⟨g, cp, cur, rfl, _⟩
    · exact ⟨none, 0, by rw [h0]⟩
    · exact ⟨_, _, rfl⟩
  exact h b c w' (by rw [flatI_app]; exact h1) h2 ((Below.refl _ _).grown h2 hbase (fun k hk => (hown.lt k hk).1))
theorem own_shape4 {w : World} {base n : Nat} {e : TypeId} {v : Value} {xs : List Value} (h : w.ownsRow base e 4 v n xs) (hn : 0 < n) : ∃ g cap, v = .slice (some ⟨g, 0, none⟩) n cap ∧ n ≤ cap ∧ base ≤ g ∧ g < w.heap.size := by
  rcases h.2 with ⟨_, h0⟩ | ⟨g, cap, cur, rfl, hg, hh, hc, _⟩
  · omega
  · exact ⟨g, cap, rfl, hc, hg, (Array.getElem?_eq_some_iff.1 hh).1⟩
theorem new_cells (w : World) (x : Im) : ∀ j u, (flatI [x])[j]? = some u → (w.alloc (.cells #[.int .i64 x.wt, .int .i64 x.sy, .pointer x.fs, .pointer x.sn] 159)).cell? ((⟨w.heap.size, 0, none⟩ : Addr).add j) = some u := by
  intro j u hu
  have hadd : (⟨w.heap.size, 0, none⟩ : Addr).add j = ⟨w.heap.size, j, none⟩ := by unfold Addr.add; split <;> simp_all
  rw [hadd]
  have hh := heap_alloc_new w (.cells #[.int .i64 x.wt, .int .i64 x.sy, .pointer x.fs, .pointer x.sn] 159)
  simp only [World.cell?, hh]
  simp only [flatI, Im.cells, List.flatMap_cons, List.flatMap_nil, List.append_nil] at hu
  simpa using hu
/-- What comes of the leaves: a row in order, of all the symbols in use. -/
structure Lf (w : World) (a : Option Addr) (m cap B : Nat) (zs : List Int) (Y : Nat → Im) : Prop where
  len : m = (leafL zs zs.length).length
  pm : (lst Y 0 m).Perm (leafL zs zs.length)
  ord : so Y 0 m
  nil : m = 0 → a = none ∧ cap = 0
  row : 0 < m → ∃ g, a = some ⟨g, 0, none⟩ ∧ Sr w g m Y ∧ B ≤ g ∧ g < w.heap.size ∧ m ≤ cap

theorem leaf_sy {zs : List Int} {k i j : Nat} (h : i < j) (hj : j < (leafL zs k).length) : ((leafL zs k).getD i ⟨0, 0, none, none⟩).sy < ((leafL zs k).getD j ⟨0, 0, none, none⟩).sy := by
  have hp : (leafL zs k).Pairwise (fun x y => x.sy < y.sy) := by
    unfold leafL
    rw [List.pairwise_map]
    refine (List.pairwise_lt_range.filter _).imp ?_
    intro a b hab
    show (a : Int) < (b : Int)
    omega
  have hi : i < (leafL zs k).length := by omega
  have := List.pairwise_iff_getElem.1 hp i j hi hj h
  simpa [List.getD, hi, hj] using this
theorem lst_getD (l : List Im) (d : Im) : lst (fun k => l.getD k d) 0 l.length = l := by
  unfold lst
  apply List.ext_getElem?
  intro k
  rw [List.getElem?_map]
  by_cases h : k < l.length
  · simp [h, List.getD]
  · simp [h]

set_option maxRecDepth 100000 in
set_option maxHeartbeats 2000000 in
theorem leaves_any (a : Option Addr) (zs : List Int) (n cap : Nat) (hn : Hid (zs.length = n)) (w : World) (hs : SegZ w a zs) (hl : n ≤ 288) :
    Calls Tryd.prog 89 #[.slice a n cap] w fun e w' => ∃ b m c Y, e = .returned (.slice b m c) ∧ Lf w' b m c w.heap.size zs Y ∧ Below w.heap.size w w' := by
  obtain ⟨i0, hi, hz0, hz1, hz2⟩ := info_parts info_item
  go_enter Tryd.func89, Tryd.ntmps89
  go_wp2_with fail
  go_loopw [3, 8] (fun to ti wr => ∃ (k : Nat) (b : Option Addr) (c : Nat) (L : List Im), k ≤ n ∧ ti = .int .i64 (k : Int) ∧ to = .slice b L.length c ∧ L.length ≤ k ∧ (L.length = 0 → b = none ∧ c = 0) ∧ wr.ownsRow w.heap.size 159 4 (.slice b L.length c) L.length (flatI L) ∧ Below w.heap.size w wr ∧ Hid (L = leafL zs k)) (fun _ ti _ => n - (intOf ti).toNat)
  case atStart => exact ⟨0, none, 0, [], Nat.zero_le _, rfl, rfl, Nat.le_refl _, (fun _ => ⟨rfl, rfl⟩), ⟨rfl, .inl ⟨rfl, rfl⟩⟩, Below.refl _ _, (rfl : _ = _)⟩
  case round =>
    obtain ⟨k, b, c, L, hk, rfl, rfl, hLk, hL0, OR, BR, HL⟩ := hrel
    have HL0 : Hid (L.length = 0 → b = none ∧ c = 0) := hL0
    clear hL0
    have hs := hs.old BR
    by_cases h1 : k < n
    · have h1i : (k : Int) < (n : Int) := by omega
      obtain ⟨b1, o1, rfl, c1⟩ := hs.at_ k (by have := hn.out; omega)
      have HU : Hid (leafL zs (k + 1) = leafL zs k ++ (if zs.getD k 0 = 0 then [] else [⟨zs.getD k 0, k, none, none⟩])) := leafL_snoc zs k
      have db := hs.bd k
      generalize zs.getD k 0 = z at *
      by_cases hz : z = 0
      · subst hz
        go_wp2
        go_roundw
        case rel => exact ⟨k + 1, b, c, L, by omega, by go_num, rfl, by omega, HL0.out, OR, BR, (by show _ = _; rw [HU.out, HL.out]; simp)⟩
        case measure => simp [intOf]; omega
      · have hzb : (z != 0) = true := by simpa using hz
        have hbs := BR.size
        go_wp2_with (at_builtin; refine wpList_app4 rfl (.tmp 15) (.tmp 19) 155 rfl w.heap.size 159 i0 _ 32 Tryd.underlying155 hi hz0 hz1 hz2 rfl (OR.alloc _) (m := 1) (r := [⟨z, k, none, none⟩]) rfl (new_cells wr ⟨z, k, none, none⟩) rfl rfl (by omega) (by omega) (by simp; omega) ?_; intro b2 c2 w2 OR2 hg2 B2)
        have B3 : Below w.heap.size w w2 := BR.trans (((Below.refl _ _).alloc hbs _).trans B2)
        have e1 : (L ++ [(⟨z, k, none, none⟩ : Im)]).length = L.length + 1 := by simp
        rw [← e1] at OR2
        clear hg2 B2 OR
        go_roundw
        case rel => exact ⟨k + 1, b2, c2, L ++ [⟨z, k, none, none⟩], by omega, by go_num, by rw [e1], by omega, (fun h => by omega), OR2, B3, (by show _ = _; rw [HU.out, HL.out, if_neg hz])⟩
        case measure => simp [intOf]; omega
    · obtain rfl : k = n := by omega
      have HL2 : Hid (L = leafL zs zs.length) := by show _ = _; rw [HL.out, hn.out]
      by_cases hL0 : L.length = 0
      · obtain ⟨rfl, rfl⟩ := HL0.out hL0
        have hLnil : L = [] := List.eq_nil_of_length_eq_zero hL0
        rw [hL0]
        go_wp2_with fail
        refine (sortStable_nil _ _).mono ?_
        rintro e w' ⟨rfl, hw'⟩
        subst w'
        go_wp2
        go_ret
        have hz : leafL zs zs.length = [] := by rw [← HL2.out]; exact hLnil
        exact ⟨none, 0, 0, fun k => L.getD k ⟨0, 0, none, none⟩, rfl, ⟨by rw [hz]; rfl, by rw [hz]; exact List.Perm.refl _, fun i j _ _ h => by omega, fun _ => ⟨rfl, rfl⟩, fun h => by omega⟩, BR⟩
      · obtain ⟨g, c', hv, hcap, hgb, hgs⟩ := own_shape4 OR (by omega)
        simp only [Value.slice.injEq] at hv
        obtain ⟨rfl, _, rfl⟩ := hv
        have S1 := own_row4 OR rfl
        have HSY : Hid (∀ i j, i < j → j < L.length → ((fun k => L.getD k ⟨0, 0, none, none⟩) i).sy < ((fun k => L.getD k ⟨0, 0, none, none⟩) j).sy) := by
          intro i j h2 h3
          have e := HL2.out
          simp only [e] at h3 ⊢
          exact leaf_sy h2 h3
        have HPL : Hid (lst (fun k => L.getD k ⟨0, 0, none, none⟩) 0 L.length = L) := lst_getD L _
        have CS := sortStable_any g c L.length (fun k => L.getD k ⟨0, 0, none, none⟩) wr S1 hgs (by omega) HSY.out
        obtain ⟨m, hm⟩ : ∃ m, m = L.length := ⟨_, rfl⟩
        have HM : Hid (m = L.length) := hm
        rw [← hm] at CS hcap ⊢
        have hm0 : 0 < m := by omega
        clear hm S1 OR hL0 hLk
        go_wp2_with fail
        refine CS.mono ?_
        rintro e w2 ⟨rfl, Y, S2, G2, P2, so2⟩
        go_wp2
        go_ret
        have B2 : Below w.heap.size w w2 := BR.trans ((Below.refl _ _).grown G2 BR.size (by intro k e; cases e; exact hgb))
        refine ⟨some ⟨g, 0, none⟩, m, c, Y, rfl, ⟨by rw [HM.out, HL2.out], ?_, so2, fun h => by omega, fun _ => ⟨g, rfl, S2, hgb, Nat.lt_of_lt_of_le hgs G2.size, hcap⟩⟩, B2⟩
        have h3 := P2.1
        rw [HM.out] at h3 ⊢
        rw [HPL.out] at h3
        exact h3.trans (by rw [HL2.out])
end Go.Proofs.YtoeabfcnfofbiaaDoor
