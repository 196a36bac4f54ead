import Derived.Test.YthcmebmohhajaaaDoorPj
import Derived.Test.YthcmebmohhajaaaDoorPg
import Derived.Test.YthcmebmohhajaaaDoorPc
import Derived.Laws.CopyOwn
import Derived.Test.YthcmebmohhajaaaDoorPa
namespace Go.Proofs.YthcmebmohhajaaaDoor
open Go.RowKit
set_option linter.unusedVariables false

/-! The landed head: spread. -/
def SpQ (w : World) (ty : TypeId) (R : List Rn8) (e : Ending) (w' : World) : Prop := ∃ oa oc, e = .returned (.slice oa R.length oc) ∧ w'.ownsRow w.heap.size ty 2 (.slice oa R.length oc) R.length (flatN R) ∧ Below w.heap.size w w'
def SpI (v : Int) (K : Nat) (w wr : World) (ty : TypeId) (tk to : Value) : Prop := ∃ (j m oc : Nat) (oa : Option Addr) (R : List Rn8), m + j ≤ K ∧ tk = .int .i64 (j : Int) ∧ to = .slice oa m oc ∧ R.length = m ∧ spd8 K v K false = R ++ spd8 j v j (decide (0 < m)) ∧ wr.ownsRow w.heap.size ty 2 (.slice oa m oc) m (flatN R) ∧ Below w.heap.size w wr
theorem spd8_one (v : Int) {j : Nat} (hj : 0 < j) (b : Bool) : spd8 j v j b = led8 v j b :: spd8 (j - (led8 v j b).ct.toNat) v (j - (led8 v j b).ct.toNat) true := by
  obtain ⟨i, rfl⟩ : ∃ i, j = i + 1 := ⟨j - 1, by omega⟩
  have hc := led8_ct v (k := i + 1) (by omega) b
  rw [spd8, if_neg (by omega), spd8_fuel v i (i + 1 - (led8 v (i + 1) b).ct.toNat) _ true (by omega) (by omega)]
set_option maxRecDepth 100000 in
set_option maxHeartbeats 400000 in
theorem pspread8 (v : Int) (K : Nat) (hK : K ≤ 1000) (w : World) (T : TabS w) :
    Calls Tryd.prog 39 #[.int .i64 v, .int .i64 (K : Int)] w (SpQ w 78 (spd8 K v K false)) := by
  obtain ⟨i0, hi, hz0, hz1, hz2⟩ := info_parts info_arun8
  have HC : Hid (∀ (j : Nat) (b : Bool) (W : World), j ≤ 1000 → Below w.heap.size w W → Calls Tryd.prog 59 #[.int .i64 v, .int .i64 (j : Int), .bool b] W fun e w' => e = .returned (.agg #[.int .i64 (led8 v j b).sy, .int .i64 (led8 v j b).ct]) ∧ Below W.heap.size W w') := fun j b W hj hb => pleading8 v j b (by omega) W (SegZ.old T hb)
  clear T
  go_enter Tryd.func39, Tryd.ntmps39
  go_wp2_with fail
  go_loopw [1, 5] (fun tk to wr => SpI v K w wr 78 tk to) (fun tk _ _ => (intOf tk).toNat)
  case atStart => exact ⟨K, 0, 0, none, [], by omega, rfl, rfl, rfl, by simp, World.ownsRow_nil _ _ _ _, Below.refl _ _⟩
  case round =>
    obtain ⟨j, m, oc, oa, R, hmj, rfl, rfl, hRl, hsp, OO, BR⟩ := hrel
    have HRL : Hid (R.length = m) := hRl
    clear hRl
    by_cases hj : 0 < j
    · have hji : (0 : Int) < (j : Int) := by omega
      have C1 := HC.out j (decide (0 < m)) wr (by omega) BR
      rw [spd8_one v hj] at hsp
      have hct := led8_ct v (k := j) (by omega) (decide (0 < m))
      generalize led8 v j (decide (0 < m)) = r at *
      obtain ⟨sy, ct⟩ := r
      obtain ⟨c, rfl⟩ : ∃ c : Nat, ct = (c : Int) := ⟨ct.toNat, by have := hct.1; simp only at this; omega⟩
      simp only [Int.toNat_natCast] at hsp hct C1
      obtain ⟨q, hq⟩ : ∃ q, q = j - c := ⟨_, rfl⟩
      rw [← hq] at hsp
      have hqi : (j : Int) - (c : Int) = (q : Int) := by omega
      have HSP : Hid (spd8 K v K false = (R ++ [⟨sy, c⟩]) ++ spd8 q v q true) := by show _ = _; rw [hsp]; simp
      have hqb : q < j ∧ q + m + 1 ≤ K ∧ c ≤ j ∧ 1 ≤ c := by omega
      clear hsp hct hq
      have HI : Hid ((j : Int) - (c : Int) = (q : Int)) := hqi
      clear hqi
      go_wp2_with (first
        | (go_at_call 59; refine C1.mono ?_; rintro e w1 ⟨rfl, b1⟩; have O1 := own_belowN OO b1; have B1 : Below w.heap.size w w1 := BR.trans (b1.mono BR.size); have hsz1 := B1.size)
        | (at_builtin; refine wpList_appN rfl (.tmp 15) (.tmp 17) 74 rfl w.heap.size 78 i0 _ 16 Tryd.underlying74 hi hz0 hz1 hz2 rfl (w1.alloc (.cells #[.int .i64 sy, .int .i64 (c : Int)] 78)) ⟨sy, c⟩ (O1.alloc _) rfl (by show Value.slice (some ⟨w1.heap.size + 1, 0, none⟩) 1 1 = _; simp) (by omega) (by omega) (by simp; omega) ?_; intro ga gc w3 own3 hk3 hat3; have cc3 := hk3.cellN (k := w1.heap.size) (o := 1) (v := .int .i64 (c : Int)) (by rw [cell_of_row _ _ 1 _ _ _ (heap_alloc_new w1 _)]; rfl) (fun e => by have := (O1.lt _ e).2; simp at this)))
      have B3 : Below w.heap.size w w3 := (B1.trans ((below_box8 w1 _).mono hsz1)).trans (hk3.below (fun q e => (O1.lt q e).1) (by simp; omega))
      clear hk3 hat3 O1 B1
      go_roundw
      case rel => exact ⟨q, m + 1, gc, _, R ++ [⟨sy, c⟩], by omega, by have h5 := HI.out; go_num, rfl, by rw [List.length_append, HRL.out]; rfl, by rw [HSP.out]; simp, own3, B3⟩
      case measure => have := HI.out; simp [intOf]; omega
    · obtain rfl : j = 0 := by omega
      have HSP : Hid (spd8 K v K false = R) := by show _ = _; rw [hsp]; simp [spd8]
      clear hsp
      go_wp2_with fail
      go_ret
      refine ⟨oa, oc, ?_, ?_, BR⟩
      · rw [HSP.out, HRL.out]; rfl
      · rw [HSP.out, HRL.out]; exact OO
end Go.Proofs.YthcmebmohhajaaaDoor

namespace Go.Proofs.YthcmebmohhajaaaDoor
open Go.RowKit
set_option linter.unusedVariables false

/-! The landed head: Runs. -/
theorem SegZ.drop8 {w : World} {b off : Nat} {zs : List Int} (h : SegZ w (some ⟨b, off, none⟩) zs) (p : Nat) : SegZ w (some ⟨b, off + p, none⟩) (zs.drop p) :=
  ⟨fun i hi => by
    rw [List.length_drop] at hi
    obtain ⟨b', off', e, c⟩ := h.at_ (p + i) (by omega)
    cases e
    refine ⟨b, off + p, rfl, ?_⟩
    rw [Nat.add_assoc, c]
    simp [List.getD], fun i => by have := h.bd (p + i); simpa [List.getD] using this⟩
theorem flatN_len : ∀ l : List Rn8, (flatN l).length = l.length * 2
  | [] => rfl
  | t :: r => by
    have e : flatN (t :: r) = .int .i64 t.sy :: .int .i64 t.ct :: flatN r := rfl
    rw [e, List.length_cons, List.length_cons, flatN_len r, List.length_cons]
    omega
theorem flatN_one (l : List Rn8) : ∀ u ∈ flatN l, u.oneCell' = true := by
  intro u hu
  unfold flatN at hu
  obtain ⟨x, _, h⟩ := List.mem_flatMap.1 hu
  simp only [List.mem_cons, List.not_mem_nil, or_false] at h
  rcases h with rfl | rfl <;> rfl
/-- Runs that lie somewhere behind a row of the call's own. -/
theorem wpList_appR {P : Program} {ops : Array Oper} {rest : List Oper} {o : Oper} {a : Act} {Q : Exit → Act → World → Prop} (hgd : o.guard = none) (s x : Operand) (t : TypeId)
    (ho : o.op = .call { callee := .builtin .append, args := #[s, x], argTypes := #[t, t] })
    (base : Nat) (e : TypeId) (i : TypeInfo) (z : Value) (bytes : Nat) (ht : P.underlying t = some (.slice e)) (hi : P.info? e = some i) (hz : i.zero = some z)
    (hsize : i.size = 2) (hby : i.bytes = bytes) (hzs : z.cells.size = 2) (w0 : World) {b2 m c2 : Nat} {e2 : TypeId} {la : Option Addr} {L : List Rn8}
    {ra : Option Addr} {n rc : Nat} {l : List Rn8} (hown : w0.ownsRow base e 2 (.slice ra n rc) n (flatN l)) (hs : a.eval s = .slice ra n rc)
    (hL : w0.ownsRow b2 e2 2 (.slice la m c2) m (flatN L)) (hx : a.eval x = .slice la m c2) (hm : 0 < m)
    (h63 : n + m ≤ 140737488355328) (hbytes : (n + m) * bytes ≤ 140737488355328) (hbase : base ≤ w0.heap.size)
    (h : ∀ (g : Nat) (c : Nat) (w' : World), w'.ownsRow base e 2 (.slice (some ⟨g, 0, none⟩) (n + m) c) (n + m) (flatN (l ++ L)) → Kp (fun k => (Value.slice ra n rc).ownBlock = some k) w0 w' → wpList P ops Q rest (a.put o.dst (.slice (some ⟨g, 0, none⟩) (n + m) c)) w') : wpList P ops Q (o :: rest) a w0 := by
  have hLl : L.length = m := by have := hL.1; rw [flatN_len] at this; omega
  rcases hL.2 with ⟨_, h0⟩ | ⟨g, cp, cur, hv, _⟩
  · omega
  simp only [Value.slice.injEq] at hv
  obtain ⟨rfl, _, rfl⟩ := hv
  refine wpList_append_lies _ hgd s x t ho base e i z 2 bytes ht hi hz hsize hby hzs (by decide) _ n (flatN l) hs hown ⟨g, 0, none⟩ m c2 (flatN L) hx (by rw [flatN_len, hLl]) (fun j u hu => hL.cells (g := g) rfl j u hu) (flatN_one L) hm (by unfold maxLen; omega) hbytes hbase _ rfl ?_
  intro g c w' h1 h2 h3 _
  exact h g c w' (by rw [flatN_app]; exact h1) (Kp.grown (S := fun k => (Value.slice ra n rc).ownBlock = some k) h2 (fun i e => e))
set_option maxRecDepth 100000 in
set_option maxHeartbeats 4000000 in
theorem pruns8 (zs : List Int) (a : Option Addr) (n cap : Nat) (hn : Hid (zs.length = n)) (hcap : n ≤ cap) (w : World) (hs : SegZ w a zs) (T : TabS w) :
    Calls Tryd.prog 24 #[.slice a n cap] w (RsQ w 78 (rns8 zs) (rer8 zs)) := by
  obtain ⟨i0, hi, hz0, hz1, hz2⟩ := info_parts info_arun8
  have HNO : Hid (¬ may8 zs → ∀ w', Below w.heap.size w w' → RsQ w 78 (rns8 zs) (rer8 zs) (.returned (.tuple #[.slice none 0 0, .int .i64 80])) w') := fun hm w' hb => by
    unfold rns8 rer8
    rw [if_neg hm, if_neg hm]
    exact ⟨none, 0, rfl, World.ownsRow_nil _ _ _ _, hb⟩
  by_cases h320 : 320 < n
  · have h3i : 320 < (n : Int) := by omega
    have hm : ¬ may8 zs := fun h => by have := h.1; rw [hn.out] at this; omega
    have HF := HNO.out hm w (Below.refl _ _)
    clear hm HNO
    go_enter Tryd.func24, Tryd.ntmps24
    go_wp2_with fail
    go_ret2
    exact HF
  · have h3i : ¬ 320 < (n : Int) := by omega
    have HS : Hid (SegZ w a zs) := hs
    have HT : Hid (TabS w) := T
    clear hs T
    go_enter Tryd.func24, Tryd.ntmps24
    go_wp2_with fail
    go_loopw [14] (fun ti wr => ∃ i : Nat, i ≤ n ∧ ti = .int .i64 (i : Int) ∧ Hid (∀ j, j < i → 0 ≤ zs.getD j 0 ∧ zs.getD j 0 ≤ 15) ∧ wr = w) (fun ti _ => n - (intOf ti).toNat)
    case atStart => exact ⟨0, by omega, rfl, (show ∀ j, _ from fun j hj => by omega), rfl⟩
    case round =>
      obtain ⟨i, hin, rfl, HA, hwr⟩ := hrel
      have hwr2 : w = wr := hwr.symm
      subst hwr2
      clear hwr
      by_cases hlt : i < n
      · have hlti : (i : Int) < (n : Int) := by omega
        have hiz : i < zs.length := by rw [hn.out]; exact hlt
        obtain ⟨b, off, rfl, c0⟩ := (show SegZ w a zs from HS.out).at_ i hiz
        have hbd := (show SegZ w (some ⟨b, off, none⟩) zs from HS.out).bd i
        have HNM : Hid (¬ (0 ≤ zs.getD i 0 ∧ zs.getD i 0 ≤ 15) → ¬ may8 zs) := fun h hm => h (may8_at hiz hm)
        have HNX : Hid (0 ≤ zs.getD i 0 ∧ zs.getD i 0 ≤ 15 → ∀ j, j < i + 1 → 0 ≤ zs.getD j 0 ∧ zs.getD j 0 ≤ 15) := fun h j hj => by
          by_cases e : j = i
          · subst e; exact h
          · exact HA.out j (by omega)
        generalize zs.getD i 0 = z at *
        by_cases g1 : z < 0
        · have HF := HNO.out (HNM.out (by omega)) w (Below.refl _ _)
          clear HNM HNX HNO
          go_wp2_with fail
          go_ret2
          exact HF
        · by_cases g2 : 15 < z
          · have HF := HNO.out (HNM.out (by omega)) w (Below.refl _ _)
            clear HNM HNX HNO
            go_wp2_with fail
            go_ret2
            exact HF
          · have HN2 : Hid (∀ j, j < i + 1 → 0 ≤ zs.getD j 0 ∧ zs.getD j 0 ≤ 15) := HNX.out (by omega)
            clear HNM HNX
            go_wp2_with fail
            go_roundw
            case rel => exact ⟨i + 1, by omega, by go_num, HN2, trivial⟩
            case measure => simp [intOf]; omega
      · have hge : ¬ (i : Int) < (n : Int) := by omega
        have hM : may8 zs := may8_all (by rw [hn.out]; omega) (fun j hj => HA.out j (by rw [hn.out] at hj; omega))
        have HM : Hid (may8 zs) := hM
        clear hM HA HNO
        go_wp2_with fail
        go_loopw [6, 7] (fun to ti wq => RnI zs w wq 78 to ti) (fun _ ti _ => n - (intOf ti).toNat)
        case atStart => exact ⟨0, 0, 0, none, [], by omega, by omega, rfl, rfl, rfl, by simp [runs8], World.ownsRow_nil _ _ _ _, Below.refl _ _⟩
        case round =>
          obtain ⟨p, m, oc, oa, R, hpn, hmp, rfl, rfl, hRl, hrun, OO, BR⟩ := hrel
          rw [hn.out] at hpn
          have HRL : Hid (R.length = m) := hRl
          have HRN : Hid (runs8 zs = R ++ rung8 (zs.length - p) (zs.drop p)) := hrun
          clear hRl hrun
          by_cases hpl : p < n
          · have hpli : (p : Int) < (n : Int) := by omega
            have hpz : p < zs.length := by rw [hn.out]; exact hpl
            have HAT := rung8_str hpz
            have hpre0 : 1 ≤ pre8 (zs.getD p 0) (zs.drop p) := by
              rw [pre8_iff]
              refine ⟨by rw [List.length_drop]; omega, fun j hj => ?_⟩
              obtain rfl : j = 0 := by omega
              simp [List.getD]
            have hprl := pre8_le (zs.getD p 0) (zs.drop p)
            rw [List.length_drop, hn.out] at hprl
            have hSW := (show SegZ w a zs from HS.out).old BR
            obtain ⟨b, off, rfl, c0⟩ := hSW.at_ p hpz
            have CS := pstretch8 (zs.drop p) (some ⟨b, off + p, none⟩) (n - p) (cap - p) (by show _ = _; rw [List.length_drop, hn.out]) wr (hSW.drop8 p) (by omega) (by omega)
            have e0 : (zs.drop p).getD 0 0 = zs.getD p 0 := by simp [List.getD]
            rw [e0] at CS
            have HCP : Hid (∀ (k : Nat) (W : World), k ≤ 1000 → Below w.heap.size w W → Calls Tryd.prog 39 #[.int .i64 (zs.getD p 0), .int .i64 (k : Int)] W (SpQ W 78 (spd8 k (zs.getD p 0) k false))) := fun k W hk hb => pspread8 _ k hk W (SegZ.old HT.out hb)
            have hlen := spd8_len (zs.getD p 0) (pre8 (zs.getD p 0) (zs.drop p)) (pre8 (zs.getD p 0) (zs.drop p)) false
            have hpos : 0 < (spd8 (pre8 (zs.getD p 0) (zs.drop p)) (zs.getD p 0) (pre8 (zs.getD p 0) (zs.drop p)) false).length := by rw [spd8_one _ (by omega)]; simp
            have HAT2 : Hid (rung8 (zs.length - p) (zs.drop p) = spd8 (pre8 (zs.getD p 0) (zs.drop p)) (zs.getD p 0) (pre8 (zs.getD p 0) (zs.drop p)) false ++ rung8 (zs.length - (p + pre8 (zs.getD p 0) (zs.drop p))) (zs.drop (p + pre8 (zs.getD p 0) (zs.drop p)))) := HAT
            clear HAT hSW e0
            have hvb := (show SegZ w (some ⟨b, off, none⟩) zs from HS.out).bd p
            generalize zs.getD p 0 = v at *
            generalize pre8 v (zs.drop p) = K at *
            have CP : Hid (∀ (W : World), Below w.heap.size w W → Calls Tryd.prog 39 #[.int .i64 v, .int .i64 (K : Int)] W (SpQ W 78 (spd8 K v K false))) := fun W hb => HCP.out K W (by omega) hb
            clear HCP
            generalize spd8 K v K false = L at *
            obtain ⟨N, hN⟩ : ∃ N, N = L.length := ⟨_, rfl⟩
            have HN : Hid (L.length = N) := hN.symm
            rw [← hN] at hlen hpos
            obtain ⟨np, hnp⟩ : ∃ np, n - p = np := ⟨_, rfl⟩
            obtain ⟨cp, hcp⟩ : ∃ cp, cap - p = cp := ⟨_, rfl⟩
            rw [hnp, hcp] at CS
            have hpi1 : p ≤ n := by omega
            clear hN
            go_wp2_with (first
              | (go_at_call 38; refine CS.mono ?_; rintro e w1 ⟨rfl, b1⟩; have B1 : Below w.heap.size w w1 := BR.trans (b1.mono BR.size); have O1 := own_belowN OO b1; have c1 : w1.cell? ⟨b, off + p, none⟩ = some (.int .i64 v) := (b1.cell (p := ⟨b, off + p, none⟩) (World.block_lt_of_cell? wr _ c0)).trans c0)
              | (go_at_call 39; refine (CP.out _ B1).mono ?_; rintro e w2 ⟨la, lc, rfl, LO, b2⟩; rw [HN.out] at LO; rw [HN.out]; have B2 : Below w.heap.size w w2 := B1.trans (b2.mono B1.size); have O2 := own_belowN O1 b2; have hsz2 := B2.size)
              | (at_builtin; refine wpList_appR rfl (.tmp 33) (.tmp 39) 74 rfl w.heap.size 78 i0 _ 16 Tryd.underlying74 hi hz0 hz1 hz2 rfl w2 O2 rfl LO rfl hpos (by omega) (by omega) hsz2 ?_; intro ga gc w3 own3 hk3))
            have B3 : Below w.heap.size w w3 := B2.trans (hk3.below (fun q e => (O2.lt q e).1) hsz2)
            clear hk3 O1 O2 LO b1 b2 OO BR
            have HL2 : Hid ((R ++ L).length = m + N) := by show _ = _; rw [List.length_append, HRL.out, HN.out]
            have HR2 : Hid (runs8 zs = (R ++ L) ++ rung8 (zs.length - (p + K)) (zs.drop (p + K))) := by
              show _ = _
              rw [HRN.out, HAT2.out, List.append_assoc]
            go_roundw
            case rel => exact ⟨p + K, m + N, gc, _, R ++ L, by rw [hn.out]; omega, by omega, by go_num, rfl, HL2.out, HR2.out, own3, B3⟩
            case measure => simp [intOf]; omega
          · have hpge : ¬ (p : Int) < (n : Int) := by omega
            have HE : Hid (runs8 zs = R) := by
              show _ = _
              rw [HRN.out, show zs.length - p = 0 by rw [hn.out]; omega, rung8, List.append_nil]
            clear HRN
            go_wp2_with fail
            go_ret2
            unfold rns8 rer8
            rw [if_pos HM.out, if_pos HM.out]
            refine ⟨oa, oc, ?_, ?_, BR⟩
            · rw [HE.out, HRL.out]; rfl
            · rw [HE.out, HRL.out]; exact OO
end Go.Proofs.YthcmebmohhajaaaDoor

namespace Go.Proofs.YthcmebmohhajaaaDoor
open Go.RowKit
set_option linter.unusedVariables false
set_option linter.unusedSimpArgs false

/-! The landed head: trimmed, tally, toldOf. -/
theorem info_sz8 : (Tryd.prog.info? 3).map (·.size) = some 1 := by kernel_rfl
theorem ints_one8 (l : List Int) : ∀ v ∈ l.map (Value.int .i64), v.oneCell' = true := by
  intro v hv
  obtain ⟨z, _, rfl⟩ := List.mem_map.1 hv
  rfl
theorem cut8_zero (zs : List Int) : ∀ m, cut8 zs m ≤ m ∧ ∀ j, cut8 zs m ≤ j → j < m → zs.getD j 0 = 0
  | 0 => ⟨Nat.le_refl _, fun j _ h => by omega⟩
  | m + 1 => by
    obtain ⟨h1, h2⟩ := cut8_zero zs m
    rw [cut8]
    split
    · rename_i h
      refine ⟨by omega, fun j hj hjm => ?_⟩
      by_cases e : j = m
      · subst e; exact h
      · exact h2 j hj (by omega)
    · exact ⟨Nat.le_refl _, fun j hj hjm => by omega⟩
theorem take_zeros {zs : List Int} {c m : Nat} (hc : c ≤ m) (hm : m ≤ zs.length) (h : ∀ j, c ≤ j → j < m → zs.getD j 0 = 0) : zs.take m = zs.take c ++ List.replicate (m - c) 0 := by
  apply List.ext_getElem
  · simp; omega
  · intro i h1 h2
    simp only [List.length_take] at h1
    by_cases hi : i < c
    · rw [List.getElem_append_left (by simp; omega)]
      simp
    · rw [List.getElem_append_right (by simp; omega), List.getElem_replicate, List.getElem_take]
      have := h i (by omega) (by omega)
      simpa [List.getD, show i < zs.length by omega] using this
/-- What trimmed answers. -/
theorem trim8_eq {zs : List Int} {k m : Nat} (hm : m ≤ zs.length) (hc : cut8 zs zs.length = cut8 zs m) (hk : m ≤ k ∨ cut8 zs m = m) : zs.take m ++ List.replicate (k - m) 0 = sht8 zs k := by
  obtain ⟨h1, h2⟩ := cut8_zero zs m
  unfold sht8
  rw [hc]
  rcases hk with hk | hk
  · rw [take_zeros h1 hm h2, List.append_assoc, List.replicate_append_replicate, show m - cut8 zs m + (k - m) = k - cut8 zs m by omega]
  · rw [hk]
set_option maxRecDepth 100000 in
set_option maxHeartbeats 4000000 in
theorem ptrim8 (zs : List Int) (k : Nat) (a : Option Addr) (n cap : Nat) (hn : Hid (zs.length = n)) (w : World) (hs : SegZ w a zs) (hcap : n ≤ cap) (hl : n ≤ 1000) (hk : k ≤ 1000) :
    Calls Tryd.prog 48 #[.slice a n cap, .int .i64 (k : Int)] w (ShQ w 3 (sht8 zs k)) := by
  have HS : Hid (SegZ w a zs) := hs
  clear hs
  go_enter Tryd.func48, Tryd.ntmps48
  go_wp2_with fail
  go_loopw [5] (fun tm wr => ∃ m : Nat, m ≤ n ∧ tm = .int .i64 (m : Int) ∧ Hid (cut8 zs zs.length = cut8 zs m) ∧ wr = w) (fun tm _ => (intOf tm).toNat)
  case atStart => exact ⟨n, Nat.le_refl _, rfl, by show _ = _; rw [hn.out], rfl⟩
  case round =>
    obtain ⟨m, hm, rfl, HC, hwr⟩ := hrel
    have hwr2 : w = wr := hwr.symm
    subst hwr2
    clear hwr
    have HEND : Hid (¬ k < m ∨ (zs.getD (m - 1) 0 ≠ 0 ∧ 0 < m) → ∀ (o : Nat) (w3 : World), w.heap.size ≤ o → w3.heap[o]? = some (.cells (splice (List.replicate (max m k) (Value.int .i64 0)) 0 ((zs.take m).map (Value.int .i64))).toArray 3 (0, 0)) → Below w.heap.size w w3 → ShQ w 3 (sht8 zs k) (.returned (.slice (some ⟨o, 0, none⟩) (max m k) (max m k))) w3) := fun hst o w3 ho hh hb => by
      have he := trim8_eq (k := k) (zs := zs) (m := m) (by rw [hn.out]; exact hm) HC.out (by
        rcases hst with h | ⟨h, h0⟩
        · exact .inl (by omega)
        · right
          obtain ⟨q, rfl⟩ : ∃ q, m = q + 1 := ⟨m - 1, by omega⟩
          rw [cut8, if_neg (by simpa using h)])
      have hlt : (zs.take m).length = m := by rw [List.length_take, hn.out]; omega
      have hsp : splice (List.replicate (max m k) (Value.int .i64 0)) 0 ((zs.take m).map (Value.int .i64)) = (sht8 zs k).map (Value.int .i64) := by
        rw [← he]
        unfold splice
        rw [List.take_zero, List.nil_append, Nat.zero_add, List.length_map, hlt, List.drop_replicate, List.map_append, List.map_replicate, show max m k - m = k - m by omega]
      have hll : (sht8 zs k).length = max m k := by
        rw [← he, List.length_append, hlt, List.length_replicate]
        omega
      rw [hsp] at hh
      refine ⟨some ⟨o, 0, none⟩, max m k, by rw [hll], ?_, hb⟩
      rw [hll]
      exact ⟨by simp [hll], .inr ⟨o, max m k, _, rfl, ho, hh, Nat.le_refl _, by unfold maxLen; omega, by simp [hll], by simp; exact List.take_of_length_le (by simp [hll])⟩⟩
    have HMK : Hid ((k < m → max m k = m) ∧ (¬ k < m → max m k = k)) := ⟨fun _ => by omega, fun _ => by omega⟩
    have HMM : Hid (max m k ≤ 1000 ∧ m ≤ max m k) := ⟨by omega, by omega⟩
    have HSEG : Hid (0 < m → ∃ ad, a = some ad ∧ ∀ j v, ((zs.take m).map (Value.int .i64))[j]? = some v → w.cell? (ad.add j) = some v) := fun h0 => by
      obtain ⟨b, off, rfl, _⟩ := (show SegZ w a zs from HS.out).at_ 0 (by rw [hn.out]; omega)
      exact ⟨_, rfl, segZ_cells ((show SegZ w (some ⟨b, off, none⟩) zs from HS.out).take m)⟩
    have HLT : Hid ((zs.take m).length = m) := by show _ = _; rw [List.length_take, hn.out]; omega
    have hst : (k < m ∧ zs.getD (m - 1) 0 = 0) ∨ (k < m ∧ zs.getD (m - 1) 0 ≠ 0) ∨ ¬ k < m := by
      by_cases h1 : k < m
      · by_cases h2 : zs.getD (m - 1) 0 = 0
        · exact .inl ⟨h1, h2⟩
        · exact .inr (.inl ⟨h1, h2⟩)
      · exact .inr (.inr h1)
    rcases hst with ⟨h1, h2⟩ | hst
    · obtain ⟨q, rfl⟩ : ∃ q, m = q + 1 := ⟨m - 1, by omega⟩
      simp only [Nat.add_sub_cancel] at h2
      obtain ⟨b, off, rfl, c0⟩ := (show SegZ w a zs from HS.out).at_ q (by rw [hn.out]; omega)
      rw [h2] at c0
      have h1i : (k : Int) < ((q + 1 : Nat) : Int) := by omega
      have HC2 : Hid (cut8 zs zs.length = cut8 zs q) := by show _ = _; rw [HC.out, cut8, if_pos h2]
      clear HC HEND HMK HMM HSEG HLT
      go_wp2_with fail
      go_roundw
      case rel => exact ⟨q, by omega, by go_num, HC2, trivial⟩
      case measure => simp [intOf]
    · have HE2 := HEND.out (by rcases hst with ⟨h1, h2⟩ | h1; exact .inr ⟨h2, by omega⟩; exact .inl h1)
      have HE : Hid (∀ (o : Nat) (w3 : World), w.heap.size ≤ o → w3.heap[o]? = some (.cells (splice (List.replicate (max m k) (Value.int .i64 0)) 0 ((zs.take m).map (Value.int .i64))).toArray 3 (0, 0)) → Below w.heap.size w w3 → ShQ w 3 (sht8 zs k) (.returned (.slice (some ⟨o, 0, none⟩) (max m k) (max m k))) w3) := HE2
      have hcell : k < m → ∃ q b off z, m = q + 1 ∧ a = some ⟨b, off, none⟩ ∧ w.cell? ⟨b, off + q, none⟩ = some (.int .i64 z) ∧ (z == 0) = false := fun h1 => by
        obtain ⟨q, rfl⟩ : ∃ q, m = q + 1 := ⟨m - 1, by omega⟩
        obtain ⟨b, off, ha, c0⟩ := (show SegZ w a zs from HS.out).at_ q (by rw [hn.out]; omega)
        refine ⟨q, b, off, _, rfl, ha, c0, ?_⟩
        rcases hst with ⟨_, h2⟩ | h2
        · rw [beq_eq_false_iff_ne]; simpa using h2
        · omega
      clear HEND HE2 HC
      generalize max m k = M at *
      have H2L : Hid ((w.alloc (.cells (Array.replicate M (.int .i64 0)) 3)).heap[w.heap.size]? = some (.cells (List.replicate M (Value.int .i64 0)).toArray 3 (0, 0))) := by
        show _ = _
        rw [heap_alloc_new]
        simp
      have HB0 : Hid (Below w.heap.size w (w.alloc (.cells (Array.replicate M (.int .i64 0)) 3))) := below_box8 w _
      have HSG2 : Hid (0 < m → ∃ ad, a = some ad ∧ ∀ j v, ((zs.take m).map (Value.int .i64))[j]? = some v → (w.alloc (.cells (Array.replicate M (.int .i64 0)) 3)).cell? (ad.add j) = some v) := fun h0 => by
        obtain ⟨ad, ha, hc⟩ := HSEG.out h0
        refine ⟨ad, ha, fun j v hv => ?_⟩
        have hc1 := hc j v hv
        have hl1 := World.block_lt_of_cell? w _ hc1
        exact ((below_box8 w _).cell (p := ad.add j) hl1).trans hc1
      clear HSEG
      have hmc : (m : Int) ≤ (cap : Int) := by omega
      have hmn : (m : Int) ≤ (n : Int) := by omega
      have hm0 : (0 : Int) ≤ (m : Int) := by omega
      by_cases h1 : k < m
      · obtain ⟨q, b, off, z, rfl, rfl, c0, hzb⟩ := hcell h1
        have h1i : (k : Int) < ((q + 1 : Nat) : Int) := by omega
        obtain rfl : M = q + 1 := HMK.out.1 h1
        have hmk : ∀ W, (Instr.makeSlice 34 (.int .i64 ((q : Int) + 1)) (.int .i64 ((q : Int) + 1))).run Tryd.prog W = .ok (.slice (some ⟨W.heap.size, 0, none⟩) (q + 1) (q + 1)) (W.alloc (.cells (Array.replicate (q + 1) (.int .i64 0)) 3)) := fun W => by
          rw [show (q : Int) + 1 = ((q + 1 : Nat) : Int) by omega]
          exact run_make_ints (q + 1) (by omega) W
        clear hcell HMK
        go_wp2_with (refine wpList_copy_splice rfl (.tmp 26) (.tmp 29) 34 34 rfl 3 Tryd.underlying34 info_sz8 (some ⟨w.heap.size, 0, none⟩) _ (q + 1) (q + 1) (q + 1) _ rfl rfl w.heap.size 0 (List.replicate (q + 1) (Value.int .i64 0)) 3 H2L.out ((zs.take (q + 1)).map (Value.int .i64)) (by have h8 := HLT.out; have h9 := HMM.out; rw [List.length_map, h8]; show _ = min _ _; omega) (fun h => ⟨rfl, HSG2.out (by omega)⟩) (by have := HLT.out; have := HMM.out; simp only [List.length_map, List.length_replicate]; omega) (ints_one8 _) w.heap.size w HB0.out (Nat.le_refl _) ?_; intro w3 HW3 bw3)
        go_ret
        exact HE.out _ _ (Nat.le_refl _) HW3.out bw3
      · have h1i : ¬ (k : Int) < (m : Int) := by omega
        obtain rfl : M = k := HMK.out.2 h1
        have hmk := run_make_ints M (by omega)
        clear hcell HMK
        have hmM : m = M ∨ (m : Int) < (M : Int) := by omega
        rcases hmM with rfl | hmM
        all_goals
          go_wp2_with (refine wpList_copy_splice rfl (.tmp 26) (.tmp 29) 34 34 rfl 3 Tryd.underlying34 info_sz8 (some ⟨w.heap.size, 0, none⟩) _ _ _ m _ rfl rfl w.heap.size 0 (List.replicate _ (Value.int .i64 0)) 3 H2L.out ((zs.take m).map (Value.int .i64)) (by have h8 := HLT.out; have h9 := HMM.out; rw [List.length_map, h8]; show _ = min _ _; omega) (fun h => ⟨rfl, HSG2.out (by have := HLT.out; simp only [List.length_map] at h; omega)⟩) (by have := HLT.out; have := HMM.out; simp only [List.length_map, List.length_replicate]; omega) (ints_one8 _) w.heap.size w HB0.out (Nat.le_refl _) ?_; intro w3 HW3 bw3)
          go_ret
          exact HE.out _ _ (Nat.le_refl _) HW3.out bw3
/-- How often each symbol stands among runs. -/
def tly8 (R : List Rn8) : List Int := (List.range 19).map fun (s : Nat) => ((R.filter fun r => r.sy == (s : Int)).length : Int)
theorem tly8_len (R : List Rn8) : (tly8 R).length = 19 := by simp [tly8]
theorem tly8_get (R : List Rn8) {s : Nat} (h : s < 19) : (tly8 R).getD s 0 = ((R.filter fun r => r.sy == (s : Int)).length : Int) := by simp [tly8, List.getD, h]
theorem tly8_snoc (R : List Rn8) {s : Nat} {c : Int} (h : s < 19) : tly8 (R ++ [⟨(s : Int), c⟩]) = (tly8 R).set s ((tly8 R).getD s 0 + 1) := by
  apply List.ext_getElem
  · simp [tly8]
  · intro i h1 h2
    have hi : i < 19 := by simpa [tly8] using h1
    rw [List.getElem_set]
    by_cases e : s = i
    · subst e
      rw [if_pos rfl, tly8_get R h]
      simp [tly8, List.filter_append]
    · rw [if_neg e]
      have : ¬ ((s : Int) = (i : Int)) := by omega
      simp [tly8, List.filter_append, this]
theorem tly8_bd (R : List Rn8) : ∀ z ∈ tly8 R, 0 ≤ z ∧ z ≤ R.length := by
  intro z hz
  unfold tly8 at hz
  obtain ⟨s, _, rfl⟩ := List.mem_map.1 hz
  have := List.length_filter_le (fun r : Rn8 => r.sy == (s : Int)) R
  omega
set_option maxRecDepth 100000 in
set_option maxHeartbeats 4000000 in
theorem ptally8 (R : List Rn8) (a : Option Addr) (n cap : Nat) (hn : Hid (R.length = n)) (w : World) (hs : SegN w a R) (hok : ∀ r ∈ R, 0 ≤ r.sy ∧ r.sy ≤ 18) (hl : n ≤ 1000) :
    Calls Tryd.prog 50 #[.slice a n cap] w (ShQ w 3 (tly8 R)) := by
  have HS : Hid (SegN w a R) := hs
  have HOK : Hid (∀ r ∈ R, 0 ≤ r.sy ∧ r.sy ≤ 18) := hok
  have hmk : ∀ W, (Instr.makeSlice 34 (.int .i64 19) (.int .i64 19)).run Tryd.prog W = .ok (.slice (some ⟨W.heap.size, 0, none⟩) 19 19) (W.alloc (.cells (Array.replicate 19 (.int .i64 0)) 3)) := fun W => run_make_ints 19 (by omega) W
  clear hs hok
  go_enter Tryd.func50, Tryd.ntmps50
  go_wp2_with fail
  have O0 := own_zeros w 19 (by omega)
  have B0 := below_box8 w (.cells (Array.replicate 19 (.int .i64 0)) 3)
  generalize w.alloc (.cells (Array.replicate 19 (.int .i64 0)) 3) = w0 at *
  go_loopw [9] (fun ti wr => ∃ i : Nat, i ≤ n ∧ ti = .int .i64 (i : Int) ∧ wr.ownsRow w.heap.size 3 1 (.slice (some ⟨w.heap.size, 0, none⟩) 19 19) 19 ((tly8 (R.take i)).map (Value.int .i64)) ∧ Below w.heap.size w wr) (fun ti _ => n - (intOf ti).toNat)
  case atStart => exact ⟨0, by omega, rfl, by rw [List.take_zero]; exact O0, B0⟩
  case round =>
    obtain ⟨i, hin, rfl, OO, BR⟩ := hrel
    clear O0 B0
    by_cases hlt : i < n
    · have hlti : (i : Int) < (n : Int) := by omega
      have hil : i < R.length := by rw [hn.out]; exact hlt
      obtain ⟨b, off, rfl, cs, cc⟩ := ((show SegN w a R from HS.out).old BR).at_ i hil
      have HTK : Hid (R.take (i + 1) = R.take i ++ [R.getD i ⟨0, 0⟩]) := take_snocN hil
      have hbd := HOK.out (R.getD i ⟨0, 0⟩) (by simp [List.getD, hil])
      generalize R.getD i ⟨0, 0⟩ = r at *
      obtain ⟨sy, ct⟩ := r
      simp only at cs cc hbd
      obtain ⟨s, rfl⟩ : ∃ s : Nat, sy = (s : Int) := ⟨sy.toNat, by omega⟩
      have hs19 : (s : Int) < 19 := by omega
      have hzb := tly8_bd (R.take i) ((tly8 (R.take i)).getD s 0) (by have : s < (tly8 (R.take i)).length := by rw [tly8_len]; omega
                                                                      simp [List.getD, this])
      rw [List.length_take] at hzb
      have HSN : Hid (tly8 (R.take (i + 1)) = (tly8 (R.take i)).set s ((tly8 (R.take i)).getD s 0 + 1)) := by
        show _ = _
        rw [HTK.out, tly8_snoc _ (by omega)]
      obtain ⟨d0, fz⟩ := own_cell1 OO (i := s) (by rw [tly8_len]; omega)
      have f0 := fz s
      obtain ⟨OS, GS⟩ := OO.stored s (.int .i64 ((tly8 (R.take i)).getD s 0 + 1))
      rw [← List.map_set, ← HSN.out] at OS
      have hsz := BR.size
      have hwlt : w.heap.size < wr.heap.size := (OO.lt _ rfl).2
      have B1 : Below w.heap.size w (wr.setCell ⟨w.heap.size, s, none⟩ (.int .i64 ((tly8 (R.take i)).getD s 0 + 1))) := BR.trans ((Below.refl _ _).grown GS hsz (fun k hk => by cases hk; exact Nat.le_refl _))
      have HB : Hid (Below w.heap.size w ((wr.setCell ⟨w.heap.size, s, none⟩ (.int .i64 ((tly8 (R.take i)).getD s 0 + 1))).alloc (.cells #[.int .i64 (s : Int), .int .i64 ct] 78))) := B1.alloc B1.size _
      have HOS : Hid _ := OS.alloc (.cells #[.int .i64 (s : Int), .int .i64 ct] 78)
      clear B1
      clear OS GS fz HSN HTK
      generalize (tly8 (R.take i)).getD s 0 = z at *
      have hneb : ¬ wr.heap.size = w.heap.size := by omega
      go_wp2_with fail
      go_roundw
      case rel => exact ⟨i + 1, by omega, by go_num, HOS.out, HB.out⟩
      case measure => simp [intOf]; omega
    · have hge : ¬ (i : Int) < (n : Int) := by omega
      have hTA : R.take i = R := List.take_of_length_le (by rw [hn.out]; omega)
      rw [hTA] at OO
      go_wp2_with fail
      go_ret
      refine ⟨some ⟨w.heap.size, 0, none⟩, 19, ?_, ?_, BR⟩
      · rw [tly8_len]; rfl
      · rw [tly8_len]; exact OO
/-- How many of the nineteen sizes are told. -/
def tol8 (Z : List Int) : Nat → Nat
  | 0 => 0
  | n + 1 => if 4 < n + 1 ∧ Z.getD (ordL.getD n 0).toNat 0 = 0 then tol8 Z n else n + 1
theorem tol8_bd (Z : List Int) : ∀ n, 4 ≤ n → 4 ≤ tol8 Z n ∧ tol8 Z n ≤ n
  | 0, h => by omega
  | n + 1, h => by
    rw [tol8]
    split
    · rename_i h1
      have := tol8_bd Z n (by omega)
      omega
    · omega
theorem ord_bd : ∀ k : Fin 19, 0 ≤ ordL.getD k.val 0 ∧ ordL.getD k.val 0 ≤ 18 := by decide
set_option maxRecDepth 100000 in
set_option maxHeartbeats 4000000 in
theorem ptoldof8 (Z : List Int) (a : Option Addr) (cap : Nat) (hn : Hid (Z.length = 19)) (w : World) (hs : SegZ w a Z) (T : TabO w) :
    Calls Tryd.prog 51 #[.slice a 19 cap] w fun e w' => e = .returned (.int .i64 (tol8 Z 19 : Int)) ∧ w' = w := by
  have HS : Hid (SegZ w a Z) := hs
  have HT : Hid (TabO w) := T
  clear hs T
  go_enter Tryd.func51, Tryd.ntmps51
  go_wp2_with fail
  go_loopw [3] (fun tm wr => ∃ m : Nat, 4 ≤ m ∧ m ≤ 19 ∧ tm = .int .i64 (m : Int) ∧ Hid (tol8 Z 19 = tol8 Z m) ∧ wr = w) (fun tm _ => (intOf tm).toNat)
  case atStart => exact ⟨19, by omega, by omega, rfl, rfl, rfl⟩
  case round =>
    obtain ⟨m, hm4, hm, rfl, HC, hwr⟩ := hrel
    have hwr2 : w = wr := hwr.symm
    subst hwr2
    clear hwr
    obtain ⟨q, rfl⟩ : ∃ q, m = q + 1 := ⟨m - 1, by omega⟩
    have c0 := TabO.at8 HT.out q (by omega)
    have hob := ord_bd ⟨q, by omega⟩
    simp only at hob
    have HQ : Hid (tol8 Z (q + 1) = if 4 < q + 1 ∧ Z.getD (ordL.getD q 0).toNat 0 = 0 then tol8 Z q else q + 1) := rfl
    generalize ordL.getD q 0 = oq at *
    obtain ⟨s, rfl⟩ : ∃ s : Nat, oq = (s : Int) := ⟨oq.toNat, by omega⟩
    rw [Int.toNat_natCast] at HQ
    obtain ⟨b, off, rfl, c1⟩ := (show SegZ w a Z from HS.out).at_ s (by rw [hn.out]; omega)
    have hs19 : (s : Int) < 19 := by omega
    by_cases h4 : 4 < q + 1
    · have h4i : (4 : Int) < ((q + 1 : Nat) : Int) := by omega
      by_cases hz : Z.getD s 0 = 0
      · have HC2 : Hid (tol8 Z 19 = tol8 Z q) := by show _ = _; rw [HC.out, HQ.out, if_pos ⟨h4, hz⟩]
        rw [hz] at c1
        clear HC HQ
        go_wp2_with fail
        go_roundw
        case rel => exact ⟨q, by omega, by omega, by go_num, HC2, trivial⟩
        case measure => simp [intOf]
      · have HC2 : Hid (tol8 Z 19 = q + 1) := by show _ = _; rw [HC.out, HQ.out, if_neg (fun h => hz h.2)]
        have hzb : (Z.getD s 0 == 0) = false := by rw [beq_eq_false_iff_ne]; exact hz
        clear HC HQ
        generalize Z.getD s 0 = z at *
        go_wp2_with fail
        go_ret
        refine ⟨?_, rfl⟩
        rw [HC2.out]
        rfl
    · have h4i : ¬ (4 : Int) < ((q + 1 : Nat) : Int) := by omega
      have HC2 : Hid (tol8 Z 19 = q + 1) := by show _ = _; rw [HC.out, HQ.out, if_neg (fun h => h4 h.1)]
      clear HC HQ
      go_wp2_with fail
      go_ret
      refine ⟨?_, rfl⟩
      rw [HC2.out]
      rfl
end Go.Proofs.YthcmebmohhajaaaDoor

namespace Go.Proofs.YthcmebmohhajaaaDoor
open Go.RowKit
set_option linter.unusedVariables false

/-- The first of them, and noughts. -/
def nst8 (zs : List Int) (i : Nat) : List Int := zs.take i ++ List.replicate (zs.length - i) 0
theorem nst8_len (zs : List Int) {i : Nat} (h : i ≤ zs.length) : (nst8 zs i).length = zs.length := by simp [nst8]; omega
theorem nst8_set (zs : List Int) {i : Nat} (h : i < zs.length) : (nst8 zs i).set i (zs.getD i 0) = nst8 zs (i + 1) := by
  unfold nst8
  have e : zs.length - i = (zs.length - (i + 1)) + 1 := by omega
  rw [e, List.replicate_succ, List.set_append_right _ _ (by rw [List.length_take]; omega)]
  have e2 : i - (zs.take i).length = 0 := by rw [List.length_take]; omega
  rw [e2, List.set_cons_zero, List.take_succ_eq_append_getElem h, List.append_assoc]
  simp [List.getD, h]
set_option maxRecDepth 100000 in
set_option maxHeartbeats 1000000 in
theorem pnum8 (a : Option Addr) (zs : List Int) (n cap : Nat) (hn : Hid (zs.length = n)) (w : World) (hs : Seg w a zs) (hl : n ≤ 1000) :
    Calls Tryd.prog 46 #[.slice a n cap] w fun e w' => e = .returned (.slice (some ⟨w.heap.size, 0, none⟩) n n) ∧ w'.ownsRow w.heap.size 3 1 (.slice (some ⟨w.heap.size, 0, none⟩) n n) n (zs.map (Value.int .i64)) ∧ Below w.heap.size w w' := by
  have HS : Hid (Seg w a zs) := hs
  have hmk : ∀ W, (Instr.makeSlice 34 (.int .i64 (n : Int)) (.int .i64 (n : Int))).run Tryd.prog W = .ok (.slice (some ⟨W.heap.size, 0, none⟩) n n) (W.alloc (.cells (Array.replicate n (.int .i64 0)) 3)) := fun W => run_make_ints n (by omega) W
  clear hs
  go_enter Tryd.func46, Tryd.ntmps46
  go_wp2_with fail
  have O0 := own_zeros w n (by omega)
  have B0 := below_box8 w (.cells (Array.replicate n (.int .i64 0)) 3)
  generalize w.alloc (.cells (Array.replicate n (.int .i64 0)) 3) = w0 at *
  go_loopw [11] (fun ti wr => ∃ i : Nat, i ≤ n ∧ ti = .int .i64 (i : Int) ∧ wr.ownsRow w.heap.size 3 1 (.slice (some ⟨w.heap.size, 0, none⟩) n n) n ((nst8 zs i).map (Value.int .i64)) ∧ Below w.heap.size w wr) (fun ti _ => n - (intOf ti).toNat)
  case atStart => exact ⟨0, by omega, rfl, by rw [show nst8 zs 0 = List.replicate n 0 by simp [nst8, hn.out]]; exact O0, B0⟩
  case round =>
    obtain ⟨i, hin, rfl, OO, BR⟩ := hrel
    clear O0 B0
    by_cases hlt : i < n
    · have hlti : (i : Int) < (n : Int) := by omega
      have hil : i < zs.length := by rw [hn.out]; exact hlt
      have SG := (show Seg w a zs from HS.out).old BR
      obtain ⟨b, off, rfl, cs⟩ := SG.at_ i hil
      have hbd := SG.mem (zs.getD i 0) (by simp [List.getD, hil])
      have HSN : Hid ((nst8 zs i).set i (zs.getD i 0) = nst8 zs (i + 1)) := nst8_set zs hil
      generalize zs.getD i 0 = z at *
      obtain ⟨d0, fz⟩ := own_cell1 OO (i := i) (by rw [nst8_len zs (by omega)]; exact hil)
      have f0 := fz i
      generalize (nst8 zs i).getD i 0 = y at *
      obtain ⟨OS, GS⟩ := OO.stored i (.int .i64 z)
      rw [← List.map_set, HSN.out] at OS
      have hsz := BR.size
      have B1 : Below w.heap.size w (wr.setCell ⟨w.heap.size, i, none⟩ (.int .i64 z)) := BR.trans ((Below.refl _ _).grown GS hsz (fun k hk => by cases hk; exact Nat.le_refl _))
      have hz0 : 0 ≤ z := hbd.1
      have hz1 : z ≤ 255 := hbd.2
      have HB : Hid (Below w.heap.size w (wr.setCell ⟨w.heap.size, i, none⟩ (.int .i64 z))) := B1
      have HOS : Hid _ := OS
      clear B1 OS GS fz HSN SG hbd
      go_wp2_with fail
      go_roundw
      case rel => exact ⟨i + 1, by omega, by go_num, HOS.out, HB.out⟩
      case measure => simp [intOf]; omega
    · have hge : ¬ (i : Int) < (n : Int) := by omega
      have hTA : nst8 zs i = zs := by unfold nst8; rw [hn.out, List.take_of_length_le (by rw [hn.out]; omega), show n - i = 0 by omega]; simp
      rw [hTA] at OO
      have HNN : Hid (zs.length = n) := hn
      clear hTA
      go_wp2_with fail
      go_ret
      exact ⟨rfl, OO, BR⟩
/-- A part of a reader's row. -/
structure Nm8 (w : World) (a : Option Addr) (zs : List Int) (n cap : Nat) : Prop where
  ln : zs.length = n
  seg : Seg w a zs
  sz : n ≤ 320
/-- What numbers answered. -/
structure Ro8 (w0 w : World) (g : Nat) (zs : List Int) (n : Nat) : Prop where
  own : w.ownsRow w0.heap.size 3 1 (.slice (some ⟨g, 0, none⟩) n n) n (zs.map (Value.int .i64))
theorem Ro8.old {w0 w w' : World} {g n : Nat} {zs : List Int} (h : Ro8 w0 w g zs n) (hb : Below w.heap.size w w') : Ro8 w0 w' g zs n := ⟨own_below h.own hb⟩
set_option maxRecDepth 100000 in
set_option maxHeartbeats 2000000 in
theorem phalves8 (b : Nat) (L D : List Int) (l d : Nat) (w : World) (cl : w.cell? ⟨b, 2, none⟩ = some (.int .i64 (l : Int))) (cd : w.cell? ⟨b, 3, none⟩ = some (.int .i64 (d : Int))) (hL : Nm8 w (some ⟨b, 27, none⟩) L l 320) (hD : Nm8 w (some ⟨b, 27 + l, none⟩) D d (320 - l)) (hld : l + d ≤ 320) (hl3 : l < 320) :
    Calls Tryd.prog 31 #[.pointer (some ⟨b, 0, none⟩)] w fun e w' => ∃ g1 g2, e = .returned (.tuple #[.slice (some ⟨g1, 0, none⟩) l l, .slice (some ⟨g2, 0, none⟩) d d]) ∧ Ro8 w w' g1 L l ∧ Ro8 w w' g2 D d ∧ g1 < g2 ∧ Below w.heap.size w w' := by
  have hbl : b < w.heap.size := World.block_lt_of_cell? w _ cl
  have HNM : Hid (∀ (W : World) (a : Option Addr) (zs : List Int) (n cap : Nat), Nm8 w a zs n cap → Below w.heap.size w W → Calls Tryd.prog 46 #[.slice a n cap] W fun e w' => e = .returned (.slice (some ⟨W.heap.size, 0, none⟩) n n) ∧ Ro8 w w' W.heap.size zs n ∧ Below W.heap.size W w' ∧ Below w.heap.size w w') := fun W a zs n cap hA hB => by
    refine (pnum8 a zs n cap hA.ln W (hA.seg.old hB) (by have := hA.sz; omega)).mono ?_
    rintro e w' ⟨rfl, o, b1⟩
    exact ⟨rfl, ⟨own_base o hB.size⟩, b1, hB.trans (b1.mono hB.size)⟩
  have HC : Hid (∀ W, Below w.heap.size w W → W.cell? ⟨b, 2, none⟩ = some (.int .i64 (l : Int)) ∧ W.cell? ⟨b, 3, none⟩ = some (.int .i64 (d : Int))) := fun W h => ⟨(h.cell (p := ⟨b, 2, none⟩) hbl).trans cl, (h.cell (p := ⟨b, 3, none⟩) hbl).trans cd⟩
  have bt0 : Below w.heap.size w w.drew := (Below.refl _ _).drew
  obtain ⟨q1, q2⟩ := HC.out _ bt0
  obtain ⟨x, hx⟩ : ∃ x, x = l + d := ⟨_, rfl⟩
  have i1 : (0 : Int) ≤ (l : Int) := by omega
  have i2 : (l : Int) ≤ 320 := by omega
  have i3 : (l : Int) + (d : Int) ≤ 320 := by omega
  have i4 : (l : Int) ≤ (l : Int) + (d : Int) := by omega
  have i5 : IntKind.i64.wrap ((l : Int) + (d : Int)) = (l : Int) + (d : Int) := IntWalk.i64_in _ (by omega)
  have i6 : ¬ 320 = l := by omega
  have i7 : ((l : Int) + (d : Int)).toNat - l = d := by omega
  clear hx x
  go_enter Tryd.func31, Tryd.ntmps31
  go_wp2_with fail
  go_region_held3 (fun w' => w'.cell? ⟨b, 2, none⟩ = some (.int .i64 (l : Int)) ∧ w'.cell? ⟨b, 3, none⟩ = some (.int .i64 (d : Int))) (first | (exact ⟨q1, q2⟩) | (exact HC.out _ (by assumption)))
    (first | (go_at_call 46; refine (HNM.out _ _ _ _ _ (by assumption) (by assumption)).mono ?_; rintro e wn ⟨rfl, on, bn, tn⟩))
  rename_i w1 o1 b1 t1 hh1
  have o1' := o1.old bn
  clear hh1
  go_wp2_with fail
  go_ret2
  exact ⟨_, _, rfl, o1', on, (o1.own.lt _ rfl).2, tn⟩
end Go.Proofs.YthcmebmohhajaaaDoor

namespace Go.Proofs.YthcmebmohhajaaaDoor
open Go.RowKit
set_option linter.unusedVariables false

/-! The landed head: tellable. -/
set_option maxRecDepth 100000 in
set_option maxHeartbeats 4000000 in
theorem ptell8 (xs ys : List Int) (a b : Option Addr) (n m ca cb : Nat) (hn : Hid (xs.length = n)) (hm : Hid (ys.length = m)) (w : World) (hx : SegZ w a xs) (hy : SegZ w b ys) :
    Calls Tryd.prog 47 #[.slice a n ca, .slice b m cb] w fun e w' => e = .returned (.bool (decide (tld8 errC xs ys))) ∧ Below w.heap.size w w' := by
  have HX : Hid (SegZ w a xs) := hx
  have HY : Hid (SegZ w b ys) := hy
  have HT : Hid (tld8 errC xs ys ↔ 257 ≤ n ∧ n ≤ 286 ∧ m ≤ 30 ∧ errC xs = 0 ∧ errC ys = 0 ∧ xs.getD 256 0 ≠ 0) := by
    unfold tld8
    rw [hn.out, hm.out]
    exact Iff.rfl
  have HF : Hid (¬ (257 ≤ n ∧ n ≤ 286 ∧ m ≤ 30 ∧ errC xs = 0 ∧ errC ys = 0 ∧ xs.getD 256 0 ≠ 0) → decide (tld8 errC xs ys) = false) := fun h => by
    simp only [decide_eq_false_iff_not]
    exact fun h' => h (HT.out.1 h')
  clear hx hy
  by_cases h1 : n < 257
  · have h1i : (n : Int) < 257 := by omega
    have HE : Hid (decide (tld8 errC xs ys) = false) := HF.out (by omega)
    clear HT HF
    go_enter Tryd.func47, Tryd.ntmps47
    go_wp2_with fail
    go_ret
    exact ⟨by rw [HE.out]; rfl, Below.refl _ _⟩
  have h1i : ¬ (n : Int) < 257 := by omega
  by_cases h2 : 286 < n
  · have h2i : 286 < (n : Int) := by omega
    have HE : Hid (decide (tld8 errC xs ys) = false) := HF.out (by omega)
    clear HT HF
    go_enter Tryd.func47, Tryd.ntmps47
    go_wp2_with fail
    go_ret
    exact ⟨by rw [HE.out]; rfl, Below.refl _ _⟩
  have h2i : ¬ 286 < (n : Int) := by omega
  by_cases h3 : 30 < m
  · have h3i : 30 < (m : Int) := by omega
    have HE : Hid (decide (tld8 errC xs ys) = false) := HF.out (by omega)
    clear HT HF
    go_enter Tryd.func47, Tryd.ntmps47
    go_wp2_with fail
    go_ret
    exact ⟨by rw [HE.out]; rfl, Below.refl _ _⟩
  have h3i : ¬ 30 < (m : Int) := by omega
  have C1 := check_any a xs n ca hn w HX.out (by omega)
  by_cases h4 : errC xs = 0
  · have C2 : Hid (∀ W, Below w.heap.size w W → Calls Tryd.prog 36 #[.slice b m cb] W fun e w' => e = .returned (.int .i64 (errC ys)) ∧ Below W.heap.size W w') := fun W hW => check_any b ys m cb hm W ((show SegZ w b ys from HY.out).old hW) (by omega)
    rw [h4] at C1
    by_cases h5 : errC ys = 0
    · have hg : 256 < xs.length := by rw [hn.out]; omega
      obtain ⟨g, off, rfl, c0⟩ := (show SegZ w a xs from HX.out).at_ 256 hg
      have HG : Hid (∀ W, Below w.heap.size w W → W.cell? ⟨g, off + 256, none⟩ = some (.int .i64 (xs.getD 256 0))) := fun W hW => (hW.cell (p := ⟨g, off + 256, none⟩) (World.block_lt_of_cell? w _ c0)).trans c0
      have HE : Hid (decide (tld8 errC xs ys) = decide (xs.getD 256 0 ≠ 0)) := by
        show _ = _
        rw [decide_eq_decide, HT.out]
        constructor
        · exact fun h => h.2.2.2.2.2
        · exact fun h => ⟨by omega, by omega, by omega, h4, h5, h⟩
      rw [h5] at C2
      generalize xs.getD 256 0 = z at *
      have h256 : (256 : Int) < (n : Int) := by omega
      clear HT HF
      go_enter Tryd.func47, Tryd.ntmps47
      go_wp2_with fail
      refine C1.mono ?_
      rintro e w1 ⟨rfl, B1⟩
      go_wp2_with fail
      refine (C2.out w1 B1).mono ?_
      rintro e w2 ⟨rfl, B2⟩
      have B3 := B1.trans (B2.mono B1.size)
      have c2 := HG.out w2 B3
      by_cases hz : z = 0
      · subst hz
        go_wp2_with fail
        go_ret
        exact ⟨by rw [HE.out]; rfl, B3⟩
      · have hzb : (z == 0) = false := by simpa using hz
        go_wp2_with fail
        go_ret
        refine ⟨?_, B3⟩
        rw [HE.out, decide_eq_true hz]
        have hzn : (z != 0) = true := by simpa using hz
        show Ending.returned (Value.bool (z != 0)) = _
        rw [hzn]
    · have HE : Hid (decide (tld8 errC xs ys) = false) := HF.out (fun h => h5 h.2.2.2.2.1)
      have h5b : (errC ys == 0) = false := by simpa using h5
      clear HT HF
      generalize errC ys = z at *
      go_enter Tryd.func47, Tryd.ntmps47
      go_wp2_with fail
      refine C1.mono ?_
      rintro e w1 ⟨rfl, B1⟩
      go_wp2_with fail
      refine (C2.out w1 B1).mono ?_
      rintro e w2 ⟨rfl, B2⟩
      have B3 := B1.trans (B2.mono B1.size)
      go_wp2_with fail
      go_ret
      exact ⟨by rw [HE.out]; rfl, B3⟩
  · have HE : Hid (decide (tld8 errC xs ys) = false) := HF.out (fun h => h4 h.2.2.2.1)
    have h4b : (errC xs == 0) = false := by simpa using h4
    clear HT HF
    generalize errC xs = z at *
    go_enter Tryd.func47, Tryd.ntmps47
    go_wp2_with fail
    refine C1.mono ?_
    rintro e w1 ⟨rfl, B1⟩
    go_wp2_with fail
    go_ret
    exact ⟨by rw [HE.out]; rfl, B1⟩
end Go.Proofs.YthcmebmohhajaaaDoor
