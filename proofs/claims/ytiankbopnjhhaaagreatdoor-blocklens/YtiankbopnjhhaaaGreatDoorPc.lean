import Derived.Test.YtiankbopnjhhaaaGreatDoorPb
import Derived.Test.YtiankbopnjhhaaaGreatDoorProg
import Derived.Test.YtiankbopnjhhaaaGreatDoorPa
import Derived.WalkKit
import Derived.WalkSpells
import Derived.BigQuiet
import Derived.Deep.QuietTactic
import Derived.WalkLawsBesides
import Derived.Deep.RegionHeld3
import Derived.Deep.OwnRows
import Derived.Laws.CopyOwn
namespace Go.Proofs.YtiankbopnjhhaaaGreatDoor
open Go.RowKit
set_option linter.unusedVariables false

/-! The landed head: spread. -/
def SpQ (w : World) (ty : TypeId) (R : List Rn8) (e : Ending) (w' : World) : Prop := ∃ oa oc, e = .returned (.slice oa R.length oc) ∧ w'.ownsRow w.heap.size ty 2 (.slice oa R.length oc) R.length (flatN R) ∧ Below w.heap.size w w'
def SpI (v : Int) (K : Nat) (w wr : World) (ty : TypeId) (tk to : Value) : Prop := ∃ (j m oc : Nat) (oa : Option Addr) (R : List Rn8), m + j ≤ K ∧ tk = .int .i64 (j : Int) ∧ to = .slice oa m oc ∧ R.length = m ∧ spd8 K v K false = R ++ spd8 j v j (decide (0 < m)) ∧ wr.ownsRow w.heap.size ty 2 (.slice oa m oc) m (flatN R) ∧ Below w.heap.size w wr
theorem spd8_one (v : Int) {j : Nat} (hj : 0 < j) (b : Bool) : spd8 j v j b = led8 v j b :: spd8 (j - (led8 v j b).ct.toNat) v (j - (led8 v j b).ct.toNat) true := by
  obtain ⟨i, rfl⟩ : ∃ i, j = i + 1 := ⟨j - 1, by omega⟩
  have hc := led8_ct v (k := i + 1) (by omega) b
  rw [spd8, if_neg (by omega), spd8_fuel v i (i + 1 - (led8 v (i + 1) b).ct.toNat) _ true (by omega) (by omega)]
set_option maxRecDepth 100000 in
set_option maxHeartbeats 400000 in
theorem pspread8 (v : Int) (K : Nat) (hK : K ≤ 1000) (w : World) (T : TabS w) :
    Calls Tryz.prog 165 #[.int .i64 v, .int .i64 (K : Int)] w (SpQ w 211 (spd8 K v K false)) := by
  obtain ⟨i0, hi, hz0, hz1, hz2⟩ := info_parts info_arun8
  have HC : Hid (∀ (j : Nat) (b : Bool) (W : World), j ≤ 1000 → Below w.heap.size w W → Calls Tryz.prog 171 #[.int .i64 v, .int .i64 (j : Int), .bool b] W fun e w' => e = .returned (.agg #[.int .i64 (led8 v j b).sy, .int .i64 (led8 v j b).ct]) ∧ Below W.heap.size W w') := fun j b W hj hb => pleading8 v j b (by omega) W (SegZ.old T hb)
  clear T
  go_enter Tryz.func165, Tryz.ntmps165
  go_wp2_with fail
  go_loopw [1, 5] (fun tk to wr => SpI v K w wr 211 tk to) (fun tk _ _ => (intOf tk).toNat)
  case atStart => exact ⟨K, 0, 0, none, [], by omega, rfl, rfl, rfl, by simp, World.ownsRow_nil _ _ _ _, Below.refl _ _⟩
  case round =>
    obtain ⟨j, m, oc, oa, R, hmj, rfl, rfl, hRl, hsp, OO, BR⟩ := hrel
    have HRL : Hid (R.length = m) := hRl
    clear hRl
    by_cases hj : 0 < j
    · have hji : (0 : Int) < (j : Int) := by omega
      have C1 := HC.out j (decide (0 < m)) wr (by omega) BR
      rw [spd8_one v hj] at hsp
      have hct := led8_ct v (k := j) (by omega) (decide (0 < m))
      generalize led8 v j (decide (0 < m)) = r at *
      obtain ⟨sy, ct⟩ := r
      obtain ⟨c, rfl⟩ : ∃ c : Nat, ct = (c : Int) := ⟨ct.toNat, by have := hct.1; simp only at this; omega⟩
      simp only [Int.toNat_natCast] at hsp hct C1
      obtain ⟨q, hq⟩ : ∃ q, q = j - c := ⟨_, rfl⟩
      rw [← hq] at hsp
      have hqi : (j : Int) - (c : Int) = (q : Int) := by omega
      have HSP : Hid (spd8 K v K false = (R ++ [⟨sy, c⟩]) ++ spd8 q v q true) := by show _ = _; rw [hsp]; simp
      have hqb : q < j ∧ q + m + 1 ≤ K ∧ c ≤ j ∧ 1 ≤ c := by omega
      clear hsp hct hq
      have HI : Hid ((j : Int) - (c : Int) = (q : Int)) := hqi
      clear hqi
      go_wp2_with (first
        | (go_at_call 171; refine C1.mono ?_; rintro e w1 ⟨rfl, b1⟩; have O1 := own_belowN OO b1; have B1 : Below w.heap.size w w1 := BR.trans (b1.mono BR.size); have hsz1 := B1.size)
        | (at_builtin; refine wpList_appN rfl (.tmp 15) (.tmp 17) 206 rfl w.heap.size 211 i0 _ 16 Tryz.underlying206 hi hz0 hz1 hz2 rfl (w1.alloc (.cells #[.int .i64 sy, .int .i64 (c : Int)] 211)) ⟨sy, c⟩ (O1.alloc _) rfl (by show Value.slice (some ⟨w1.heap.size + 1, 0, none⟩) 1 1 = _; simp) (by omega) (by omega) (by simp; omega) ?_; intro ga gc w3 own3 hk3 hat3; have cc3 := hk3.cellN (k := w1.heap.size) (o := 1) (v := .int .i64 (c : Int)) (by rw [cell_of_row _ _ 1 _ _ _ (heap_alloc_new w1 _)]; rfl) (fun e => by have := (O1.lt _ e).2; simp at this)))
      have B3 : Below w.heap.size w w3 := (B1.trans ((below_box8 w1 _).mono hsz1)).trans (hk3.below (fun q e => (O1.lt q e).1) (by simp; omega))
      clear hk3 hat3 O1 B1
      go_roundw
      case rel => exact ⟨q, m + 1, gc, _, R ++ [⟨sy, c⟩], by omega, by have h5 := HI.out; go_num, rfl, by rw [List.length_append, HRL.out]; rfl, by rw [HSP.out]; simp, own3, B3⟩
      case measure => have := HI.out; simp [intOf]; omega
    · obtain rfl : j = 0 := by omega
      have HSP : Hid (spd8 K v K false = R) := by show _ = _; rw [hsp]; simp [spd8]
      clear hsp
      go_wp2_with fail
      go_ret
      refine ⟨oa, oc, ?_, ?_, BR⟩
      · rw [HSP.out, HRL.out]; rfl
      · rw [HSP.out, HRL.out]; exact OO
end Go.Proofs.YtiankbopnjhhaaaGreatDoor

namespace Go.Proofs.YtiankbopnjhhaaaGreatDoor
open Go.RowKit
set_option linter.unusedVariables false

/-! The landed head: Runs. -/
theorem SegZ.drop8 {w : World} {b off : Nat} {zs : List Int} (h : SegZ w (some ⟨b, off, none⟩) zs) (p : Nat) : SegZ w (some ⟨b, off + p, none⟩) (zs.drop p) :=
  ⟨fun i hi => by
    rw [List.length_drop] at hi
    obtain ⟨b', off', e, c⟩ := h.at_ (p + i) (by omega)
    cases e
    refine ⟨b, off + p, rfl, ?_⟩
    rw [Nat.add_assoc, c]
    simp [List.getD], fun i => by have := h.bd (p + i); simpa [List.getD] using this⟩
theorem flatN_len : ∀ l : List Rn8, (flatN l).length = l.length * 2
  | [] => rfl
  | t :: r => by
    have e : flatN (t :: r) = .int .i64 t.sy :: .int .i64 t.ct :: flatN r := rfl
    rw [e, List.length_cons, List.length_cons, flatN_len r, List.length_cons]
    omega
theorem flatN_one (l : List Rn8) : ∀ u ∈ flatN l, u.oneCell' = true := by
  intro u hu
  unfold flatN at hu
  obtain ⟨x, _, h⟩ := List.mem_flatMap.1 hu
  simp only [List.mem_cons, List.not_mem_nil, or_false] at h
  rcases h with rfl | rfl <;> rfl
/-- Runs that lie somewhere behind a row of the call's own. -/
theorem wpList_appR {P : Program} {ops : Array Oper} {rest : List Oper} {o : Oper} {a : Act} {Q : Exit → Act → World → Prop} (hgd : o.guard = none) (s x : Operand) (t : TypeId)
    (ho : o.op = .call { callee := .builtin .append, args := #[s, x], argTypes := #[t, t] })
    (base : Nat) (e : TypeId) (i : TypeInfo) (z : Value) (bytes : Nat) (ht : P.underlying t = some (.slice e)) (hi : P.info? e = some i) (hz : i.zero = some z)
    (hsize : i.size = 2) (hby : i.bytes = bytes) (hzs : z.cells.size = 2) (w0 : World) {b2 m c2 : Nat} {e2 : TypeId} {la : Option Addr} {L : List Rn8}
    {ra : Option Addr} {n rc : Nat} {l : List Rn8} (hown : w0.ownsRow base e 2 (.slice ra n rc) n (flatN l)) (hs : a.eval s = .slice ra n rc)
    (hL : w0.ownsRow b2 e2 2 (.slice la m c2) m (flatN L)) (hx : a.eval x = .slice la m c2) (hm : 0 < m)
    (h63 : n + m ≤ 140737488355328) (hbytes : (n + m) * bytes ≤ 140737488355328) (hbase : base ≤ w0.heap.size)
    (h : ∀ (g : Nat) (c : Nat) (w' : World), w'.ownsRow base e 2 (.slice (some ⟨g, 0, none⟩) (n + m) c) (n + m) (flatN (l ++ L)) → Kp (fun k => (Value.slice ra n rc).ownBlock = some k) w0 w' → wpList P ops Q rest (a.put o.dst (.slice (some ⟨g, 0, none⟩) (n + m) c)) w') : wpList P ops Q (o :: rest) a w0 := by
  have hLl : L.length = m := by have := hL.1; rw [flatN_len] at this; omega
  rcases hL.2 with ⟨_, h0⟩ | ⟨g, cp, cur, hv, _⟩
  · omega
  simp only [Value.slice.injEq] at hv
  obtain ⟨rfl, _, rfl⟩ := hv
  refine wpList_append_lies _ hgd s x t ho base e i z 2 bytes ht hi hz hsize hby hzs (by decide) _ n (flatN l) hs hown ⟨g, 0, none⟩ m c2 (flatN L) hx (by rw [flatN_len, hLl]) (fun j u hu => hL.cells (g := g) rfl j u hu) (flatN_one L) hm (by unfold maxLen; omega) hbytes hbase _ rfl ?_
  intro g c w' h1 h2 h3 _
  exact h g c w' (by rw [flatN_app]; exact h1) (Kp.grown (S := fun k => (Value.slice ra n rc).ownBlock = some k) h2 (fun i e => e))
set_option maxRecDepth 100000 in
set_option maxHeartbeats 4000000 in
theorem pruns8 (zs : List Int) (a : Option Addr) (n cap : Nat) (hn : Hid (zs.length = n)) (hcap : n ≤ cap) (w : World) (hs : SegZ w a zs) (T : TabS w) :
    Calls Tryz.prog 148 #[.slice a n cap] w (RsQ w 211 (rns8 zs) (rer8 zs)) := by
  obtain ⟨i0, hi, hz0, hz1, hz2⟩ := info_parts info_arun8
  have HNO : Hid (¬ may8 zs → ∀ w', Below w.heap.size w w' → RsQ w 211 (rns8 zs) (rer8 zs) (.returned (.tuple #[.slice none 0 0, .int .i64 80])) w') := fun hm w' hb => by
    unfold rns8 rer8
    rw [if_neg hm, if_neg hm]
    exact ⟨none, 0, rfl, World.ownsRow_nil _ _ _ _, hb⟩
  by_cases h320 : 320 < n
  · have h3i : 320 < (n : Int) := by omega
    have hm : ¬ may8 zs := fun h => by have := h.1; rw [hn.out] at this; omega
    have HF := HNO.out hm w (Below.refl _ _)
    clear hm HNO
    go_enter Tryz.func148, Tryz.ntmps148
    go_wp2_with fail
    go_ret2
    exact HF
  · have h3i : ¬ 320 < (n : Int) := by omega
    have HS : Hid (SegZ w a zs) := hs
    have HT : Hid (TabS w) := T
    clear hs T
    go_enter Tryz.func148, Tryz.ntmps148
    go_wp2_with fail
    go_loopw [14] (fun ti wr => ∃ i : Nat, i ≤ n ∧ ti = .int .i64 (i : Int) ∧ Hid (∀ j, j < i → 0 ≤ zs.getD j 0 ∧ zs.getD j 0 ≤ 15) ∧ wr = w) (fun ti _ => n - (intOf ti).toNat)
    case atStart => exact ⟨0, by omega, rfl, (show ∀ j, _ from fun j hj => by omega), rfl⟩
    case round =>
      obtain ⟨i, hin, rfl, HA, hwr⟩ := hrel
      have hwr2 : w = wr := hwr.symm
      subst hwr2
      clear hwr
      by_cases hlt : i < n
      · have hlti : (i : Int) < (n : Int) := by omega
        have hiz : i < zs.length := by rw [hn.out]; exact hlt
        obtain ⟨b, off, rfl, c0⟩ := (show SegZ w a zs from HS.out).at_ i hiz
        have hbd := (show SegZ w (some ⟨b, off, none⟩) zs from HS.out).bd i
        have HNM : Hid (¬ (0 ≤ zs.getD i 0 ∧ zs.getD i 0 ≤ 15) → ¬ may8 zs) := fun h hm => h (may8_at hiz hm)
        have HNX : Hid (0 ≤ zs.getD i 0 ∧ zs.getD i 0 ≤ 15 → ∀ j, j < i + 1 → 0 ≤ zs.getD j 0 ∧ zs.getD j 0 ≤ 15) := fun h j hj => by
          by_cases e : j = i
          · subst e; exact h
          · exact HA.out j (by omega)
        generalize zs.getD i 0 = z at *
        by_cases g1 : z < 0
        · have HF := HNO.out (HNM.out (by omega)) w (Below.refl _ _)
          clear HNM HNX HNO
          go_wp2_with fail
          go_ret2
          exact HF
        · by_cases g2 : 15 < z
          · have HF := HNO.out (HNM.out (by omega)) w (Below.refl _ _)
            clear HNM HNX HNO
            go_wp2_with fail
            go_ret2
            exact HF
          · have HN2 : Hid (∀ j, j < i + 1 → 0 ≤ zs.getD j 0 ∧ zs.getD j 0 ≤ 15) := HNX.out (by omega)
            clear HNM HNX
            go_wp2_with fail
            go_roundw
            case rel => exact ⟨i + 1, by omega, by go_num, HN2, trivial⟩
            case measure => simp [intOf]; omega
      · have hge : ¬ (i : Int) < (n : Int) := by omega
        have hM : may8 zs := may8_all (by rw [hn.out]; omega) (fun j hj => HA.out j (by rw [hn.out] at hj; omega))
        have HM : Hid (may8 zs) := hM
        clear hM HA HNO
        go_wp2_with fail
        go_loopw [6, 7] (fun to ti wq => RnI zs w wq 211 to ti) (fun _ ti _ => n - (intOf ti).toNat)
        case atStart => exact ⟨0, 0, 0, none, [], by omega, by omega, rfl, rfl, rfl, by simp [runs8], World.ownsRow_nil _ _ _ _, Below.refl _ _⟩
        case round =>
          obtain ⟨p, m, oc, oa, R, hpn, hmp, rfl, rfl, hRl, hrun, OO, BR⟩ := hrel
          rw [hn.out] at hpn
          have HRL : Hid (R.length = m) := hRl
          have HRN : Hid (runs8 zs = R ++ rung8 (zs.length - p) (zs.drop p)) := hrun
          clear hRl hrun
          by_cases hpl : p < n
          · have hpli : (p : Int) < (n : Int) := by omega
            have hpz : p < zs.length := by rw [hn.out]; exact hpl
            have HAT := rung8_str hpz
            have hpre0 : 1 ≤ pre8 (zs.getD p 0) (zs.drop p) := by
              rw [pre8_iff]
              refine ⟨by rw [List.length_drop]; omega, fun j hj => ?_⟩
              obtain rfl : j = 0 := by omega
              simp [List.getD]
            have hprl := pre8_le (zs.getD p 0) (zs.drop p)
            rw [List.length_drop, hn.out] at hprl
            have hSW := (show SegZ w a zs from HS.out).old BR
            obtain ⟨b, off, rfl, c0⟩ := hSW.at_ p hpz
            have CS := pstretch8 (zs.drop p) (some ⟨b, off + p, none⟩) (n - p) (cap - p) (by show _ = _; rw [List.length_drop, hn.out]) wr (hSW.drop8 p) (by omega) (by omega)
            have e0 : (zs.drop p).getD 0 0 = zs.getD p 0 := by simp [List.getD]
            rw [e0] at CS
            have HCP : Hid (∀ (k : Nat) (W : World), k ≤ 1000 → Below w.heap.size w W → Calls Tryz.prog 165 #[.int .i64 (zs.getD p 0), .int .i64 (k : Int)] W (SpQ W 211 (spd8 k (zs.getD p 0) k false))) := fun k W hk hb => pspread8 _ k hk W (SegZ.old HT.out hb)
            have hlen := spd8_len (zs.getD p 0) (pre8 (zs.getD p 0) (zs.drop p)) (pre8 (zs.getD p 0) (zs.drop p)) false
            have hpos : 0 < (spd8 (pre8 (zs.getD p 0) (zs.drop p)) (zs.getD p 0) (pre8 (zs.getD p 0) (zs.drop p)) false).length := by rw [spd8_one _ (by omega)]; simp
            have HAT2 : Hid (rung8 (zs.length - p) (zs.drop p) = spd8 (pre8 (zs.getD p 0) (zs.drop p)) (zs.getD p 0) (pre8 (zs.getD p 0) (zs.drop p)) false ++ rung8 (zs.length - (p + pre8 (zs.getD p 0) (zs.drop p))) (zs.drop (p + pre8 (zs.getD p 0) (zs.drop p)))) := HAT
            clear HAT hSW e0
            have hvb := (show SegZ w (some ⟨b, off, none⟩) zs from HS.out).bd p
            generalize zs.getD p 0 = v at *
            generalize pre8 v (zs.drop p) = K at *
            have CP : Hid (∀ (W : World), Below w.heap.size w W → Calls Tryz.prog 165 #[.int .i64 v, .int .i64 (K : Int)] W (SpQ W 211 (spd8 K v K false))) := fun W hb => HCP.out K W (by omega) hb
            clear HCP
            generalize spd8 K v K false = L at *
            obtain ⟨N, hN⟩ : ∃ N, N = L.length := ⟨_, rfl⟩
            have HN : Hid (L.length = N) := hN.symm
            rw [← hN] at hlen hpos
            obtain ⟨np, hnp⟩ : ∃ np, n - p = np := ⟨_, rfl⟩
            obtain ⟨cp, hcp⟩ : ∃ cp, cap - p = cp := ⟨_, rfl⟩
            rw [hnp, hcp] at CS
            have hpi1 : p ≤ n := by omega
            clear hN
            go_wp2_with (first
              | (go_at_call 164; refine CS.mono ?_; rintro e w1 ⟨rfl, b1⟩; have B1 : Below w.heap.size w w1 := BR.trans (b1.mono BR.size); have O1 := own_belowN OO b1; have c1 : w1.cell? ⟨b, off + p, none⟩ = some (.int .i64 v) := (b1.cell (p := ⟨b, off + p, none⟩) (World.block_lt_of_cell? wr _ c0)).trans c0)
              | (go_at_call 165; refine (CP.out _ B1).mono ?_; rintro e w2 ⟨la, lc, rfl, LO, b2⟩; rw [HN.out] at LO; rw [HN.out]; have B2 : Below w.heap.size w w2 := B1.trans (b2.mono B1.size); have O2 := own_belowN O1 b2; have hsz2 := B2.size)
              | (at_builtin; refine wpList_appR rfl (.tmp 33) (.tmp 39) 206 rfl w.heap.size 211 i0 _ 16 Tryz.underlying206 hi hz0 hz1 hz2 rfl w2 O2 rfl LO rfl hpos (by omega) (by omega) hsz2 ?_; intro ga gc w3 own3 hk3))
            have B3 : Below w.heap.size w w3 := B2.trans (hk3.below (fun q e => (O2.lt q e).1) hsz2)
            clear hk3 O1 O2 LO b1 b2 OO BR
            have HL2 : Hid ((R ++ L).length = m + N) := by show _ = _; rw [List.length_append, HRL.out, HN.out]
            have HR2 : Hid (runs8 zs = (R ++ L) ++ rung8 (zs.length - (p + K)) (zs.drop (p + K))) := by
              show _ = _
              rw [HRN.out, HAT2.out, List.append_assoc]
            go_roundw
            case rel => exact ⟨p + K, m + N, gc, _, R ++ L, by rw [hn.out]; omega, by omega, by go_num, rfl, HL2.out, HR2.out, own3, B3⟩
            case measure => simp [intOf]; omega
          · have hpge : ¬ (p : Int) < (n : Int) := by omega
            have HE : Hid (runs8 zs = R) := by
              show _ = _
              rw [HRN.out, show zs.length - p = 0 by rw [hn.out]; omega, rung8, List.append_nil]
            clear HRN
            go_wp2_with fail
            go_ret2
            unfold rns8 rer8
            rw [if_pos HM.out, if_pos HM.out]
            refine ⟨oa, oc, ?_, ?_, BR⟩
            · rw [HE.out, HRL.out]; rfl
            · rw [HE.out, HRL.out]; exact OO
end Go.Proofs.YtiankbopnjhhaaaGreatDoor

namespace Go.Proofs.YtiankbopnjhhaaaGreatDoor
open Go.RowKit
set_option linter.unusedVariables false

theorem take_all_eq {xs ys : List Int} (h : xs.length = ys.length) {k : Nat} (hk : k = xs.length ∨ k = ys.length) (he : xs.take k = ys.take k) : xs = ys := by
  have : k = xs.length := by omega
  rw [List.take_of_length_le (by omega), List.take_of_length_le (by omega)] at he
  exact he

end Go.Proofs.YtiankbopnjhhaaaGreatDoor

namespace Go.Proofs.YtiankbopnjhhaaaGreatDoor
open Go.RowKit
set_option linter.unusedVariables false

theorem info_int : (Tryz.prog.info? 3).map (fun i => (i.zero, i.size, i.bytes)) = some (some (.int .i64 0), 1, 8) := by kernel_rfl
end Go.Proofs.YtiankbopnjhhaaaGreatDoor

namespace Go.Proofs.YtiankbopnjhhaaaGreatDoor
open Go.RowKit
set_option linter.unusedVariables false

/-! The document's Lens: the walk. -/
/-- A number behind a row of the call's own. -/
theorem wpList_appI {P : Program} {ops : Array Oper} {rest : List Oper} {o : Oper} {a : Act} {Q : Exit → Act → World → Prop} (hgd : o.guard = none) (s x : Operand) (t : TypeId)
    (ho : o.op = .call { callee := .builtin .append, args := #[s, x], argTypes := #[t, t] })
    (base : Nat) (e : TypeId) (i : TypeInfo) (z : Value) (bytes : Nat) (ht : P.underlying t = some (.slice e)) (hi : P.info? e = some i) (hz : i.zero = some z)
    (hsize : i.size = 1) (hby : i.bytes = bytes) (hzs : z.cells.size = 1) (w0 : World) (y : Int)
    {ra : Option Addr} {n rc : Nat} {l : List Int} (hown : w0.ownsRow base e 1 (.slice ra n rc) n (l.map (Value.int .i64))) (hs : a.eval s = .slice ra n rc) (hx : a.eval x = .slice (some ⟨w0.heap.size, 0, none⟩) 1 1)
    (h63 : n + 1 ≤ 140737488355328) (hbytes : (n + 1) * bytes ≤ 140737488355328) (hbase : base ≤ w0.heap.size)
    (h : ∀ (g : Nat) (c : Nat) (w' : World), w'.ownsRow base e 1 (.slice (some ⟨g, 0, none⟩) (n + 1) c) (n + 1) ((l ++ [y]).map (Value.int .i64)) → Kp (fun k => (Value.slice ra n rc).ownBlock = some k) w0 w' → ((Value.slice ra n rc).ownBlock = some g ∨ g = w0.heap.size + 1) → wpList P ops Q rest (a.put o.dst (.slice (some ⟨g, 0, none⟩) (n + 1) c)) w') : wpList P ops Q (o :: rest) a (w0.alloc (.cells #[.int .i64 y] e)) := by
  have hnew : ∀ j u, ([.int .i64 y] : List Value)[j]? = some u → (w0.alloc (.cells #[.int .i64 y] e)).cell? ((⟨w0.heap.size, 0, none⟩ : Addr).add j) = some u := by
    intro j u hu
    have hadd : (⟨w0.heap.size, 0, none⟩ : Addr).add j = ⟨w0.heap.size, j, none⟩ := by unfold Addr.add; split <;> simp_all
    rw [hadd]
    have hh := heap_alloc_new w0 (.cells #[.int .i64 y] e)
    simp only [World.cell?, hh]
    simpa using hu
  refine wpList_append_lies _ hgd s x t ho base e i z 1 bytes ht hi hz hsize hby hzs (by decide) _ n (l.map (Value.int .i64)) hs (hown.alloc _) ⟨w0.heap.size, 0, none⟩ 1 1 [.int .i64 y] hx rfl hnew (by intro u hu; simp only [List.mem_cons, List.not_mem_nil, or_false] at hu; subst hu; rfl) (by decide) (by unfold maxLen; omega) hbytes (by simp; omega) (w0.heap.size + 1) (by simp) ?_
  intro g c w' h1 h2 h3 _
  refine h g c w' (by rw [List.map_append]; exact h1) ?_ h3
  exact (Kp.alloc w0 _).trans (Kp.grown (S := fun k => (Value.slice ra n rc).ownBlock = some k) h2 (fun i e => e)) (fun _ _ e => e)
theorem end8_get : ∀ (l : List Int), 0 < l.length → end8 l = l.getD (l.length - 1) 0
  | [], h => by simp at h
  | [x], _ => rfl
  | x :: y :: r, _ => by
    have := end8_get (y :: r) (by simp)
    simpa [end8, List.getD] using this
theorem lng8_at {R : List Rn8} {i : Nat} (h : i < R.length) (out : List Int) : lng8 (R.drop i) out = if bad8 (R.getD i ⟨0, 0⟩) out.length then none else if 320 < (out ++ List.replicate (R.getD i ⟨0, 0⟩).ct.toNat (val8 (R.getD i ⟨0, 0⟩) out)).length then none else lng8 (R.drop (i + 1)) (out ++ List.replicate (R.getD i ⟨0, 0⟩).ct.toNat (val8 (R.getD i ⟨0, 0⟩) out)) := by
  have hd : R.drop i = R.getD i ⟨0, 0⟩ :: R.drop (i + 1) := by rw [List.drop_eq_getElem_cons h]; simp [List.getD, h]
  rw [hd, lng8]
def lzs8 (R : List Rn8) : List Int := (lens8 R).getD []
def ler8 (R : List Rn8) : Int := if (lens8 R).isSome then 0 else 81
theorem lzs8_none {R : List Rn8} (h : lens8 R = none) : lzs8 R = [] ∧ ler8 R = 81 := by unfold lzs8 ler8; rw [h]; exact ⟨rfl, rfl⟩
theorem lzs8_some {R : List Rn8} {l : List Int} (h : lens8 R = some l) : lzs8 R = l ∧ ler8 R = 0 := by unfold lzs8 ler8; rw [h]; exact ⟨rfl, rfl⟩
def LsQ (w : World) (ty : TypeId) (zs : List Int) (er : Int) (e : Ending) (w' : World) : Prop := ∃ oa oc, e = .returned (.tuple #[.slice oa zs.length oc, .int .i64 er]) ∧ w'.ownsRow w.heap.size ty 1 (.slice oa zs.length oc) zs.length (zs.map (Value.int .i64)) ∧ Below w.heap.size w w'
/-- How far Lens has come. -/
def LnI (R : List Rn8) (w wr : World) (ty : TypeId) (n : Nat) (to ti : Value) : Prop := ∃ (i m oc : Nat) (oa : Option Addr) (out : List Int), i ≤ n ∧ m ≤ 320 ∧ ti = .int .i64 (i : Int) ∧ to = .slice oa m oc ∧ out.length = m ∧ (∀ z ∈ out, 0 ≤ z ∧ z ≤ 15) ∧ lens8 R = lng8 (R.drop i) out ∧ wr.ownsRow w.heap.size ty 1 (.slice oa m oc) m (out.map (Value.int .i64)) ∧ Below w.heap.size w wr
/-- How far it has come within a run. -/
def LnK (out : List Int) (v : Int) (w wq : World) (ty : TypeId) (A c m : Nat) (to tk : Value) : Prop := ∃ (k m' oc : Nat) (oa : Option Addr), k ≤ c ∧ tk = .int .i64 (k : Int) ∧ to = .slice oa m' oc ∧ m' = m + k ∧ wq.ownsRow w.heap.size ty 1 (.slice oa m' oc) m' ((out ++ List.replicate k v).map (Value.int .i64)) ∧ Below w.heap.size w wq ∧ wq.cell? ⟨A, 1, none⟩ = some (.int .i64 (c : Int)) ∧ (Value.slice oa m' oc).ownBlock ≠ some A
theorem lst8_ge (s : Int) : 1 ≤ lst8 s := by unfold lst8; split; omega; split <;> omega
theorem grt8_le (s : Int) : grt8 s ≤ 138 := by unfold grt8; split; omega; split; omega; split <;> omega
end Go.Proofs.YtiankbopnjhhaaaGreatDoor

namespace Go.Proofs.YtiankbopnjhhaaaGreatDoor
open Go.RowKit
set_option linter.unusedVariables false

/-! The document's order, short. -/
def ord8 : List Int := [16, 17, 18, 0, 8, 7, 9, 6, 10, 5, 11, 4, 12, 3, 13, 2, 14, 1, 15]
set_option maxRecDepth 100000 in
theorem rorder8 (w : World) : Calls Tryz.prog 87 #[] w fun e w' => e = .returned (.slice (some ⟨w.heap.size, 0, none⟩) 19 19) ∧ w' = w.alloc (.cells (ord8.map (Value.int .i64)).toArray 3) := by
  go_enter Tryz.func87, Tryz.ntmps87
  go_wp2_with fail
  go_ret
  exact ⟨rfl, rfl⟩
/-- How many are left of the first n, without the noughts at their end. -/
def cut8 (zs : List Int) : Nat → Nat
  | 0 => 0
  | n + 1 => if zs.getD n 0 = 0 then cut8 zs n else n + 1
theorem cut8_le (zs : List Int) : ∀ n, cut8 zs n ≤ n
  | 0 => Nat.le_refl _
  | n + 1 => by
    rw [cut8]
    split
    · have := cut8_le zs n; omega
    · omega
def sht8 (zs : List Int) (k : Nat) : List Int := zs.take (cut8 zs zs.length) ++ List.replicate (k - cut8 zs zs.length) 0
def ShQ (w : World) (ty : TypeId) (l : List Int) (e : Ending) (w' : World) : Prop := ∃ oa oc, e = .returned (.slice oa l.length oc) ∧ w'.ownsRow w.heap.size ty 1 (.slice oa l.length oc) l.length (l.map (Value.int .i64)) ∧ Below w.heap.size w w'
def lenOfS : Value → Nat
  | .slice _ n _ => n
  | _ => 0
set_option maxRecDepth 100000 in
set_option maxHeartbeats 4000000 in
theorem rshort8 (zs : List Int) (k : Nat) (a : Option Addr) (n cap : Nat) (hn : Hid (zs.length = n)) (w : World) (hs : SegZ w a zs) (hnil : a = none → cap = 0) (hcap : n ≤ cap) (hl : n ≤ 1073741824) (hk : k ≤ 1073741824) :
    Calls Tryz.prog 85 #[.slice a n cap, .int .i64 (k : Int)] w (ShQ w 3 (sht8 zs k)) := by
  obtain ⟨i0, hi, hz0, hz1, hz2⟩ := info_parts info_int
  have HS : Hid (SegZ w a zs) := hs
  clear hs
  go_enter Tryz.func85, Tryz.ntmps85
  go_wp2_with fail
  go_loopw [5] (fun tn wr => ∃ j : Nat, j ≤ n ∧ tn = .int .i64 (j : Int) ∧ Hid (cut8 zs zs.length = cut8 zs j) ∧ wr = w) (fun tn _ => (intOf tn).toNat)
  case atStart => exact ⟨n, by omega, rfl, (by rw [hn.out] : _ = _), rfl⟩
  case round =>
    obtain ⟨j, hjn, rfl, HC, hwr⟩ := hrel
    subst hwr
    by_cases hgo : 0 < j ∧ zs.getD (j - 1) 0 = 0
    · obtain ⟨hj0, hz⟩ := hgo
      obtain ⟨j, rfl⟩ : ∃ j', j = j' + 1 := ⟨j - 1, by omega⟩
      rw [Nat.add_sub_cancel] at hz
      obtain ⟨b, off, rfl, c0⟩ := (show SegZ wr a zs from HS.out).at_ j (by rw [hn.out]; omega)
      rw [hz] at c0
      have HC2 : Hid (cut8 zs zs.length = cut8 zs j) := by show _ = _; rw [HC.out, cut8, if_pos hz]
      have hj1 : 0 < ((j + 1 : Nat) : Int) := by omega
      clear HC hz
      go_wp2_with fail
      go_roundw
      case rel => exact ⟨j, by omega, by go_num, HC2, trivial⟩
      case measure => simp [intOf]
    · have hst : j = 0 ∨ (0 < j ∧ ¬ zs.getD (j - 1) 0 = 0) := by
        by_cases h : 0 < j
        · exact .inr ⟨h, fun e => hgo ⟨h, e⟩⟩
        · exact .inl (by omega)
      have HJ : Hid (cut8 zs zs.length = j) := by
        show _ = _
        rw [HC.out]
        rcases hst with rfl | ⟨h, hz⟩
        · rfl
        · obtain ⟨j, rfl⟩ : ∃ j', j = j' + 1 := ⟨j - 1, by omega⟩
          rw [Nat.add_sub_cancel] at hz
          rw [cut8, if_neg hz]
      have HLT : Hid ((zs.take j).length = j) := by show _ = _; rw [List.length_take, hn.out]; omega
      have HSH : Hid (sht8 zs k = zs.take j ++ List.replicate (k - j) 0) := by show _ = _; unfold sht8; rw [HJ.out]
      have hm0 : (wr.alloc (.cells #[] 3)).ownsRow wr.heap.size 3 1 (.slice (some ⟨wr.heap.size, 0, none⟩) 0 0) 0 [] := World.ownsRow_made wr #[] 0 (Nat.le_refl _) (by decide) rfl
      have hb0 : Below wr.heap.size wr (wr.alloc (.cells #[] 3)) := (Below.refl _ _).alloc (Nat.le_refl _) _
      have HS2 : Hid (SegZ (wr.alloc (.cells #[] 3)) a (zs.take j)) := ((show SegZ wr a zs from HS.out).take j).alloc _
      have hjc : (j : Int) ≤ (cap : Int) := by omega
      have HCE : Hid (0 < j ∧ ¬ zs.getD (j - 1) 0 = 0 → ∃ b off c, a = some ⟨b, off, none⟩ ∧ (c == (0 : Int)) = false ∧ wr.cell? ⟨b, off + (j - 1), none⟩ = some (.int .i64 c)) := fun h => by
        obtain ⟨b, off, ha, c0⟩ := (show SegZ wr a zs from HS.out).at_ (j - 1) (by rw [hn.out]; omega)
        exact ⟨b, off, _, ha, by simpa using h.2, c0⟩
      clear HC HJ hgo HS
      rcases hst with rfl | h
      · cases a with
        | none =>
          have hc0 := hnil rfl
          subst hc0
          clear HCE
          go_wp2_with (at_builtin; refine wpList_appZ rfl (.tmp 21) (.tmp 24) 39 rfl wr.heap.size 3 i0 (.int .i64 0) 8 Tryz.underlying39 hi hz0 hz1 hz2 rfl hm0 HS2.out (fun _ => rfl) rfl (by rw [HLT.out]; rfl) (by rw [HLT.out]; omega) (by rw [HLT.out]; omega) (by simp) ?_; intro oa2 oc2 w2 O2 hg2 hf2 hn2; have b2 := hb0.trans (below_own hm0 hg2 (by simp)); clear hf2 hn2 hg2; rw [Nat.zero_add, List.nil_append, HLT.out] at O2; rw [Nat.zero_add, HLT.out])
          clear hm0 hb0 HS2
          go_loopw [6] (fun to wq => ∃ (m oc : Nat) (oa : Option Addr), 0 ≤ m ∧ (m ≤ k ∨ m = 0) ∧ to = .slice oa m oc ∧ wq.ownsRow wr.heap.size 3 1 (.slice oa m oc) m ((zs.take (0) ++ List.replicate (m - (0)) 0).map (Value.int .i64)) ∧ Below wr.heap.size wr wq) (fun to _ => k - (lenOfS to))
          case atStart => exact ⟨0, oc2, oa2, by omega, .inr rfl, rfl, by rw [Nat.sub_self, List.replicate_zero, List.append_nil]; exact O2, b2⟩
          case round =>
            clear O2 b2
            obtain ⟨m, oc, oa, hm1, hm2, rfl, OX, BX⟩ := hrel
            have hsz := BX.size
            by_cases hmk : m < k
            · have hmki : (m : Int) < (k : Int) := by omega
              go_wp2_with (first | (at_builtin; refine wpList_appI rfl (.tmp 30) (.tmp 31) 39 rfl _ 3 i0 (.int .i64 0) 8 Tryz.underlying39 hi hz0 hz1 hz2 rfl _ _ OX rfl rfl (by omega) (by omega) hsz ?_; intro ga gc w3 own3 hk3 hat3))
              have B3 := BX.trans (hk3.below (fun q e => (OX.lt q e).1) hsz)
              rw [List.append_assoc, ← List.replicate_succ', show m - (0) + 1 = m + 1 - (0) by omega] at own3
              clear hk3 hat3 OX
              go_roundw
              case rel => exact ⟨m + 1, gc, _, by omega, .inl (by omega), rfl, own3, B3⟩
              case measure => simp [lenOfS]; omega
            · have hmki : ¬ (m : Int) < (k : Int) := by omega
              have HE : Hid (sht8 zs k = zs.take (0) ++ List.replicate (m - (0)) 0) := by show _ = _; rw [HSH.out, show k - (0) = m - (0) by omega]
              have HL : Hid ((sht8 zs k).length = m) := by show _ = _; rw [HE.out, List.length_append, HLT.out, List.length_replicate]; omega
              rw [← HE.out] at OX
              go_wp2_with fail
              go_ret
              refine ⟨oa, oc, ?_, ?_, BX⟩
              · rw [HL.out]; rfl
              · rw [HL.out]; exact OX
        | some x =>
          clear HCE
          go_wp2_with (at_builtin; refine wpList_appZ rfl (.tmp 21) (.tmp 24) 39 rfl wr.heap.size 3 i0 (.int .i64 0) 8 Tryz.underlying39 hi hz0 hz1 hz2 rfl hm0 HS2.out (by intro h; cases h) rfl (by rw [HLT.out]; rfl) (by rw [HLT.out]; omega) (by rw [HLT.out]; omega) (by simp) ?_; intro oa2 oc2 w2 O2 hg2 hf2 hn2; have b2 := hb0.trans (below_own hm0 hg2 (by simp)); clear hf2 hn2 hg2; rw [Nat.zero_add, List.nil_append, HLT.out] at O2; rw [Nat.zero_add, HLT.out])
          clear hm0 hb0 HS2
          go_loopw [6] (fun to wq => ∃ (m oc : Nat) (oa : Option Addr), 0 ≤ m ∧ (m ≤ k ∨ m = 0) ∧ to = .slice oa m oc ∧ wq.ownsRow wr.heap.size 3 1 (.slice oa m oc) m ((zs.take (0) ++ List.replicate (m - (0)) 0).map (Value.int .i64)) ∧ Below wr.heap.size wr wq) (fun to _ => k - (lenOfS to))
          case atStart => exact ⟨0, oc2, oa2, by omega, .inr rfl, rfl, by rw [Nat.sub_self, List.replicate_zero, List.append_nil]; exact O2, b2⟩
          case round =>
            clear O2 b2
            obtain ⟨m, oc, oa, hm1, hm2, rfl, OX, BX⟩ := hrel
            have hsz := BX.size
            by_cases hmk : m < k
            · have hmki : (m : Int) < (k : Int) := by omega
              go_wp2_with (first | (at_builtin; refine wpList_appI rfl (.tmp 30) (.tmp 31) 39 rfl _ 3 i0 (.int .i64 0) 8 Tryz.underlying39 hi hz0 hz1 hz2 rfl _ _ OX rfl rfl (by omega) (by omega) hsz ?_; intro ga gc w3 own3 hk3 hat3))
              have B3 := BX.trans (hk3.below (fun q e => (OX.lt q e).1) hsz)
              rw [List.append_assoc, ← List.replicate_succ', show m - (0) + 1 = m + 1 - (0) by omega] at own3
              clear hk3 hat3 OX
              go_roundw
              case rel => exact ⟨m + 1, gc, _, by omega, .inl (by omega), rfl, own3, B3⟩
              case measure => simp [lenOfS]; omega
            · have hmki : ¬ (m : Int) < (k : Int) := by omega
              have HE : Hid (sht8 zs k = zs.take (0) ++ List.replicate (m - (0)) 0) := by show _ = _; rw [HSH.out, show k - (0) = m - (0) by omega]
              have HL : Hid ((sht8 zs k).length = m) := by show _ = _; rw [HE.out, List.length_append, HLT.out, List.length_replicate]; omega
              rw [← HE.out] at OX
              go_wp2_with fail
              go_ret
              refine ⟨oa, oc, ?_, ?_, BX⟩
              · rw [HL.out]; rfl
              · rw [HL.out]; exact OX
      · obtain ⟨b, off, c, rfl, hcb, c0⟩ := HCE.out h
        obtain ⟨j, rfl⟩ : ∃ j', j = j' + 1 := ⟨j - 1, by omega⟩
        rw [Nat.add_sub_cancel] at c0
        clear HCE h
        have hj1 : 0 < ((j + 1 : Nat) : Int) := by omega
        go_wp2_with (at_builtin; refine wpList_appZ rfl (.tmp 21) (.tmp 24) 39 rfl wr.heap.size 3 i0 (.int .i64 0) 8 Tryz.underlying39 hi hz0 hz1 hz2 rfl hm0 HS2.out (by intro h; cases h) rfl (by rw [HLT.out]; rfl) (by rw [HLT.out]; omega) (by rw [HLT.out]; omega) (by simp) ?_; intro oa2 oc2 w2 O2 hg2 hf2 hn2; have b2 := hb0.trans (below_own hm0 hg2 (by simp)); clear hf2 hn2 hg2; rw [Nat.zero_add, List.nil_append, HLT.out] at O2; rw [Nat.zero_add, HLT.out])
        clear hm0 hb0 HS2
        go_loopw [6] (fun to wq => ∃ (m oc : Nat) (oa : Option Addr), j + 1 ≤ m ∧ (m ≤ k ∨ m = j + 1) ∧ to = .slice oa m oc ∧ wq.ownsRow wr.heap.size 3 1 (.slice oa m oc) m ((zs.take (j + 1) ++ List.replicate (m - (j + 1)) 0).map (Value.int .i64)) ∧ Below wr.heap.size wr wq) (fun to _ => k - (lenOfS to))
        case atStart => exact ⟨j + 1, oc2, oa2, by omega, .inr rfl, rfl, by rw [Nat.sub_self, List.replicate_zero, List.append_nil]; exact O2, b2⟩
        case round =>
          clear O2 b2
          obtain ⟨m, oc, oa, hm1, hm2, rfl, OX, BX⟩ := hrel
          have hsz := BX.size
          by_cases hmk : m < k
          · have hmki : (m : Int) < (k : Int) := by omega
            go_wp2_with (first | (at_builtin; refine wpList_appI rfl (.tmp 30) (.tmp 31) 39 rfl _ 3 i0 (.int .i64 0) 8 Tryz.underlying39 hi hz0 hz1 hz2 rfl _ _ OX rfl rfl (by omega) (by omega) hsz ?_; intro ga gc w3 own3 hk3 hat3))
            have B3 := BX.trans (hk3.below (fun q e => (OX.lt q e).1) hsz)
            rw [List.append_assoc, ← List.replicate_succ', show m - (j + 1) + 1 = m + 1 - (j + 1) by omega] at own3
            clear hk3 hat3 OX
            go_roundw
            case rel => exact ⟨m + 1, gc, _, by omega, .inl (by omega), rfl, own3, B3⟩
            case measure => simp [lenOfS]; omega
          · have hmki : ¬ (m : Int) < (k : Int) := by omega
            have HE : Hid (sht8 zs k = zs.take (j + 1) ++ List.replicate (m - (j + 1)) 0) := by show _ = _; rw [HSH.out, show k - (j + 1) = m - (j + 1) by omega]
            have HL : Hid ((sht8 zs k).length = m) := by show _ = _; rw [HE.out, List.length_append, HLT.out, List.length_replicate]; omega
            rw [← HE.out] at OX
            go_wp2_with fail
            go_ret
            refine ⟨oa, oc, ?_, ?_, BX⟩
            · rw [HL.out]; rfl
            · rw [HL.out]; exact OX
end Go.Proofs.YtiankbopnjhhaaaGreatDoor

namespace Go.Proofs.YtiankbopnjhhaaaGreatDoor
open Go.RowKit
set_option linter.unusedVariables false

theorem made_zerosI (n : Nat) : madeCells #[.int .i64 0] n = Array.replicate n (.int .i64 0) := by
  apply Array.toList_inj.1
  rw [toList_madeCells_one]
  simp
theorem run_make_ints (n : Nat) (h : n ≤ 100000) (w : World) :
    (Instr.makeSlice 39 (.int .i64 (n : Int)) (.int .i64 (n : Int))).run Tryz.prog w = .ok (.slice (some ⟨w.heap.size, 0, none⟩) n n) (w.alloc (.cells (Array.replicate n (.int .i64 0)) 3)) := by
  rw [← made_zerosI]
  exact run_make_row' 39 3 (.int .i64 0) 8 Tryz.underlying39 info_int rfl .i64 .i64 n (by omega) (by omega) w
theorem own_zeros (w : World) (n : Nat) (hn : n ≤ 100000) : (w.alloc (.cells (Array.replicate n (.int .i64 0)) 3)).ownsRow w.heap.size 3 1 (.slice (some ⟨w.heap.size, 0, none⟩) n n) n ((List.replicate n (0 : Int)).map (Value.int .i64)) :=
  ⟨by simp, .inr ⟨w.heap.size, n, _, rfl, Nat.le_refl _, heap_alloc_new w _, Nat.le_refl _, by unfold maxLen; omega, by simp, by simp⟩⟩
theorem own_cell1 {w : World} {base n g cap : Nat} {e : TypeId} {A : List Int} (h : w.ownsRow base e 1 (.slice (some ⟨g, 0, none⟩) n cap) n (A.map (Value.int .i64))) {i : Nat} (hi : i < A.length) : w.cell? ⟨g, i, none⟩ = some (.int .i64 (A.getD i 0)) ∧ ∀ k, w.frozen? ⟨g, k, none⟩ = false := by
  have := h.cells (g := g) rfl i (.int .i64 (A.getD i 0)) (by simp [List.getD, hi])
  have hadd : (⟨g, 0, none⟩ : Addr).add i = ⟨g, i, none⟩ := by unfold Addr.add; split <;> simp_all
  rw [hadd] at this
  refine ⟨this, fun k => ?_⟩
  rcases h.2 with ⟨h1, _⟩ | ⟨g', cap', cur, hv, _, hh, _⟩
  · cases h1
  · simp only [Value.slice.injEq, Option.some.injEq, Addr.mk.injEq] at hv
    obtain ⟨⟨rfl, _⟩, _⟩ := hv
    simp [World.frozen?, hh]
theorem own_grown {w w' : World} {base n g g2 cap : Nat} {e : TypeId} {xs : List Value} (h : w.ownsRow base e 1 (.slice (some ⟨g, 0, none⟩) n cap) n xs) (hg : w.grownBy w' (some g2)) (hne : g ≠ g2) : w'.ownsRow base e 1 (.slice (some ⟨g, 0, none⟩) n cap) n xs := by
  rcases h with ⟨hl, h | ⟨g', cap', cur, hv, hb, hh, rest⟩⟩
  · exact ⟨hl, .inl h⟩
  · simp only [Value.slice.injEq, Option.some.injEq, Addr.mk.injEq, and_true, true_and] at hv
    obtain ⟨rfl, rfl⟩ := hv
    exact ⟨hl, .inr ⟨g, cap, cur, rfl, hb, by rw [hg.block g (Array.getElem?_eq_some_iff.1 hh).1 (by simpa using hne)]; exact hh, rest⟩⟩
end Go.Proofs.YtiankbopnjhhaaaGreatDoor

namespace Go.Proofs.YtiankbopnjhhaaaGreatDoor
open Go.RowKit
set_option linter.unusedVariables false
set_option linter.unusedSimpArgs false

/-! The landed head: trimmed, tally, toldOf. -/
theorem info_sz8 : (Tryz.prog.info? 3).map (·.size) = some 1 := by kernel_rfl
theorem ints_one8 (l : List Int) : ∀ v ∈ l.map (Value.int .i64), v.oneCell' = true := by
  intro v hv
  obtain ⟨z, _, rfl⟩ := List.mem_map.1 hv
  rfl
theorem cut8_zero (zs : List Int) : ∀ m, cut8 zs m ≤ m ∧ ∀ j, cut8 zs m ≤ j → j < m → zs.getD j 0 = 0
  | 0 => ⟨Nat.le_refl _, fun j _ h => by omega⟩
  | m + 1 => by
    obtain ⟨h1, h2⟩ := cut8_zero zs m
    rw [cut8]
    split
    · rename_i h
      refine ⟨by omega, fun j hj hjm => ?_⟩
      by_cases e : j = m
      · subst e; exact h
      · exact h2 j hj (by omega)
    · exact ⟨Nat.le_refl _, fun j hj hjm => by omega⟩
theorem take_zeros {zs : List Int} {c m : Nat} (hc : c ≤ m) (hm : m ≤ zs.length) (h : ∀ j, c ≤ j → j < m → zs.getD j 0 = 0) : zs.take m = zs.take c ++ List.replicate (m - c) 0 := by
  apply List.ext_getElem
  · simp; omega
  · intro i h1 h2
    simp only [List.length_take] at h1
    by_cases hi : i < c
    · rw [List.getElem_append_left (by simp; omega)]
      simp
    · rw [List.getElem_append_right (by simp; omega), List.getElem_replicate, List.getElem_take]
      have := h i (by omega) (by omega)
      simpa [List.getD, show i < zs.length by omega] using this
/-- What trimmed answers. -/
theorem trim8_eq {zs : List Int} {k m : Nat} (hm : m ≤ zs.length) (hc : cut8 zs zs.length = cut8 zs m) (hk : m ≤ k ∨ cut8 zs m = m) : zs.take m ++ List.replicate (k - m) 0 = sht8 zs k := by
  obtain ⟨h1, h2⟩ := cut8_zero zs m
  unfold sht8
  rw [hc]
  rcases hk with hk | hk
  · rw [take_zeros h1 hm h2, List.append_assoc, List.replicate_append_replicate, show m - cut8 zs m + (k - m) = k - cut8 zs m by omega]
  · rw [hk]
set_option maxRecDepth 100000 in
set_option maxHeartbeats 4000000 in
theorem ptrim8 (zs : List Int) (k : Nat) (a : Option Addr) (n cap : Nat) (hn : Hid (zs.length = n)) (w : World) (hs : SegZ w a zs) (hcap : n ≤ cap) (hl : n ≤ 1000) (hk : k ≤ 1000) :
    Calls Tryz.prog 147 #[.slice a n cap, .int .i64 (k : Int)] w (ShQ w 3 (sht8 zs k)) := by
  have HS : Hid (SegZ w a zs) := hs
  clear hs
  go_enter Tryz.func147, Tryz.ntmps147
  go_wp2_with fail
  go_loopw [5] (fun tm wr => ∃ m : Nat, m ≤ n ∧ tm = .int .i64 (m : Int) ∧ Hid (cut8 zs zs.length = cut8 zs m) ∧ wr = w) (fun tm _ => (intOf tm).toNat)
  case atStart => exact ⟨n, Nat.le_refl _, rfl, by show _ = _; rw [hn.out], rfl⟩
  case round =>
    obtain ⟨m, hm, rfl, HC, hwr⟩ := hrel
    have hwr2 : w = wr := hwr.symm
    subst hwr2
    clear hwr
    have HEND : Hid (¬ k < m ∨ (zs.getD (m - 1) 0 ≠ 0 ∧ 0 < m) → ∀ (o : Nat) (w3 : World), w.heap.size ≤ o → w3.heap[o]? = some (.cells (splice (List.replicate (max m k) (Value.int .i64 0)) 0 ((zs.take m).map (Value.int .i64))).toArray 3 (0, 0)) → Below w.heap.size w w3 → ShQ w 3 (sht8 zs k) (.returned (.slice (some ⟨o, 0, none⟩) (max m k) (max m k))) w3) := fun hst o w3 ho hh hb => by
      have he := trim8_eq (k := k) (zs := zs) (m := m) (by rw [hn.out]; exact hm) HC.out (by
        rcases hst with h | ⟨h, h0⟩
        · exact .inl (by omega)
        · right
          obtain ⟨q, rfl⟩ : ∃ q, m = q + 1 := ⟨m - 1, by omega⟩
          rw [cut8, if_neg (by simpa using h)])
      have hlt : (zs.take m).length = m := by rw [List.length_take, hn.out]; omega
      have hsp : splice (List.replicate (max m k) (Value.int .i64 0)) 0 ((zs.take m).map (Value.int .i64)) = (sht8 zs k).map (Value.int .i64) := by
        rw [← he]
        unfold splice
        rw [List.take_zero, List.nil_append, Nat.zero_add, List.length_map, hlt, List.drop_replicate, List.map_append, List.map_replicate, show max m k - m = k - m by omega]
      have hll : (sht8 zs k).length = max m k := by
        rw [← he, List.length_append, hlt, List.length_replicate]
        omega
      rw [hsp] at hh
      refine ⟨some ⟨o, 0, none⟩, max m k, by rw [hll], ?_, hb⟩
      rw [hll]
      exact ⟨by simp [hll], .inr ⟨o, max m k, _, rfl, ho, hh, Nat.le_refl _, by unfold maxLen; omega, by simp [hll], by simp; exact List.take_of_length_le (by simp [hll])⟩⟩
    have HMK : Hid ((k < m → max m k = m) ∧ (¬ k < m → max m k = k)) := ⟨fun _ => by omega, fun _ => by omega⟩
    have HMM : Hid (max m k ≤ 1000 ∧ m ≤ max m k) := ⟨by omega, by omega⟩
    have HSEG : Hid (0 < m → ∃ ad, a = some ad ∧ ∀ j v, ((zs.take m).map (Value.int .i64))[j]? = some v → w.cell? (ad.add j) = some v) := fun h0 => by
      obtain ⟨b, off, rfl, _⟩ := (show SegZ w a zs from HS.out).at_ 0 (by rw [hn.out]; omega)
      exact ⟨_, rfl, segZ_cells ((show SegZ w (some ⟨b, off, none⟩) zs from HS.out).take m)⟩
    have HLT : Hid ((zs.take m).length = m) := by show _ = _; rw [List.length_take, hn.out]; omega
    have hst : (k < m ∧ zs.getD (m - 1) 0 = 0) ∨ (k < m ∧ zs.getD (m - 1) 0 ≠ 0) ∨ ¬ k < m := by
      by_cases h1 : k < m
      · by_cases h2 : zs.getD (m - 1) 0 = 0
        · exact .inl ⟨h1, h2⟩
        · exact .inr (.inl ⟨h1, h2⟩)
      · exact .inr (.inr h1)
    rcases hst with ⟨h1, h2⟩ | hst
    · obtain ⟨q, rfl⟩ : ∃ q, m = q + 1 := ⟨m - 1, by omega⟩
      simp only [Nat.add_sub_cancel] at h2
      obtain ⟨b, off, rfl, c0⟩ := (show SegZ w a zs from HS.out).at_ q (by rw [hn.out]; omega)
      rw [h2] at c0
      have h1i : (k : Int) < ((q + 1 : Nat) : Int) := by omega
      have HC2 : Hid (cut8 zs zs.length = cut8 zs q) := by show _ = _; rw [HC.out, cut8, if_pos h2]
      clear HC HEND HMK HMM HSEG HLT
      go_wp2_with fail
      go_roundw
      case rel => exact ⟨q, by omega, by go_num, HC2, trivial⟩
      case measure => simp [intOf]
    · have HE2 := HEND.out (by rcases hst with ⟨h1, h2⟩ | h1; exact .inr ⟨h2, by omega⟩; exact .inl h1)
      have HE : Hid (∀ (o : Nat) (w3 : World), w.heap.size ≤ o → w3.heap[o]? = some (.cells (splice (List.replicate (max m k) (Value.int .i64 0)) 0 ((zs.take m).map (Value.int .i64))).toArray 3 (0, 0)) → Below w.heap.size w w3 → ShQ w 3 (sht8 zs k) (.returned (.slice (some ⟨o, 0, none⟩) (max m k) (max m k))) w3) := HE2
      have hcell : k < m → ∃ q b off z, m = q + 1 ∧ a = some ⟨b, off, none⟩ ∧ w.cell? ⟨b, off + q, none⟩ = some (.int .i64 z) ∧ (z == 0) = false := fun h1 => by
        obtain ⟨q, rfl⟩ : ∃ q, m = q + 1 := ⟨m - 1, by omega⟩
        obtain ⟨b, off, ha, c0⟩ := (show SegZ w a zs from HS.out).at_ q (by rw [hn.out]; omega)
        refine ⟨q, b, off, _, rfl, ha, c0, ?_⟩
        rcases hst with ⟨_, h2⟩ | h2
        · rw [beq_eq_false_iff_ne]; simpa using h2
        · omega
      clear HEND HE2 HC
      generalize max m k = M at *
      have H2L : Hid ((w.alloc (.cells (Array.replicate M (.int .i64 0)) 3)).heap[w.heap.size]? = some (.cells (List.replicate M (Value.int .i64 0)).toArray 3 (0, 0))) := by
        show _ = _
        rw [heap_alloc_new]
        simp
      have HB0 : Hid (Below w.heap.size w (w.alloc (.cells (Array.replicate M (.int .i64 0)) 3))) := below_box8 w _
      have HSG2 : Hid (0 < m → ∃ ad, a = some ad ∧ ∀ j v, ((zs.take m).map (Value.int .i64))[j]? = some v → (w.alloc (.cells (Array.replicate M (.int .i64 0)) 3)).cell? (ad.add j) = some v) := fun h0 => by
        obtain ⟨ad, ha, hc⟩ := HSEG.out h0
        refine ⟨ad, ha, fun j v hv => ?_⟩
        have hc1 := hc j v hv
        have hl1 := World.block_lt_of_cell? w _ hc1
        exact ((below_box8 w _).cell (p := ad.add j) hl1).trans hc1
      clear HSEG
      have hmc : (m : Int) ≤ (cap : Int) := by omega
      have hmn : (m : Int) ≤ (n : Int) := by omega
      have hm0 : (0 : Int) ≤ (m : Int) := by omega
      by_cases h1 : k < m
      · obtain ⟨q, b, off, z, rfl, rfl, c0, hzb⟩ := hcell h1
        have h1i : (k : Int) < ((q + 1 : Nat) : Int) := by omega
        obtain rfl : M = q + 1 := HMK.out.1 h1
        have hmk : ∀ W, (Instr.makeSlice 39 (.int .i64 ((q : Int) + 1)) (.int .i64 ((q : Int) + 1))).run Tryz.prog W = .ok (.slice (some ⟨W.heap.size, 0, none⟩) (q + 1) (q + 1)) (W.alloc (.cells (Array.replicate (q + 1) (.int .i64 0)) 3)) := fun W => by
          rw [show (q : Int) + 1 = ((q + 1 : Nat) : Int) by omega]
          exact run_make_ints (q + 1) (by omega) W
        clear hcell HMK
        go_wp2_with (refine wpList_copy_splice rfl (.tmp 26) (.tmp 29) 39 39 rfl 3 Tryz.underlying39 info_sz8 (some ⟨w.heap.size, 0, none⟩) _ (q + 1) (q + 1) (q + 1) _ rfl rfl w.heap.size 0 (List.replicate (q + 1) (Value.int .i64 0)) 3 H2L.out ((zs.take (q + 1)).map (Value.int .i64)) (by have h8 := HLT.out; have h9 := HMM.out; rw [List.length_map, h8]; show _ = min _ _; omega) (fun h => ⟨rfl, HSG2.out (by omega)⟩) (by have := HLT.out; have := HMM.out; simp only [List.length_map, List.length_replicate]; omega) (ints_one8 _) w.heap.size w HB0.out (Nat.le_refl _) ?_; intro w3 HW3 bw3)
        go_ret
        exact HE.out _ _ (Nat.le_refl _) HW3.out bw3
      · have h1i : ¬ (k : Int) < (m : Int) := by omega
        obtain rfl : M = k := HMK.out.2 h1
        have hmk := run_make_ints M (by omega)
        clear hcell HMK
        have hmM : m = M ∨ (m : Int) < (M : Int) := by omega
        rcases hmM with rfl | hmM
        all_goals
          go_wp2_with (refine wpList_copy_splice rfl (.tmp 26) (.tmp 29) 39 39 rfl 3 Tryz.underlying39 info_sz8 (some ⟨w.heap.size, 0, none⟩) _ _ _ m _ rfl rfl w.heap.size 0 (List.replicate _ (Value.int .i64 0)) 3 H2L.out ((zs.take m).map (Value.int .i64)) (by have h8 := HLT.out; have h9 := HMM.out; rw [List.length_map, h8]; show _ = min _ _; omega) (fun h => ⟨rfl, HSG2.out (by have := HLT.out; simp only [List.length_map] at h; omega)⟩) (by have := HLT.out; have := HMM.out; simp only [List.length_map, List.length_replicate]; omega) (ints_one8 _) w.heap.size w HB0.out (Nat.le_refl _) ?_; intro w3 HW3 bw3)
          go_ret
          exact HE.out _ _ (Nat.le_refl _) HW3.out bw3
/-- How often each symbol stands among runs. -/
def tly8 (R : List Rn8) : List Int := (List.range 19).map fun (s : Nat) => ((R.filter fun r => r.sy == (s : Int)).length : Int)
theorem tly8_len (R : List Rn8) : (tly8 R).length = 19 := by simp [tly8]
theorem tly8_get (R : List Rn8) {s : Nat} (h : s < 19) : (tly8 R).getD s 0 = ((R.filter fun r => r.sy == (s : Int)).length : Int) := by simp [tly8, List.getD, h]
theorem tly8_snoc (R : List Rn8) {s : Nat} {c : Int} (h : s < 19) : tly8 (R ++ [⟨(s : Int), c⟩]) = (tly8 R).set s ((tly8 R).getD s 0 + 1) := by
  apply List.ext_getElem
  · simp [tly8]
  · intro i h1 h2
    have hi : i < 19 := by simpa [tly8] using h1
    rw [List.getElem_set]
    by_cases e : s = i
    · subst e
      rw [if_pos rfl, tly8_get R h]
      simp [tly8, List.filter_append]
    · rw [if_neg e]
      have : ¬ ((s : Int) = (i : Int)) := by omega
      simp [tly8, List.filter_append, this]
theorem tly8_bd (R : List Rn8) : ∀ z ∈ tly8 R, 0 ≤ z ∧ z ≤ R.length := by
  intro z hz
  unfold tly8 at hz
  obtain ⟨s, _, rfl⟩ := List.mem_map.1 hz
  have := List.length_filter_le (fun r : Rn8 => r.sy == (s : Int)) R
  omega
set_option maxRecDepth 100000 in
set_option maxHeartbeats 4000000 in
theorem ptally8 (R : List Rn8) (a : Option Addr) (n cap : Nat) (hn : Hid (R.length = n)) (w : World) (hs : SegN w a R) (hok : ∀ r ∈ R, 0 ≤ r.sy ∧ r.sy ≤ 18) (hl : n ≤ 1000) :
    Calls Tryz.prog 149 #[.slice a n cap] w (ShQ w 3 (tly8 R)) := by
  have HS : Hid (SegN w a R) := hs
  have HOK : Hid (∀ r ∈ R, 0 ≤ r.sy ∧ r.sy ≤ 18) := hok
  have hmk : ∀ W, (Instr.makeSlice 39 (.int .i64 19) (.int .i64 19)).run Tryz.prog W = .ok (.slice (some ⟨W.heap.size, 0, none⟩) 19 19) (W.alloc (.cells (Array.replicate 19 (.int .i64 0)) 3)) := fun W => run_make_ints 19 (by omega) W
  clear hs hok
  go_enter Tryz.func149, Tryz.ntmps149
  go_wp2_with fail
  have O0 := own_zeros w 19 (by omega)
  have B0 := below_box8 w (.cells (Array.replicate 19 (.int .i64 0)) 3)
  generalize w.alloc (.cells (Array.replicate 19 (.int .i64 0)) 3) = w0 at *
  go_loopw [9] (fun ti wr => ∃ i : Nat, i ≤ n ∧ ti = .int .i64 (i : Int) ∧ wr.ownsRow w.heap.size 3 1 (.slice (some ⟨w.heap.size, 0, none⟩) 19 19) 19 ((tly8 (R.take i)).map (Value.int .i64)) ∧ Below w.heap.size w wr) (fun ti _ => n - (intOf ti).toNat)
  case atStart => exact ⟨0, by omega, rfl, by rw [List.take_zero]; exact O0, B0⟩
  case round =>
    obtain ⟨i, hin, rfl, OO, BR⟩ := hrel
    clear O0 B0
    by_cases hlt : i < n
    · have hlti : (i : Int) < (n : Int) := by omega
      have hil : i < R.length := by rw [hn.out]; exact hlt
      obtain ⟨b, off, rfl, cs, cc⟩ := ((show SegN w a R from HS.out).old BR).at_ i hil
      have HTK : Hid (R.take (i + 1) = R.take i ++ [R.getD i ⟨0, 0⟩]) := take_snocN hil
      have hbd := HOK.out (R.getD i ⟨0, 0⟩) (by simp [List.getD, hil])
      generalize R.getD i ⟨0, 0⟩ = r at *
      obtain ⟨sy, ct⟩ := r
      simp only at cs cc hbd
      obtain ⟨s, rfl⟩ : ∃ s : Nat, sy = (s : Int) := ⟨sy.toNat, by omega⟩
      have hs19 : (s : Int) < 19 := by omega
      have hzb := tly8_bd (R.take i) ((tly8 (R.take i)).getD s 0) (by have : s < (tly8 (R.take i)).length := by rw [tly8_len]; omega
                                                                      simp [List.getD, this])
      rw [List.length_take] at hzb
      have HSN : Hid (tly8 (R.take (i + 1)) = (tly8 (R.take i)).set s ((tly8 (R.take i)).getD s 0 + 1)) := by
        show _ = _
        rw [HTK.out, tly8_snoc _ (by omega)]
      obtain ⟨d0, fz⟩ := own_cell1 OO (i := s) (by rw [tly8_len]; omega)
      have f0 := fz s
      obtain ⟨OS, GS⟩ := OO.stored s (.int .i64 ((tly8 (R.take i)).getD s 0 + 1))
      rw [← List.map_set, ← HSN.out] at OS
      have hsz := BR.size
      have hwlt : w.heap.size < wr.heap.size := (OO.lt _ rfl).2
      have B1 : Below w.heap.size w (wr.setCell ⟨w.heap.size, s, none⟩ (.int .i64 ((tly8 (R.take i)).getD s 0 + 1))) := BR.trans ((Below.refl _ _).grown GS hsz (fun k hk => by cases hk; exact Nat.le_refl _))
      have HB : Hid (Below w.heap.size w ((wr.setCell ⟨w.heap.size, s, none⟩ (.int .i64 ((tly8 (R.take i)).getD s 0 + 1))).alloc (.cells #[.int .i64 (s : Int), .int .i64 ct] 211))) := B1.alloc B1.size _
      have HOS : Hid _ := OS.alloc (.cells #[.int .i64 (s : Int), .int .i64 ct] 211)
      clear B1
      clear OS GS fz HSN HTK
      generalize (tly8 (R.take i)).getD s 0 = z at *
      have hneb : ¬ wr.heap.size = w.heap.size := by omega
      go_wp2_with fail
      go_roundw
      case rel => exact ⟨i + 1, by omega, by go_num, HOS.out, HB.out⟩
      case measure => simp [intOf]; omega
    · have hge : ¬ (i : Int) < (n : Int) := by omega
      have hTA : R.take i = R := List.take_of_length_le (by rw [hn.out]; omega)
      rw [hTA] at OO
      go_wp2_with fail
      go_ret
      refine ⟨some ⟨w.heap.size, 0, none⟩, 19, ?_, ?_, BR⟩
      · rw [tly8_len]; rfl
      · rw [tly8_len]; exact OO
/-- How many of the nineteen sizes are told. -/
def tol8 (Z : List Int) : Nat → Nat
  | 0 => 0
  | n + 1 => if 4 < n + 1 ∧ Z.getD (ordL.getD n 0).toNat 0 = 0 then tol8 Z n else n + 1
theorem tol8_bd (Z : List Int) : ∀ n, 4 ≤ n → 4 ≤ tol8 Z n ∧ tol8 Z n ≤ n
  | 0, h => by omega
  | n + 1, h => by
    rw [tol8]
    split
    · rename_i h1
      have := tol8_bd Z n (by omega)
      omega
    · omega
theorem ord_bd : ∀ k : Fin 19, 0 ≤ ordL.getD k.val 0 ∧ ordL.getD k.val 0 ≤ 18 := by decide
set_option maxRecDepth 100000 in
set_option maxHeartbeats 4000000 in
theorem ptoldof8 (Z : List Int) (a : Option Addr) (cap : Nat) (hn : Hid (Z.length = 19)) (w : World) (hs : SegZ w a Z) (T : TabO w) :
    Calls Tryz.prog 150 #[.slice a 19 cap] w fun e w' => e = .returned (.int .i64 (tol8 Z 19 : Int)) ∧ w' = w := by
  have HS : Hid (SegZ w a Z) := hs
  have HT : Hid (TabO w) := T
  clear hs T
  go_enter Tryz.func150, Tryz.ntmps150
  go_wp2_with fail
  go_loopw [3] (fun tm wr => ∃ m : Nat, 4 ≤ m ∧ m ≤ 19 ∧ tm = .int .i64 (m : Int) ∧ Hid (tol8 Z 19 = tol8 Z m) ∧ wr = w) (fun tm _ => (intOf tm).toNat)
  case atStart => exact ⟨19, by omega, by omega, rfl, rfl, rfl⟩
  case round =>
    obtain ⟨m, hm4, hm, rfl, HC, hwr⟩ := hrel
    have hwr2 : w = wr := hwr.symm
    subst hwr2
    clear hwr
    obtain ⟨q, rfl⟩ : ∃ q, m = q + 1 := ⟨m - 1, by omega⟩
    have c0 := TabO.at8 HT.out q (by omega)
    have hob := ord_bd ⟨q, by omega⟩
    simp only at hob
    have HQ : Hid (tol8 Z (q + 1) = if 4 < q + 1 ∧ Z.getD (ordL.getD q 0).toNat 0 = 0 then tol8 Z q else q + 1) := rfl
    generalize ordL.getD q 0 = oq at *
    obtain ⟨s, rfl⟩ : ∃ s : Nat, oq = (s : Int) := ⟨oq.toNat, by omega⟩
    rw [Int.toNat_natCast] at HQ
    obtain ⟨b, off, rfl, c1⟩ := (show SegZ w a Z from HS.out).at_ s (by rw [hn.out]; omega)
    have hs19 : (s : Int) < 19 := by omega
    by_cases h4 : 4 < q + 1
    · have h4i : (4 : Int) < ((q + 1 : Nat) : Int) := by omega
      by_cases hz : Z.getD s 0 = 0
      · have HC2 : Hid (tol8 Z 19 = tol8 Z q) := by show _ = _; rw [HC.out, HQ.out, if_pos ⟨h4, hz⟩]
        rw [hz] at c1
        clear HC HQ
        go_wp2_with fail
        go_roundw
        case rel => exact ⟨q, by omega, by omega, by go_num, HC2, trivial⟩
        case measure => simp [intOf]
      · have HC2 : Hid (tol8 Z 19 = q + 1) := by show _ = _; rw [HC.out, HQ.out, if_neg (fun h => hz h.2)]
        have hzb : (Z.getD s 0 == 0) = false := by rw [beq_eq_false_iff_ne]; exact hz
        clear HC HQ
        generalize Z.getD s 0 = z at *
        go_wp2_with fail
        go_ret
        refine ⟨?_, rfl⟩
        rw [HC2.out]
        rfl
    · have h4i : ¬ (4 : Int) < ((q + 1 : Nat) : Int) := by omega
      have HC2 : Hid (tol8 Z 19 = q + 1) := by show _ = _; rw [HC.out, HQ.out, if_neg (fun h => h4 h.1)]
      clear HC HQ
      go_wp2_with fail
      go_ret
      refine ⟨?_, rfl⟩
      rw [HC2.out]
      rfl
end Go.Proofs.YtiankbopnjhhaaaGreatDoor

namespace Go.Proofs.YtiankbopnjhhaaaGreatDoor
open Go.RowKit
set_option linter.unusedVariables false

/-! The landed block: repeated. -/
def rst9 (v : Int) (n i : Nat) : List Int := List.replicate i v ++ List.replicate (n - i) 0
theorem rst9_len (v : Int) {n i : Nat} (h : i ≤ n) : (rst9 v n i).length = n := by simp [rst9]; omega
theorem rst9_set (v : Int) {n i : Nat} (h : i < n) : (rst9 v n i).set i v = rst9 v n (i + 1) := by
  unfold rst9
  have e : n - i = (n - (i + 1)) + 1 := by omega
  rw [e, List.replicate_succ, List.set_append_right _ _ (by simp), List.length_replicate, Nat.sub_self, List.set_cons_zero, List.replicate_succ', List.append_assoc]
  rfl
set_option maxRecDepth 100000 in
set_option maxHeartbeats 1000000 in
theorem prep9 (v : Int) (n : Nat) (hv : 0 ≤ v ∧ v ≤ 15) (hl : n ≤ 1000) (w : World) :
    Calls Tryz.prog 50 #[.int .i64 v, .int .i64 (n : Int)] w fun e w' => e = .returned (.slice (some ⟨w.heap.size, 0, none⟩) n n) ∧ w'.ownsRow w.heap.size 3 1 (.slice (some ⟨w.heap.size, 0, none⟩) n n) n ((List.replicate n v).map (Value.int .i64)) ∧ Below w.heap.size w w' := by
  have hmk : ∀ W, (Instr.makeSlice 39 (.int .i64 (n : Int)) (.int .i64 (n : Int))).run Tryz.prog W = .ok (.slice (some ⟨W.heap.size, 0, none⟩) n n) (W.alloc (.cells (Array.replicate n (.int .i64 0)) 3)) := fun W => run_make_ints n (by omega) W
  go_enter Tryz.func50, Tryz.ntmps50
  go_wp2_with fail
  have O0 := own_zeros w n (by omega)
  have B0 := below_box8 w (.cells (Array.replicate n (.int .i64 0)) 3)
  generalize w.alloc (.cells (Array.replicate n (.int .i64 0)) 3) = w0 at *
  go_loopw [11] (fun ti wr => ∃ i : Nat, i ≤ n ∧ ti = .int .i64 (i : Int) ∧ wr.ownsRow w.heap.size 3 1 (.slice (some ⟨w.heap.size, 0, none⟩) n n) n ((rst9 v n i).map (Value.int .i64)) ∧ Below w.heap.size w wr) (fun ti _ => n - (intOf ti).toNat)
  case atStart => exact ⟨0, by omega, rfl, by rw [show rst9 v n 0 = List.replicate n 0 by simp [rst9]]; exact O0, B0⟩
  case round =>
    obtain ⟨i, hin, rfl, OO, BR⟩ := hrel
    clear O0 B0
    by_cases hlt : i < n
    · have hlti : (i : Int) < (n : Int) := by omega
      have HSN : Hid ((rst9 v n i).set i v = rst9 v n (i + 1)) := rst9_set v hlt
      obtain ⟨d0, fz⟩ := own_cell1 OO (i := i) (by rw [rst9_len v (by omega)]; exact hlt)
      have f0 := fz i
      generalize (rst9 v n i).getD i 0 = y at *
      obtain ⟨OS, GS⟩ := OO.stored i (.int .i64 v)
      rw [← List.map_set, HSN.out] at OS
      have hsz := BR.size
      have B1 : Below w.heap.size w (wr.setCell ⟨w.heap.size, i, none⟩ (.int .i64 v)) := BR.trans ((Below.refl _ _).grown GS hsz (fun k hk => by cases hk; exact Nat.le_refl _))
      have HB : Hid (Below w.heap.size w (wr.setCell ⟨w.heap.size, i, none⟩ (.int .i64 v))) := B1
      have HOS : Hid _ := OS
      clear B1 OS GS fz HSN
      go_wp2_with fail
      go_roundw
      case rel => exact ⟨i + 1, by omega, by go_num, HOS.out, HB.out⟩
      case measure => simp [intOf]; omega
    · have hge : ¬ (i : Int) < (n : Int) := by omega
      have hTA : rst9 v n i = List.replicate n v := by unfold rst9; rw [show n - i = 0 by omega, show i = n by omega]; simp
      rw [hTA] at OO
      clear hTA
      go_wp2_with fail
      go_ret
      exact ⟨rfl, by simpa using OO, BR⟩
/-- A part of an array of structs that is a value. -/
theorem run_index9 {P : Program} (w : World) (t e : TypeId) (n m : Nat) (fs : Array Field) (cs : Array Value) (i : Nat) (k : IntKind) (hi : i < n) (ht : P.underlying t = some (.array n e)) (he : P.underlying e = some (.struct fs)) (hs : (P.info? e).map (·.size) = some m) :
    (Instr.index t (.agg cs) (.int k (i : Int))).run P w = .ok (.agg (cs.extract (i * m) (i * m + m))) w := by
  cases hq : P.info? e with
  | none => simp [hq] at hs
  | some inf =>
    have h1 : inf.size = m := by simpa [hq] using hs
    have hsz : (sizeOf e).run P w = .ok m w := by simp [sizeOf, typeInfo, hq, h1]
    have hagg : (isAgg e).run P w = .ok true w := by
      unfold isAgg
      rw [Sem.run_bind, run_underlying he w]
      simp
    have hb : (0 : Int) ≤ (i : Int) ∧ (i : Int) < (n : Int) := by omega
    simp [Instr.index, asIntOf, Sem.run_bind, run_underlying ht, hb, hsz, part, hagg, hi]
theorem own_ge9 {w : World} {base n sz k : Nat} {e : TypeId} {v : Value} {xs : List Value} (h : w.ownsRow base e sz v n xs) (hk : v.ownBlock = some k) : base ≤ k := by
  rcases h.2 with ⟨rfl, _⟩ | ⟨g, cap, cur, rfl, h1, _⟩
  · simp [Value.ownBlock] at hk
  · simp [Value.ownBlock] at hk
    omega
end Go.Proofs.YtiankbopnjhhaaaGreatDoor
