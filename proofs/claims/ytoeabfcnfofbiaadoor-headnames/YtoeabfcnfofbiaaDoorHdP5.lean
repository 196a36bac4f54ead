
import Derived.Test.YtoeabfcnfofbiaaDoorHdP4
namespace Go.Proofs.YtoeabfcnfofbiaaDoor
open Go.RowKit
set_option linter.unusedVariables false

/-! The landed head: Runs. -/
theorem SegZ.drop8 {w : World} {b off : Nat} {zs : List Int} (h : SegZ w (some ⟨b, off, none⟩) zs) (p : Nat) : SegZ w (some ⟨b, off + p, none⟩) (zs.drop p) :=
  ⟨fun i hi => by
    rw [List.length_drop] at hi
    obtain ⟨b', off', e, c⟩ := h.at_ (p + i) (by omega)
    cases e
    refine ⟨b, off + p, rfl, ?_⟩
    rw [Nat.add_assoc, c]
    simp [List.getD], fun i => by have := h.bd (p + i); simpa [List.getD] using this⟩
theorem flatN_len : ∀ l : List Rn8, (flatN l).length = l.length * 2
  | [] => rfl
  | t :: r => by
    have e : flatN (t :: r) = .int .i64 t.sy :: .int .i64 t.ct :: flatN r := rfl
    rw [e, List.length_cons, List.length_cons, flatN_len r, List.length_cons]
    omega
theorem flatN_one (l : List Rn8) : ∀ u ∈ flatN l, u.oneCell' = true := by
  intro u hu
  unfold flatN at hu
  obtain ⟨x, _, h⟩ := List.mem_flatMap.1 hu
  simp only [List.mem_cons, List.not_mem_nil, or_false] at h
  rcases h with rfl | rfl <;> rfl
/-- Runs that lie somewhere behind a row of the call's own. -/
theorem wpList_appR {P : Program} {ops : Array Oper} {rest : List Oper} {o : Oper} {a : Act} {Q : Exit → Act → World → Prop} (hgd : o.guard = none) (s x : Operand) (t : TypeId)
    (ho : o.op = .call { callee := .builtin .append, args := #[s, x], argTypes := #[t, t] })
    (base : Nat) (e : TypeId) (i : TypeInfo) (z : Value) (bytes : Nat) (ht : P.underlying t = some (.slice e)) (hi : P.info? e = some i) (hz : i.zero = some z)
    (hsize : i.size = 2) (hby : i.bytes = bytes) (hzs : z.cells.size = 2) (w0 : World) {b2 m c2 : Nat} {e2 : TypeId} {la : Option Addr} {L : List Rn8}
    {ra : Option Addr} {n rc : Nat} {l : List Rn8} (hown : w0.ownsRow base e 2 (.slice ra n rc) n (flatN l)) (hs : a.eval s = .slice ra n rc)
    (hL : w0.ownsRow b2 e2 2 (.slice la m c2) m (flatN L)) (hx : a.eval x = .slice la m c2) (hm : 0 < m)
    (h63 : n + m ≤ 140737488355328) (hbytes : (n + m) * bytes ≤ 140737488355328) (hbase : base ≤ w0.heap.size)
    (h : ∀ (g : Nat) (c : Nat) (w' : World), w'.ownsRow base e 2 (.slice (some ⟨g, 0, none⟩) (n + m) c) (n + m) (flatN (l ++ L)) → Kp (fun k => (Value.slice ra n rc).ownBlock = some k) w0 w' → wpList P ops Q rest (a.put o.dst (.slice (some ⟨g, 0, none⟩) (n + m) c)) w') : wpList P ops Q (o :: rest) a w0 := by
  have hLl : L.length = m := by have := hL.1; rw [flatN_len] at this; omega
  rcases hL.2 with ⟨_, h0⟩ | ⟨g, cp, cur, hv, _⟩
  · omega
  simp only [Value.slice.injEq] at hv
  obtain ⟨rfl, _, rfl⟩ := hv
  refine wpList_append_lies _ hgd s x t ho base e i z 2 bytes ht hi hz hsize hby hzs (by decide) _ n (flatN l) hs hown ⟨g, 0, none⟩ m c2 (flatN L) hx (by rw [flatN_len, hLl]) (fun j u hu => hL.cells (g := g) rfl j u hu) (flatN_one L) hm (by unfold maxLen; omega) hbytes hbase _ rfl ?_
  intro g c w' h1 h2 h3 _
  exact h g c w' (by rw [flatN_app]; exact h1) (Kp.grown (S := fun k => (Value.slice ra n rc).ownBlock = some k) h2 (fun i e => e))
set_option maxRecDepth 100000 in
set_option maxHeartbeats 4000000 in
theorem pruns8 (zs : List Int) (a : Option Addr) (n cap : Nat) (hn : Hid (zs.length = n)) (hcap : n ≤ cap) (w : World) (hs : SegZ w a zs) (T : TabS w) :
    Calls Tryd.prog 14 #[.slice a n cap] w (RsQ w 38 (rns8 zs) (rer8 zs)) := by
  obtain ⟨i0, hi, hz0, hz1, hz2⟩ := info_parts info_arun8
  have HNO : Hid (¬ may8 zs → ∀ w', Below w.heap.size w w' → RsQ w 38 (rns8 zs) (rer8 zs) (.returned (.tuple #[.slice none 0 0, .int .i64 80])) w') := fun hm w' hb => by
    unfold rns8 rer8
    rw [if_neg hm, if_neg hm]
    exact ⟨none, 0, rfl, World.ownsRow_nil _ _ _ _, hb⟩
  by_cases h320 : 320 < n
  · have h3i : 320 < (n : Int) := by omega
    have hm : ¬ may8 zs := fun h => by have := h.1; rw [hn.out] at this; omega
    have HF := HNO.out hm w (Below.refl _ _)
    clear hm HNO
    go_enter Tryd.func14, Tryd.ntmps14
    go_wp2_with fail
    go_ret2
    exact HF
  · have h3i : ¬ 320 < (n : Int) := by omega
    have HS : Hid (SegZ w a zs) := hs
    have HT : Hid (TabS w) := T
    clear hs T
    go_enter Tryd.func14, Tryd.ntmps14
    go_wp2_with fail
    go_loopw [14] (fun ti wr => ∃ i : Nat, i ≤ n ∧ ti = .int .i64 (i : Int) ∧ Hid (∀ j, j < i → 0 ≤ zs.getD j 0 ∧ zs.getD j 0 ≤ 15) ∧ wr = w) (fun ti _ => n - (intOf ti).toNat)
    case atStart => exact ⟨0, by omega, rfl, (show ∀ j, _ from fun j hj => by omega), rfl⟩
    case round =>
      obtain ⟨i, hin, rfl, HA, hwr⟩ := hrel
      have hwr2 : w = wr := hwr.symm
      subst hwr2
      clear hwr
      by_cases hlt : i < n
      · have hlti : (i : Int) < (n : Int) := by omega
        have hiz : i < zs.length := by rw [hn.out]; exact hlt
        obtain ⟨b, off, rfl, c0⟩ := (show SegZ w a zs from HS.out).at_ i hiz
        have hbd := (show SegZ w (some ⟨b, off, none⟩) zs from HS.out).bd i
        have HNM : Hid (¬ (0 ≤ zs.getD i 0 ∧ zs.getD i 0 ≤ 15) → ¬ may8 zs) := fun h hm => h (may8_at hiz hm)
        have HNX : Hid (0 ≤ zs.getD i 0 ∧ zs.getD i 0 ≤ 15 → ∀ j, j < i + 1 → 0 ≤ zs.getD j 0 ∧ zs.getD j 0 ≤ 15) := fun h j hj => by
          by_cases e : j = i
          · subst e; exact h
          · exact HA.out j (by omega)
        generalize zs.getD i 0 = z at *
        by_cases g1 : z < 0
        · have HF := HNO.out (HNM.out (by omega)) w (Below.refl _ _)
          clear HNM HNX HNO
          go_wp2_with fail
          go_ret2
          exact HF
        · by_cases g2 : 15 < z
          · have HF := HNO.out (HNM.out (by omega)) w (Below.refl _ _)
            clear HNM HNX HNO
            go_wp2_with fail
            go_ret2
            exact HF
          · have HN2 : Hid (∀ j, j < i + 1 → 0 ≤ zs.getD j 0 ∧ zs.getD j 0 ≤ 15) := HNX.out (by omega)
            clear HNM HNX
            go_wp2_with fail
            go_roundw
            case rel => exact ⟨i + 1, by omega, by go_num, HN2, trivial⟩
            case measure => simp [intOf]; omega
      · have hge : ¬ (i : Int) < (n : Int) := by omega
        have hM : may8 zs := may8_all (by rw [hn.out]; omega) (fun j hj => HA.out j (by rw [hn.out] at hj; omega))
        have HM : Hid (may8 zs) := hM
        clear hM HA HNO
        go_wp2_with fail
        go_loopw [6, 7] (fun to ti wq => RnI zs w wq 38 to ti) (fun _ ti _ => n - (intOf ti).toNat)
        case atStart => exact ⟨0, 0, 0, none, [], by omega, by omega, rfl, rfl, rfl, by simp [runs8], World.ownsRow_nil _ _ _ _, Below.refl _ _⟩
        case round =>
          obtain ⟨p, m, oc, oa, R, hpn, hmp, rfl, rfl, hRl, hrun, OO, BR⟩ := hrel
          rw [hn.out] at hpn
          have HRL : Hid (R.length = m) := hRl
          have HRN : Hid (runs8 zs = R ++ rung8 (zs.length - p) (zs.drop p)) := hrun
          clear hRl hrun
          by_cases hpl : p < n
          · have hpli : (p : Int) < (n : Int) := by omega
            have hpz : p < zs.length := by rw [hn.out]; exact hpl
            have HAT := rung8_str hpz
            have hpre0 : 1 ≤ pre8 (zs.getD p 0) (zs.drop p) := by
              rw [pre8_iff]
              refine ⟨by rw [List.length_drop]; omega, fun j hj => ?_⟩
              obtain rfl : j = 0 := by omega
              simp [List.getD]
            have hprl := pre8_le (zs.getD p 0) (zs.drop p)
            rw [List.length_drop, hn.out] at hprl
            have hSW := (show SegZ w a zs from HS.out).old BR
            obtain ⟨b, off, rfl, c0⟩ := hSW.at_ p hpz
            have CS := pstretch8 (zs.drop p) (some ⟨b, off + p, none⟩) (n - p) (cap - p) (by show _ = _; rw [List.length_drop, hn.out]) wr (hSW.drop8 p) (by omega) (by omega)
            have e0 : (zs.drop p).getD 0 0 = zs.getD p 0 := by simp [List.getD]
            rw [e0] at CS
            have HCP : Hid (∀ (k : Nat) (W : World), k ≤ 1000 → Below w.heap.size w W → Calls Tryd.prog 38 #[.int .i64 (zs.getD p 0), .int .i64 (k : Int)] W (SpQ W 38 (spd8 k (zs.getD p 0) k false))) := fun k W hk hb => pspread8 _ k hk W (SegZ.old HT.out hb)
            have hlen := spd8_len (zs.getD p 0) (pre8 (zs.getD p 0) (zs.drop p)) (pre8 (zs.getD p 0) (zs.drop p)) false
            have hpos : 0 < (spd8 (pre8 (zs.getD p 0) (zs.drop p)) (zs.getD p 0) (pre8 (zs.getD p 0) (zs.drop p)) false).length := by rw [spd8_one _ (by omega)]; simp
            have HAT2 : Hid (rung8 (zs.length - p) (zs.drop p) = spd8 (pre8 (zs.getD p 0) (zs.drop p)) (zs.getD p 0) (pre8 (zs.getD p 0) (zs.drop p)) false ++ rung8 (zs.length - (p + pre8 (zs.getD p 0) (zs.drop p))) (zs.drop (p + pre8 (zs.getD p 0) (zs.drop p)))) := HAT
            clear HAT hSW e0
            have hvb := (show SegZ w (some ⟨b, off, none⟩) zs from HS.out).bd p
            generalize zs.getD p 0 = v at *
            generalize pre8 v (zs.drop p) = K at *
            have CP : Hid (∀ (W : World), Below w.heap.size w W → Calls Tryd.prog 38 #[.int .i64 v, .int .i64 (K : Int)] W (SpQ W 38 (spd8 K v K false))) := fun W hb => HCP.out K W (by omega) hb
            clear HCP
            generalize spd8 K v K false = L at *
            obtain ⟨N, hN⟩ : ∃ N, N = L.length := ⟨_, rfl⟩
            have HN : Hid (L.length = N) := hN.symm
            rw [← hN] at hlen hpos
            obtain ⟨np, hnp⟩ : ∃ np, n - p = np := ⟨_, rfl⟩
            obtain ⟨cp, hcp⟩ : ∃ cp, cap - p = cp := ⟨_, rfl⟩
            rw [hnp, hcp] at CS
            have hpi1 : p ≤ n := by omega
            clear hN
            go_wp2_with (first
              | (go_at_call 37; refine CS.mono ?_; rintro e w1 ⟨rfl, b1⟩; have B1 : Below w.heap.size w w1 := BR.trans (b1.mono BR.size); have O1 := own_belowN OO b1; have c1 : w1.cell? ⟨b, off + p, none⟩ = some (.int .i64 v) := (b1.cell (p := ⟨b, off + p, none⟩) (World.block_lt_of_cell? wr _ c0)).trans c0)
              | (go_at_call 38; refine (CP.out _ B1).mono ?_; rintro e w2 ⟨la, lc, rfl, LO, b2⟩; rw [HN.out] at LO; rw [HN.out]; have B2 : Below w.heap.size w w2 := B1.trans (b2.mono B1.size); have O2 := own_belowN O1 b2; have hsz2 := B2.size)
              | (at_builtin; refine wpList_appR rfl (.tmp 33) (.tmp 39) 32 rfl w.heap.size 38 i0 _ 16 Tryd.underlying32 hi hz0 hz1 hz2 rfl w2 O2 rfl LO rfl hpos (by omega) (by omega) hsz2 ?_; intro ga gc w3 own3 hk3))
            have B3 : Below w.heap.size w w3 := B2.trans (hk3.below (fun q e => (O2.lt q e).1) hsz2)
            clear hk3 O1 O2 LO b1 b2 OO BR
            have HL2 : Hid ((R ++ L).length = m + N) := by show _ = _; rw [List.length_append, HRL.out, HN.out]
            have HR2 : Hid (runs8 zs = (R ++ L) ++ rung8 (zs.length - (p + K)) (zs.drop (p + K))) := by
              show _ = _
              rw [HRN.out, HAT2.out, List.append_assoc]
            go_roundw
            case rel => exact ⟨p + K, m + N, gc, _, R ++ L, by rw [hn.out]; omega, by omega, by go_num, rfl, HL2.out, HR2.out, own3, B3⟩
            case measure => simp [intOf]; omega
          · have hpge : ¬ (p : Int) < (n : Int) := by omega
            have HE : Hid (runs8 zs = R) := by
              show _ = _
              rw [HRN.out, show zs.length - p = 0 by rw [hn.out]; omega, rung8, List.append_nil]
            clear HRN
            go_wp2_with fail
            go_ret2
            unfold rns8 rer8
            rw [if_pos HM.out, if_pos HM.out]
            refine ⟨oa, oc, ?_, ?_, BR⟩
            · rw [HE.out, HRL.out]; rfl
            · rw [HE.out, HRL.out]; exact OO
end Go.Proofs.YtoeabfcnfofbiaaDoor
