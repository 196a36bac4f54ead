import Derived.Test.YtoeabfcnfofbiaaDoorPc
import Derived.Deep.RegionHeld3
import Derived.WalkKit
namespace Go.Proofs.YtoeabfcnfofbiaaDoor
open Go.RowKit
set_option linter.unusedVariables false

/-! The document's Lens: the walk. -/
/-- A number behind a row of the call's own. -/
theorem wpList_appI {P : Program} {ops : Array Oper} {rest : List Oper} {o : Oper} {a : Act} {Q : Exit → Act → World → Prop} (hgd : o.guard = none) (s x : Operand) (t : TypeId)
    (ho : o.op = .call { callee := .builtin .append, args := #[s, x], argTypes := #[t, t] })
    (base : Nat) (e : TypeId) (i : TypeInfo) (z : Value) (bytes : Nat) (ht : P.underlying t = some (.slice e)) (hi : P.info? e = some i) (hz : i.zero = some z)
    (hsize : i.size = 1) (hby : i.bytes = bytes) (hzs : z.cells.size = 1) (w0 : World) (y : Int)
    {ra : Option Addr} {n rc : Nat} {l : List Int} (hown : w0.ownsRow base e 1 (.slice ra n rc) n (l.map (Value.int .i64))) (hs : a.eval s = .slice ra n rc) (hx : a.eval x = .slice (some ⟨w0.heap.size, 0, none⟩) 1 1)
    (h63 : n + 1 ≤ 140737488355328) (hbytes : (n + 1) * bytes ≤ 140737488355328) (hbase : base ≤ w0.heap.size)
    (h : ∀ (g : Nat) (c : Nat) (w' : World), w'.ownsRow base e 1 (.slice (some ⟨g, 0, none⟩) (n + 1) c) (n + 1) ((l ++ [y]).map (Value.int .i64)) → Kp (fun k => (Value.slice ra n rc).ownBlock = some k) w0 w' → ((Value.slice ra n rc).ownBlock = some g ∨ g = w0.heap.size + 1) → wpList P ops Q rest (a.put o.dst (.slice (some ⟨g, 0, none⟩) (n + 1) c)) w') : wpList P ops Q (o :: rest) a (w0.alloc (.cells #[.int .i64 y] e)) := by
  have hnew : ∀ j u, ([.int .i64 y] : List Value)[j]? = some u → (w0.alloc (.cells #[.int .i64 y] e)).cell? ((⟨w0.heap.size, 0, none⟩ : Addr).add j) = some u := by
    intro j u hu
    have hadd : (⟨w0.heap.size, 0, none⟩ : Addr).add j = ⟨w0.heap.size, j, none⟩ := by unfold Addr.add; split <;> simp_all
    rw [hadd]
    have hh := heap_alloc_new w0 (.cells #[.int .i64 y] e)
    simp only [World.cell?, hh]
    simpa using hu
  refine wpList_append_lies _ hgd s x t ho base e i z 1 bytes ht hi hz hsize hby hzs (by decide) _ n (l.map (Value.int .i64)) hs (hown.alloc _) ⟨w0.heap.size, 0, none⟩ 1 1 [.int .i64 y] hx rfl hnew (by intro u hu; simp only [List.mem_cons, List.not_mem_nil, or_false] at hu; subst hu; rfl) (by decide) (by unfold maxLen; omega) hbytes (by simp; omega) (w0.heap.size + 1) (by simp) ?_
  intro g c w' h1 h2 h3 _
  refine h g c w' (by rw [List.map_append]; exact h1) ?_ h3
  exact (Kp.alloc w0 _).trans (Kp.grown (S := fun k => (Value.slice ra n rc).ownBlock = some k) h2 (fun i e => e)) (fun _ _ e => e)
theorem end8_get : ∀ (l : List Int), 0 < l.length → end8 l = l.getD (l.length - 1) 0
  | [], h => by simp at h
  | [x], _ => rfl
  | x :: y :: r, _ => by
    have := end8_get (y :: r) (by simp)
    simpa [end8, List.getD] using this
theorem lng8_at {R : List Rn8} {i : Nat} (h : i < R.length) (out : List Int) : lng8 (R.drop i) out = if bad8 (R.getD i ⟨0, 0⟩) out.length then none else if 320 < (out ++ List.replicate (R.getD i ⟨0, 0⟩).ct.toNat (val8 (R.getD i ⟨0, 0⟩) out)).length then none else lng8 (R.drop (i + 1)) (out ++ List.replicate (R.getD i ⟨0, 0⟩).ct.toNat (val8 (R.getD i ⟨0, 0⟩) out)) := by
  have hd : R.drop i = R.getD i ⟨0, 0⟩ :: R.drop (i + 1) := by rw [List.drop_eq_getElem_cons h]; simp [List.getD, h]
  rw [hd, lng8]
def lzs8 (R : List Rn8) : List Int := (lens8 R).getD []
def ler8 (R : List Rn8) : Int := if (lens8 R).isSome then 0 else 81
theorem lzs8_none {R : List Rn8} (h : lens8 R = none) : lzs8 R = [] ∧ ler8 R = 81 := by unfold lzs8 ler8; rw [h]; exact ⟨rfl, rfl⟩
theorem lzs8_some {R : List Rn8} {l : List Int} (h : lens8 R = some l) : lzs8 R = l ∧ ler8 R = 0 := by unfold lzs8 ler8; rw [h]; exact ⟨rfl, rfl⟩
def LsQ (w : World) (ty : TypeId) (zs : List Int) (er : Int) (e : Ending) (w' : World) : Prop := ∃ oa oc, e = .returned (.tuple #[.slice oa zs.length oc, .int .i64 er]) ∧ w'.ownsRow w.heap.size ty 1 (.slice oa zs.length oc) zs.length (zs.map (Value.int .i64)) ∧ Below w.heap.size w w'
/-- How far Lens has come. -/
def LnI (R : List Rn8) (w wr : World) (ty : TypeId) (n : Nat) (to ti : Value) : Prop := ∃ (i m oc : Nat) (oa : Option Addr) (out : List Int), i ≤ n ∧ m ≤ 320 ∧ ti = .int .i64 (i : Int) ∧ to = .slice oa m oc ∧ out.length = m ∧ (∀ z ∈ out, 0 ≤ z ∧ z ≤ 15) ∧ lens8 R = lng8 (R.drop i) out ∧ wr.ownsRow w.heap.size ty 1 (.slice oa m oc) m (out.map (Value.int .i64)) ∧ Below w.heap.size w wr
/-- How far it has come within a run. -/
def LnK (out : List Int) (v : Int) (w wq : World) (ty : TypeId) (A c m : Nat) (to tk : Value) : Prop := ∃ (k m' oc : Nat) (oa : Option Addr), k ≤ c ∧ tk = .int .i64 (k : Int) ∧ to = .slice oa m' oc ∧ m' = m + k ∧ wq.ownsRow w.heap.size ty 1 (.slice oa m' oc) m' ((out ++ List.replicate k v).map (Value.int .i64)) ∧ Below w.heap.size w wq ∧ wq.cell? ⟨A, 1, none⟩ = some (.int .i64 (c : Int)) ∧ (Value.slice oa m' oc).ownBlock ≠ some A
theorem lst8_ge (s : Int) : 1 ≤ lst8 s := by unfold lst8; split; omega; split <;> omega
theorem grt8_le (s : Int) : grt8 s ≤ 138 := by unfold grt8; split; omega; split; omega; split <;> omega
set_option maxRecDepth 100000 in
set_option maxHeartbeats 8000000 in
theorem rlens8 (R : List Rn8) (a : Option Addr) (n cap : Nat) (hn : Hid (R.length = n)) (w : World) (hs : SegN w a R) (hl : n ≤ 1152921504606846976) :
    Calls Tryd.prog 17 #[.slice a n cap] w (LsQ w 3 (lzs8 R) (ler8 R)) := by
  obtain ⟨i0, hi, hz0, hz1, hz2⟩ := info_parts info_int
  have HS : Hid (SegN w a R) := hs
  have HNO : Hid (lens8 R = none → ∀ w', Below w.heap.size w w' → LsQ w 3 (lzs8 R) (ler8 R) (.returned (.tuple #[.slice none 0 0, .int .i64 81])) w') := fun hm w' hb => by
    rw [(lzs8_none hm).1, (lzs8_none hm).2]
    exact ⟨none, 0, rfl, World.ownsRow_nil _ _ _ _, hb⟩
  clear hs
  go_enter Tryd.func17, Tryd.ntmps17
  go_wp2_with fail
  go_loopw [4, 5] (fun to ti wq => LnI R w wq 3 n to ti) (fun _ ti _ => n - (intOf ti).toNat)
  case atStart => exact ⟨0, 0, 0, none, [], by omega, by omega, rfl, rfl, rfl, by simp, rfl, World.ownsRow_nil _ _ _ _, Below.refl _ _⟩
  case round =>
    obtain ⟨i, m, oc, oa, out, hin, hm3, rfl, rfl, hol, hob, hlg, OO, BR⟩ := hrel
    have HOL : Hid (out.length = m) := hol
    have HOB : Hid (∀ z ∈ out, 0 ≤ z ∧ z ≤ 15) := hob
    have HLG : Hid (lens8 R = lng8 (R.drop i) out) := hlg
    clear hol hob hlg
    by_cases hlt : i < n
    · have hlti : (i : Int) < (n : Int) := by omega
      have hil : i < R.length := by rw [hn.out]; exact hlt
      have hat := lng8_at hil out
      obtain ⟨b, off, rfl, cs, cc⟩ := ((show SegN w a R from HS.out).old BR).at_ i hil
      rw [HOL.out] at hat
      have HAT : Hid (lens8 R = if bad8 (R.getD i ⟨0, 0⟩) m then none else if 320 < (out ++ List.replicate (R.getD i ⟨0, 0⟩).ct.toNat (val8 (R.getD i ⟨0, 0⟩) out)).length then none else lng8 (R.drop (i + 1)) (out ++ List.replicate (R.getD i ⟨0, 0⟩).ct.toNat (val8 (R.getD i ⟨0, 0⟩) out))) := by
        show _ = _
        rw [HLG.out, hat]
      clear hat HLG
      generalize R.getD i ⟨0, 0⟩ = r at *
      obtain ⟨sy, ct⟩ := r
      simp only at cs cc
      obtain ⟨A, hA⟩ : ∃ A, A = wr.heap.size := ⟨_, rfl⟩
      obtain ⟨wA, hwA⟩ : ∃ wA, wA = wr.alloc (.cells #[.int .i64 sy, .int .i64 ct] 40) := ⟨_, rfl⟩
      have HWA : Hid (wr.alloc (.cells #[.int .i64 sy, .int .i64 ct] 40) = wA) := hwA.symm
      have HA : Hid (wr.heap.size = A) := hA.symm
      have bA : Below wr.heap.size wr wA := by rw [hwA]; exact (Below.refl _ _).alloc (Nat.le_refl _) _
      have hAA : wA.heap[A]? = some (.cells #[.int .i64 sy, .int .i64 ct] 40 (0, 0)) := by rw [hwA, hA]; exact heap_alloc_new wr _
      have cA0 : wA.cell? ⟨A, 0, none⟩ = some (.int .i64 sy) := by simp only [World.cell?, hAA]; rfl
      have cA1 : wA.cell? ⟨A, 1, none⟩ = some (.int .i64 ct) := by simp only [World.cell?, hAA]; rfl
      have hap : (Value.slice oa m oc).ownBlock ≠ some A := fun h => by have := (OO.lt A h).2; omega
      have OA := own_below OO bA
      have BA : Below w.heap.size w wA := BR.trans (bA.mono BR.size)
      have HLO : Hid (∀ W, Calls Tryd.prog 39 #[.int .i64 sy] W fun e w' => e = .returned (.int .i64 (lst8 sy)) ∧ w' = W) := rleast8 sy
      have HGR : Hid (∀ W, Calls Tryd.prog 40 #[.int .i64 sy] W fun e w' => e = .returned (.int .i64 (grt8 sy)) ∧ w' = W) := rgreat8 sy
      have HBAD : Hid (bad8 ⟨sy, ct⟩ m ↔ sy < 0 ∨ 18 < sy ∨ ct < lst8 sy ∨ grt8 sy < ct ∨ (sy = 16 ∧ m = 0)) := Iff.rfl
      have hg138 := grt8_le sy
      have hlo1 := lst8_ge sy
      have HNB : Hid (bad8 ⟨sy, ct⟩ m → lens8 R = none) := fun h => by rw [HAT.out, if_pos h]
      generalize lst8 sy = lo at *
      generalize grt8 sy = gr at *
      clear hAA hwA hA OO bA
      go_wp2_with fail
      rw [HWA.out, HA.out]
      by_cases g1 : sy < 0
      · have d1 : decide (sy < 0) = true := by simp [g1]
        have HF := HNO.out (HNB.out (HBAD.out.2 (.inl g1)))
        clear HNB HBAD HAT HNO OA
        go_quiet ((first | (go_at_call 39; exact Calls.quiet_of_same (HLO.out _)) | (go_at_call 40; exact Calls.quiet_of_same (HGR.out _))))
        go_wp2_with fail
        go_ret2
        exact HF _ ⟨BA.os, BA.tape, BA.output, BA.size, BA.block⟩
      have d1 : decide (sy < 0) = false := by simp; omega
      by_cases g2 : 18 < sy
      · have d2 : decide (18 < sy) = true := by simp [g2]
        have HF := HNO.out (HNB.out (HBAD.out.2 (.inr (.inl g2))))
        clear HNB HBAD HAT HNO OA
        go_quiet ((first | (go_at_call 39; exact Calls.quiet_of_same (HLO.out _)) | (go_at_call 40; exact Calls.quiet_of_same (HGR.out _))))
        go_wp2_with fail
        go_ret2
        exact HF _ ⟨BA.os, BA.tape, BA.output, BA.size, BA.block⟩
      have d2 : decide (18 < sy) = false := by simp; omega
      by_cases g3 : ct < lo
      · have d3 : decide (ct < lo) = true := by simp [g3]
        have HF := HNO.out (HNB.out (HBAD.out.2 (.inr (.inr (.inl g3)))))
        clear HNB HBAD HAT HNO OA
        go_quiet ((first | (go_at_call 39; exact Calls.quiet_of_same (HLO.out _)) | (go_at_call 40; exact Calls.quiet_of_same (HGR.out _))))
        go_wp2_with fail
        go_ret2
        exact HF _ ⟨BA.os, BA.tape, BA.output, BA.size, BA.block⟩
      have d3 : decide (ct < lo) = false := by simp; omega
      by_cases g4 : gr < ct
      · have d4 : decide (gr < ct) = true := by simp [g4]
        have HF := HNO.out (HNB.out (HBAD.out.2 (.inr (.inr (.inr (.inl g4))))))
        clear HNB HBAD HAT HNO OA
        go_quiet ((first | (go_at_call 39; exact Calls.quiet_of_same (HLO.out _)) | (go_at_call 40; exact Calls.quiet_of_same (HGR.out _))))
        go_wp2_with fail
        go_ret2
        exact HF _ ⟨BA.os, BA.tape, BA.output, BA.size, BA.block⟩
      have d4 : decide (gr < ct) = false := by simp; omega
      by_cases g5 : sy = 16 ∧ m = 0
      · obtain ⟨rfl, rfl⟩ := g5
        have HF := HNO.out (HNB.out (HBAD.out.2 (.inr (.inr (.inr (.inr ⟨rfl, rfl⟩))))))
        clear HNB HBAD HAT HNO OA
        go_quiet ((first | (go_at_call 39; exact Calls.quiet_of_same (HLO.out _)) | (go_at_call 40; exact Calls.quiet_of_same (HGR.out _))))
        go_wp2_with fail
        go_ret2
        exact HF _ ⟨BA.os, BA.tape, BA.output, BA.size, BA.block⟩
      obtain ⟨c, rfl⟩ : ∃ c : Nat, ct = (c : Int) := ⟨ct.toNat, by omega⟩
      obtain ⟨V, hV⟩ : ∃ V, V = val8 ⟨sy, c⟩ out := ⟨_, rfl⟩
      have HG : Hid ((320 < m + c → lens8 R = none) ∧ (m + c ≤ 320 → lens8 R = lng8 (R.drop (i + 1)) (out ++ List.replicate c V))) := by
        have hat := HAT.out
        rw [if_neg (fun h => by have := HBAD.out.1 h; omega), ← hV] at hat
        simp only [List.length_append, List.length_replicate, HOL.out, Int.toNat_natCast] at hat
        exact ⟨fun h => by rw [hat, if_pos h], fun h => by rw [hat, if_neg (by omega)]⟩
      have hend : 0 < m → V = out.getD (m - 1) 0 ∨ ¬ sy = 16 := fun hm => by
        by_cases h : sy = 16
        · left
          rw [hV, val8, if_pos h, end8_get out (by rw [HOL.out]; exact hm), HOL.out]
        · exact .inr h
      have hVb : 0 ≤ V ∧ V ≤ 15 := by
        by_cases h : sy = 16
        · have hm : m - 1 < out.length := by rw [HOL.out]; omega
          rcases hend (by omega) with e | e
          · rw [e]
            exact HOB.out _ (by simp [List.getD, hm])
          · exact absurd h e
        · rw [hV, val8, if_neg h]
          simp only
          split <;> omega
      have hVc : ¬ sy = 16 → V = if 15 < sy then 0 else sy := fun h => by rw [hV, val8, if_neg h]
      have hOA := own_segZ OA (fun z hz => by have := HOB.out z hz; omega)
      clear HNB HBAD HAT hV
      have hcase : sy = 16 ∨ (¬ sy = 16 ∧ 15 < sy) ∨ (¬ sy = 16 ∧ ¬ 15 < sy) := by omega
      have HVV : Hid (∀ z, ¬ sy = 16 → (15 < sy → z = 0) → (¬ 15 < sy → z = sy) → V = z) := fun z h h1 h2 => by
        rw [hVc h]
        split
        · rename_i g; exact (h1 g).symm
        · rename_i g; exact (h2 g).symm
      have HCE : Hid (sy = 16 → 0 < m ∧ ∃ bo oo, oa = some ⟨bo, oo, none⟩ ∧ wA.cell? ⟨bo, oo + (m - 1), none⟩ = some (.int .i64 V)) := fun h => by
        have hm0 : 0 < m := by omega
        have hVe : V = out.getD (m - 1) 0 := by
          rcases hend hm0 with e | e
          · exact e
          · exact absurd h e
        obtain ⟨bo, oo, ho, co⟩ := hOA.at_ (m - 1) (by rw [HOL.out]; omega)
        exact ⟨hm0, bo, oo, ho, by rw [hVe]; exact co⟩
      clear hend hVc hOA
      rcases hcase with h16 | ⟨h16, h15⟩ | ⟨h16, h15⟩
      · obtain ⟨hm0, bo, oo, rfl, co⟩ := HCE.out h16
        subst h16
        have d6 : ((m : Int) == 0) = false := by simp; omega
        obtain ⟨m1, rfl⟩ : ∃ m1, m = m1 + 1 := ⟨m - 1, by omega⟩
        rw [Nat.add_sub_cancel] at co
        have dV : ¬ 15 < V := by omega
        clear HCE HVV g5
        go_quiet ((first | (go_at_call 39; exact Calls.quiet_of_same (HLO.out _)) | (go_at_call 40; exact Calls.quiet_of_same (HGR.out _))))
        have OD : (wA.drewN nq).ownsRow w.heap.size 3 1 (.slice (some ⟨bo, oo, none⟩) (m1 + 1) oc) (m1 + 1) (out.map (Value.int .i64)) := OA
        have BD : Below w.heap.size w (wA.drewN nq) := ⟨BA.os, BA.tape, BA.output, BA.size, BA.block⟩
        have cD0 : (wA.drewN nq).cell? ⟨A, 0, none⟩ = some (.int .i64 16) := cA0
        have cD1 : (wA.drewN nq).cell? ⟨A, 1, none⟩ = some (.int .i64 (c : Int)) := cA1
        have cDo : (wA.drewN nq).cell? ⟨bo, oo + m1, none⟩ = some (.int .i64 V) := co
        generalize wA.drewN nq = wD at *
        clear co cA0 cA1 OA BA
        go_wp2_with fail
        clear cD0
        go_loopw [4, 8] (fun to tk wq => LnK out V w wq 3 A c (m1 + 1) to tk) (fun _ tk _ => c - (intOf tk).toNat)
        case atStart => exact ⟨0, m1 + 1, oc, _, by omega, rfl, rfl, by omega, by rw [List.replicate_zero, List.append_nil]; exact OD, BD, cD1, hap⟩
        case round =>
          clear OD BD cD1 hap
          obtain ⟨k, m', oc', oa', hkc, rfl, rfl, hm', OX, BX, cX, AX⟩ := hrel
          have HMX : Hid (m' = m1 + 1 + k) := hm'
          have hm4 : m' ≤ 458 := by omega
          have hsz := BX.size
          clear hm'
          by_cases hk : k < c
          · have hki : (k : Int) < (c : Int) := by omega
            go_wp2_with (first | (at_builtin; refine wpList_appI rfl (.tmp 71) (.tmp 73) 22 rfl w.heap.size 3 i0 (.int .i64 0) 8 Tryd.underlying22 hi hz0 hz1 hz2 rfl wr _ OX rfl rfl (by omega) (by omega) hsz ?_; intro ga gc w3 own3 hk3 hat3))
            have B3 : Below w.heap.size w w3 := BX.trans (hk3.below (fun q e => (OX.lt q e).1) hsz)
            have c3 := hk3.cellN cX AX
            have hbl := World.block_lt_of_cell? wr _ cX
            have AX3 : (Value.slice (some ⟨ga, 0, none⟩) (m' + 1) gc).ownBlock ≠ some A := fun h => by
              have h2 : ga = A := by simpa [Value.ownBlock] using h
              subst h2
              rcases hat3 with h3 | h3
              · exact AX h3
              · simp only at hbl; omega
            have OW3 : w3.ownsRow w.heap.size 3 1 (.slice (some ⟨ga, 0, none⟩) (m' + 1) gc) (m' + 1) ((out ++ List.replicate (k + 1) V).map (Value.int .i64)) := by rw [List.replicate_succ', ← List.append_assoc]; exact own3
            clear hk3 hat3 AX cX own3
            go_roundw
            case rel => exact ⟨k + 1, m' + 1, gc, _, hk, by go_num, rfl, by rw [HMX.out]; omega, OW3, B3, c3, AX3⟩
            case measure => simp [intOf]; omega
          · have hke : ¬ (k : Int) < (c : Int) := by omega
            obtain rfl : k = c := by omega
            by_cases hbig : 320 < m'
            · have hbi : 320 < (m' : Int) := by omega
              have HF := HNO.out (HG.out.1 (by have := HMX.out; omega))
              clear HNO HG
              go_wp2_with fail
              go_ret2
              exact HF _ BX
            · have hbi : ¬ 320 < (m' : Int) := by omega
              have HL3 : Hid (lens8 R = lng8 (R.drop (i + 1)) (out ++ List.replicate k V)) := HG.out.2 (by have := HMX.out; omega)
              have HOB2 : Hid (∀ z ∈ out ++ List.replicate k V, 0 ≤ z ∧ z ≤ 15) := fun z hz => by
                rcases List.mem_append.1 hz with h | h
                · exact HOB.out z h
                · rw [List.eq_of_mem_replicate h]; exact hVb
              have HOL2 : Hid ((out ++ List.replicate k V).length = m') := by show _ = _; rw [List.length_append, List.length_replicate, HOL.out, HMX.out]
              clear HNO HG HMX
              go_wp2_with fail
              go_roundw
              case rel => exact ⟨i + 1, m', oc', oa', _, by omega, by omega, by go_num, rfl, HOL2.out, HOB2.out, HL3.out, OX, BX⟩
              case measure => simp [intOf]; omega
      · have d5 : (sy == 16) = false := by simp [h16]
        have HV0 : Hid (V = 0) := HVV.out 0 h16 (fun _ => rfl) (fun h => absurd h15 h)
        clear HCE HVV g5
        go_quiet ((first | (go_at_call 39; exact Calls.quiet_of_same (HLO.out _)) | (go_at_call 40; exact Calls.quiet_of_same (HGR.out _))))
        have OD : (wA.drewN nq).ownsRow w.heap.size 3 1 (.slice oa m oc) m (out.map (Value.int .i64)) := OA
        have BD : Below w.heap.size w (wA.drewN nq) := ⟨BA.os, BA.tape, BA.output, BA.size, BA.block⟩
        have cD0 : (wA.drewN nq).cell? ⟨A, 0, none⟩ = some (.int .i64 sy) := cA0
        have cD1 : (wA.drewN nq).cell? ⟨A, 1, none⟩ = some (.int .i64 (c : Int)) := cA1
        generalize wA.drewN nq = wD at *
        clear cA0 cA1 OA BA
        go_wp2_with fail
        clear cD0
        go_loopw [4, 8] (fun to tk wq => LnK out V w wq 3 A c (m) to tk) (fun _ tk _ => c - (intOf tk).toNat)
        case atStart => exact ⟨0, m, oc, _, by omega, rfl, rfl, by omega, by rw [List.replicate_zero, List.append_nil]; exact OD, BD, cD1, hap⟩
        case round =>
          clear OD BD cD1 hap
          obtain ⟨k, m', oc', oa', hkc, rfl, rfl, hm', OX, BX, cX, AX⟩ := hrel
          have HMX : Hid (m' = m + k) := hm'
          have hm4 : m' ≤ 458 := by omega
          have hsz := BX.size
          clear hm'
          by_cases hk : k < c
          · have hki : (k : Int) < (c : Int) := by omega
            go_wp2_with (first | (at_builtin; refine wpList_appI rfl (.tmp 71) (.tmp 73) 22 rfl w.heap.size 3 i0 (.int .i64 0) 8 Tryd.underlying22 hi hz0 hz1 hz2 rfl wr _ OX rfl rfl (by omega) (by omega) hsz ?_; intro ga gc w3 own3 hk3 hat3))
            have B3 : Below w.heap.size w w3 := BX.trans (hk3.below (fun q e => (OX.lt q e).1) hsz)
            have c3 := hk3.cellN cX AX
            have hbl := World.block_lt_of_cell? wr _ cX
            have AX3 : (Value.slice (some ⟨ga, 0, none⟩) (m' + 1) gc).ownBlock ≠ some A := fun h => by
              have h2 : ga = A := by simpa [Value.ownBlock] using h
              subst h2
              rcases hat3 with h3 | h3
              · exact AX h3
              · simp only at hbl; omega
            rw [← HV0.out] at own3
            have OW3 : w3.ownsRow w.heap.size 3 1 (.slice (some ⟨ga, 0, none⟩) (m' + 1) gc) (m' + 1) ((out ++ List.replicate (k + 1) V).map (Value.int .i64)) := by rw [List.replicate_succ', ← List.append_assoc]; exact own3
            clear hk3 hat3 AX cX own3
            go_roundw
            case rel => exact ⟨k + 1, m' + 1, gc, _, hk, by go_num, rfl, by rw [HMX.out]; omega, OW3, B3, c3, AX3⟩
            case measure => simp [intOf]; omega
          · have hke : ¬ (k : Int) < (c : Int) := by omega
            obtain rfl : k = c := by omega
            by_cases hbig : 320 < m'
            · have hbi : 320 < (m' : Int) := by omega
              have HF := HNO.out (HG.out.1 (by have := HMX.out; omega))
              clear HNO HG
              go_wp2_with fail
              go_ret2
              exact HF _ BX
            · have hbi : ¬ 320 < (m' : Int) := by omega
              have HL3 : Hid (lens8 R = lng8 (R.drop (i + 1)) (out ++ List.replicate k V)) := HG.out.2 (by have := HMX.out; omega)
              have HOB2 : Hid (∀ z ∈ out ++ List.replicate k V, 0 ≤ z ∧ z ≤ 15) := fun z hz => by
                rcases List.mem_append.1 hz with h | h
                · exact HOB.out z h
                · rw [List.eq_of_mem_replicate h]; exact hVb
              have HOL2 : Hid ((out ++ List.replicate k V).length = m') := by show _ = _; rw [List.length_append, List.length_replicate, HOL.out, HMX.out]
              clear HNO HG HMX
              go_wp2_with fail
              go_roundw
              case rel => exact ⟨i + 1, m', oc', oa', _, by omega, by omega, by go_num, rfl, HOL2.out, HOB2.out, HL3.out, OX, BX⟩
              case measure => simp [intOf]; omega
      · have d5 : (sy == 16) = false := by simp [h16]
        have hVs : V = sy := HVV.out sy h16 (fun h => absurd h h15) (fun _ => rfl)
        clear HCE HVV g5
        subst hVs
        go_quiet ((first | (go_at_call 39; exact Calls.quiet_of_same (HLO.out _)) | (go_at_call 40; exact Calls.quiet_of_same (HGR.out _))))
        have OD : (wA.drewN nq).ownsRow w.heap.size 3 1 (.slice oa m oc) m (out.map (Value.int .i64)) := OA
        have BD : Below w.heap.size w (wA.drewN nq) := ⟨BA.os, BA.tape, BA.output, BA.size, BA.block⟩
        have cD0 : (wA.drewN nq).cell? ⟨A, 0, none⟩ = some (.int .i64 V) := cA0
        have cD1 : (wA.drewN nq).cell? ⟨A, 1, none⟩ = some (.int .i64 (c : Int)) := cA1
        generalize wA.drewN nq = wD at *
        clear cA0 cA1 OA BA
        go_wp2_with fail
        clear cD0
        go_loopw [4, 8] (fun to tk wq => LnK out V w wq 3 A c (m) to tk) (fun _ tk _ => c - (intOf tk).toNat)
        case atStart => exact ⟨0, m, oc, _, by omega, rfl, rfl, by omega, by rw [List.replicate_zero, List.append_nil]; exact OD, BD, cD1, hap⟩
        case round =>
          clear OD BD cD1 hap
          obtain ⟨k, m', oc', oa', hkc, rfl, rfl, hm', OX, BX, cX, AX⟩ := hrel
          have HMX : Hid (m' = m + k) := hm'
          have hm4 : m' ≤ 458 := by omega
          have hsz := BX.size
          clear hm'
          by_cases hk : k < c
          · have hki : (k : Int) < (c : Int) := by omega
            go_wp2_with (first | (at_builtin; refine wpList_appI rfl (.tmp 71) (.tmp 73) 22 rfl w.heap.size 3 i0 (.int .i64 0) 8 Tryd.underlying22 hi hz0 hz1 hz2 rfl wr _ OX rfl rfl (by omega) (by omega) hsz ?_; intro ga gc w3 own3 hk3 hat3))
            have B3 : Below w.heap.size w w3 := BX.trans (hk3.below (fun q e => (OX.lt q e).1) hsz)
            have c3 := hk3.cellN cX AX
            have hbl := World.block_lt_of_cell? wr _ cX
            have AX3 : (Value.slice (some ⟨ga, 0, none⟩) (m' + 1) gc).ownBlock ≠ some A := fun h => by
              have h2 : ga = A := by simpa [Value.ownBlock] using h
              subst h2
              rcases hat3 with h3 | h3
              · exact AX h3
              · simp only at hbl; omega
            have OW3 : w3.ownsRow w.heap.size 3 1 (.slice (some ⟨ga, 0, none⟩) (m' + 1) gc) (m' + 1) ((out ++ List.replicate (k + 1) V).map (Value.int .i64)) := by rw [List.replicate_succ', ← List.append_assoc]; exact own3
            clear hk3 hat3 AX cX own3
            go_roundw
            case rel => exact ⟨k + 1, m' + 1, gc, _, hk, by go_num, rfl, by rw [HMX.out]; omega, OW3, B3, c3, AX3⟩
            case measure => simp [intOf]; omega
          · have hke : ¬ (k : Int) < (c : Int) := by omega
            obtain rfl : k = c := by omega
            by_cases hbig : 320 < m'
            · have hbi : 320 < (m' : Int) := by omega
              have HF := HNO.out (HG.out.1 (by have := HMX.out; omega))
              clear HNO HG
              go_wp2_with fail
              go_ret2
              exact HF _ BX
            · have hbi : ¬ 320 < (m' : Int) := by omega
              have HL3 : Hid (lens8 R = lng8 (R.drop (i + 1)) (out ++ List.replicate k V)) := HG.out.2 (by have := HMX.out; omega)
              have HOB2 : Hid (∀ z ∈ out ++ List.replicate k V, 0 ≤ z ∧ z ≤ 15) := fun z hz => by
                rcases List.mem_append.1 hz with h | h
                · exact HOB.out z h
                · rw [List.eq_of_mem_replicate h]; exact hVb
              have HOL2 : Hid ((out ++ List.replicate k V).length = m') := by show _ = _; rw [List.length_append, List.length_replicate, HOL.out, HMX.out]
              clear HNO HG HMX
              go_wp2_with fail
              go_roundw
              case rel => exact ⟨i + 1, m', oc', oa', _, by omega, by omega, by go_num, rfl, HOL2.out, HOB2.out, HL3.out, OX, BX⟩
              case measure => simp [intOf]; omega
    · have hge : ¬ (i : Int) < (n : Int) := by omega
      have hE : lens8 R = some out := by
        rw [HLG.out, List.drop_of_length_le (by rw [hn.out]; omega), lng8]
      have HE : Hid (lzs8 R = out ∧ ler8 R = 0) := lzs8_some hE
      clear hE HLG
      go_wp2_with fail
      go_ret2
      rw [HE.out.1, HE.out.2]
      refine ⟨oa, oc, ?_, ?_, BR⟩
      · rw [HOL.out]; rfl
      · rw [HOL.out]; exact OO
end Go.Proofs.YtoeabfcnfofbiaaDoor

namespace Go.Proofs.YtoeabfcnfofbiaaDoor
open Go.RowKit
set_option linter.unusedVariables false

/-! The document's order, short. -/
def ord8 : List Int := [16, 17, 18, 0, 8, 7, 9, 6, 10, 5, 11, 4, 12, 3, 13, 2, 14, 1, 15]
set_option maxRecDepth 100000 in
theorem rorder8 (w : World) : Calls Tryd.prog 49 #[] w fun e w' => e = .returned (.slice (some ⟨w.heap.size, 0, none⟩) 19 19) ∧ w' = w.alloc (.cells (ord8.map (Value.int .i64)).toArray 3) := by
  go_enter Tryd.func49, Tryd.ntmps49
  go_wp2_with fail
  go_ret
  exact ⟨rfl, rfl⟩
/-- How many are left of the first n, without the noughts at their end. -/
def cut8 (zs : List Int) : Nat → Nat
  | 0 => 0
  | n + 1 => if zs.getD n 0 = 0 then cut8 zs n else n + 1
theorem cut8_le (zs : List Int) : ∀ n, cut8 zs n ≤ n
  | 0 => Nat.le_refl _
  | n + 1 => by
    rw [cut8]
    split
    · have := cut8_le zs n; omega
    · omega
def sht8 (zs : List Int) (k : Nat) : List Int := zs.take (cut8 zs zs.length) ++ List.replicate (k - cut8 zs zs.length) 0
def ShQ (w : World) (ty : TypeId) (l : List Int) (e : Ending) (w' : World) : Prop := ∃ oa oc, e = .returned (.slice oa l.length oc) ∧ w'.ownsRow w.heap.size ty 1 (.slice oa l.length oc) l.length (l.map (Value.int .i64)) ∧ Below w.heap.size w w'
def lenOfS : Value → Nat
  | .slice _ n _ => n
  | _ => 0
set_option maxRecDepth 100000 in
set_option maxHeartbeats 4000000 in
theorem rshort8 (zs : List Int) (k : Nat) (a : Option Addr) (n cap : Nat) (hn : Hid (zs.length = n)) (w : World) (hs : SegZ w a zs) (hnil : a = none → cap = 0) (hcap : n ≤ cap) (hl : n ≤ 1073741824) (hk : k ≤ 1073741824) :
    Calls Tryd.prog 47 #[.slice a n cap, .int .i64 (k : Int)] w (ShQ w 3 (sht8 zs k)) := by
  obtain ⟨i0, hi, hz0, hz1, hz2⟩ := info_parts info_int
  have HS : Hid (SegZ w a zs) := hs
  clear hs
  go_enter Tryd.func47, Tryd.ntmps47
  go_wp2_with fail
  go_loopw [5] (fun tn wr => ∃ j : Nat, j ≤ n ∧ tn = .int .i64 (j : Int) ∧ Hid (cut8 zs zs.length = cut8 zs j) ∧ wr = w) (fun tn _ => (intOf tn).toNat)
  case atStart => exact ⟨n, by omega, rfl, (by rw [hn.out] : _ = _), rfl⟩
  case round =>
    obtain ⟨j, hjn, rfl, HC, hwr⟩ := hrel
    subst hwr
    by_cases hgo : 0 < j ∧ zs.getD (j - 1) 0 = 0
    · obtain ⟨hj0, hz⟩ := hgo
      obtain ⟨j, rfl⟩ : ∃ j', j = j' + 1 := ⟨j - 1, by omega⟩
      rw [Nat.add_sub_cancel] at hz
      obtain ⟨b, off, rfl, c0⟩ := (show SegZ wr a zs from HS.out).at_ j (by rw [hn.out]; omega)
      rw [hz] at c0
      have HC2 : Hid (cut8 zs zs.length = cut8 zs j) := by show _ = _; rw [HC.out, cut8, if_pos hz]
      have hj1 : 0 < ((j + 1 : Nat) : Int) := by omega
      clear HC hz
      go_wp2_with fail
      go_roundw
      case rel => exact ⟨j, by omega, by go_num, HC2, trivial⟩
      case measure => simp [intOf]
    · have hst : j = 0 ∨ (0 < j ∧ ¬ zs.getD (j - 1) 0 = 0) := by
        by_cases h : 0 < j
        · exact .inr ⟨h, fun e => hgo ⟨h, e⟩⟩
        · exact .inl (by omega)
      have HJ : Hid (cut8 zs zs.length = j) := by
        show _ = _
        rw [HC.out]
        rcases hst with rfl | ⟨h, hz⟩
        · rfl
        · obtain ⟨j, rfl⟩ : ∃ j', j = j' + 1 := ⟨j - 1, by omega⟩
          rw [Nat.add_sub_cancel] at hz
          rw [cut8, if_neg hz]
      have HLT : Hid ((zs.take j).length = j) := by show _ = _; rw [List.length_take, hn.out]; omega
      have HSH : Hid (sht8 zs k = zs.take j ++ List.replicate (k - j) 0) := by show _ = _; unfold sht8; rw [HJ.out]
      have hm0 : (wr.alloc (.cells #[] 3)).ownsRow wr.heap.size 3 1 (.slice (some ⟨wr.heap.size, 0, none⟩) 0 0) 0 [] := World.ownsRow_made wr #[] 0 (Nat.le_refl _) (by decide) rfl
      have hb0 : Below wr.heap.size wr (wr.alloc (.cells #[] 3)) := (Below.refl _ _).alloc (Nat.le_refl _) _
      have HS2 : Hid (SegZ (wr.alloc (.cells #[] 3)) a (zs.take j)) := ((show SegZ wr a zs from HS.out).take j).alloc _
      have hjc : (j : Int) ≤ (cap : Int) := by omega
      have HCE : Hid (0 < j ∧ ¬ zs.getD (j - 1) 0 = 0 → ∃ b off c, a = some ⟨b, off, none⟩ ∧ (c == (0 : Int)) = false ∧ wr.cell? ⟨b, off + (j - 1), none⟩ = some (.int .i64 c)) := fun h => by
        obtain ⟨b, off, ha, c0⟩ := (show SegZ wr a zs from HS.out).at_ (j - 1) (by rw [hn.out]; omega)
        exact ⟨b, off, _, ha, by simpa using h.2, c0⟩
      clear HC HJ hgo HS
      rcases hst with rfl | h
      · cases a with
        | none =>
          have hc0 := hnil rfl
          subst hc0
          clear HCE
          go_wp2_with (at_builtin; refine wpList_appZ rfl (.tmp 21) (.tmp 24) 22 rfl wr.heap.size 3 i0 (.int .i64 0) 8 Tryd.underlying22 hi hz0 hz1 hz2 rfl hm0 HS2.out (fun _ => rfl) rfl (by rw [HLT.out]; rfl) (by rw [HLT.out]; omega) (by rw [HLT.out]; omega) (by simp) ?_; intro oa2 oc2 w2 O2 hg2 hf2 hn2; have b2 := hb0.trans (below_own hm0 hg2 (by simp)); clear hf2 hn2 hg2; rw [Nat.zero_add, List.nil_append, HLT.out] at O2; rw [Nat.zero_add, HLT.out])
          clear hm0 hb0 HS2
          go_loopw [6] (fun to wq => ∃ (m oc : Nat) (oa : Option Addr), 0 ≤ m ∧ (m ≤ k ∨ m = 0) ∧ to = .slice oa m oc ∧ wq.ownsRow wr.heap.size 3 1 (.slice oa m oc) m ((zs.take (0) ++ List.replicate (m - (0)) 0).map (Value.int .i64)) ∧ Below wr.heap.size wr wq) (fun to _ => k - (lenOfS to))
          case atStart => exact ⟨0, oc2, oa2, by omega, .inr rfl, rfl, by rw [Nat.sub_self, List.replicate_zero, List.append_nil]; exact O2, b2⟩
          case round =>
            clear O2 b2
            obtain ⟨m, oc, oa, hm1, hm2, rfl, OX, BX⟩ := hrel
            have hsz := BX.size
            by_cases hmk : m < k
            · have hmki : (m : Int) < (k : Int) := by omega
              go_wp2_with (first | (at_builtin; refine wpList_appI rfl (.tmp 30) (.tmp 31) 22 rfl _ 3 i0 (.int .i64 0) 8 Tryd.underlying22 hi hz0 hz1 hz2 rfl _ _ OX rfl rfl (by omega) (by omega) hsz ?_; intro ga gc w3 own3 hk3 hat3))
              have B3 := BX.trans (hk3.below (fun q e => (OX.lt q e).1) hsz)
              rw [List.append_assoc, ← List.replicate_succ', show m - (0) + 1 = m + 1 - (0) by omega] at own3
              clear hk3 hat3 OX
              go_roundw
              case rel => exact ⟨m + 1, gc, _, by omega, .inl (by omega), rfl, own3, B3⟩
              case measure => simp [lenOfS]; omega
            · have hmki : ¬ (m : Int) < (k : Int) := by omega
              have HE : Hid (sht8 zs k = zs.take (0) ++ List.replicate (m - (0)) 0) := by show _ = _; rw [HSH.out, show k - (0) = m - (0) by omega]
              have HL : Hid ((sht8 zs k).length = m) := by show _ = _; rw [HE.out, List.length_append, HLT.out, List.length_replicate]; omega
              rw [← HE.out] at OX
              go_wp2_with fail
              go_ret
              refine ⟨oa, oc, ?_, ?_, BX⟩
              · rw [HL.out]; rfl
              · rw [HL.out]; exact OX
        | some x =>
          clear HCE
          go_wp2_with (at_builtin; refine wpList_appZ rfl (.tmp 21) (.tmp 24) 22 rfl wr.heap.size 3 i0 (.int .i64 0) 8 Tryd.underlying22 hi hz0 hz1 hz2 rfl hm0 HS2.out (by intro h; cases h) rfl (by rw [HLT.out]; rfl) (by rw [HLT.out]; omega) (by rw [HLT.out]; omega) (by simp) ?_; intro oa2 oc2 w2 O2 hg2 hf2 hn2; have b2 := hb0.trans (below_own hm0 hg2 (by simp)); clear hf2 hn2 hg2; rw [Nat.zero_add, List.nil_append, HLT.out] at O2; rw [Nat.zero_add, HLT.out])
          clear hm0 hb0 HS2
          go_loopw [6] (fun to wq => ∃ (m oc : Nat) (oa : Option Addr), 0 ≤ m ∧ (m ≤ k ∨ m = 0) ∧ to = .slice oa m oc ∧ wq.ownsRow wr.heap.size 3 1 (.slice oa m oc) m ((zs.take (0) ++ List.replicate (m - (0)) 0).map (Value.int .i64)) ∧ Below wr.heap.size wr wq) (fun to _ => k - (lenOfS to))
          case atStart => exact ⟨0, oc2, oa2, by omega, .inr rfl, rfl, by rw [Nat.sub_self, List.replicate_zero, List.append_nil]; exact O2, b2⟩
          case round =>
            clear O2 b2
            obtain ⟨m, oc, oa, hm1, hm2, rfl, OX, BX⟩ := hrel
            have hsz := BX.size
            by_cases hmk : m < k
            · have hmki : (m : Int) < (k : Int) := by omega
              go_wp2_with (first | (at_builtin; refine wpList_appI rfl (.tmp 30) (.tmp 31) 22 rfl _ 3 i0 (.int .i64 0) 8 Tryd.underlying22 hi hz0 hz1 hz2 rfl _ _ OX rfl rfl (by omega) (by omega) hsz ?_; intro ga gc w3 own3 hk3 hat3))
              have B3 := BX.trans (hk3.below (fun q e => (OX.lt q e).1) hsz)
              rw [List.append_assoc, ← List.replicate_succ', show m - (0) + 1 = m + 1 - (0) by omega] at own3
              clear hk3 hat3 OX
              go_roundw
              case rel => exact ⟨m + 1, gc, _, by omega, .inl (by omega), rfl, own3, B3⟩
              case measure => simp [lenOfS]; omega
            · have hmki : ¬ (m : Int) < (k : Int) := by omega
              have HE : Hid (sht8 zs k = zs.take (0) ++ List.replicate (m - (0)) 0) := by show _ = _; rw [HSH.out, show k - (0) = m - (0) by omega]
              have HL : Hid ((sht8 zs k).length = m) := by show _ = _; rw [HE.out, List.length_append, HLT.out, List.length_replicate]; omega
              rw [← HE.out] at OX
              go_wp2_with fail
              go_ret
              refine ⟨oa, oc, ?_, ?_, BX⟩
              · rw [HL.out]; rfl
              · rw [HL.out]; exact OX
      · obtain ⟨b, off, c, rfl, hcb, c0⟩ := HCE.out h
        obtain ⟨j, rfl⟩ : ∃ j', j = j' + 1 := ⟨j - 1, by omega⟩
        rw [Nat.add_sub_cancel] at c0
        clear HCE h
        have hj1 : 0 < ((j + 1 : Nat) : Int) := by omega
        go_wp2_with (at_builtin; refine wpList_appZ rfl (.tmp 21) (.tmp 24) 22 rfl wr.heap.size 3 i0 (.int .i64 0) 8 Tryd.underlying22 hi hz0 hz1 hz2 rfl hm0 HS2.out (by intro h; cases h) rfl (by rw [HLT.out]; rfl) (by rw [HLT.out]; omega) (by rw [HLT.out]; omega) (by simp) ?_; intro oa2 oc2 w2 O2 hg2 hf2 hn2; have b2 := hb0.trans (below_own hm0 hg2 (by simp)); clear hf2 hn2 hg2; rw [Nat.zero_add, List.nil_append, HLT.out] at O2; rw [Nat.zero_add, HLT.out])
        clear hm0 hb0 HS2
        go_loopw [6] (fun to wq => ∃ (m oc : Nat) (oa : Option Addr), j + 1 ≤ m ∧ (m ≤ k ∨ m = j + 1) ∧ to = .slice oa m oc ∧ wq.ownsRow wr.heap.size 3 1 (.slice oa m oc) m ((zs.take (j + 1) ++ List.replicate (m - (j + 1)) 0).map (Value.int .i64)) ∧ Below wr.heap.size wr wq) (fun to _ => k - (lenOfS to))
        case atStart => exact ⟨j + 1, oc2, oa2, by omega, .inr rfl, rfl, by rw [Nat.sub_self, List.replicate_zero, List.append_nil]; exact O2, b2⟩
        case round =>
          clear O2 b2
          obtain ⟨m, oc, oa, hm1, hm2, rfl, OX, BX⟩ := hrel
          have hsz := BX.size
          by_cases hmk : m < k
          · have hmki : (m : Int) < (k : Int) := by omega
            go_wp2_with (first | (at_builtin; refine wpList_appI rfl (.tmp 30) (.tmp 31) 22 rfl _ 3 i0 (.int .i64 0) 8 Tryd.underlying22 hi hz0 hz1 hz2 rfl _ _ OX rfl rfl (by omega) (by omega) hsz ?_; intro ga gc w3 own3 hk3 hat3))
            have B3 := BX.trans (hk3.below (fun q e => (OX.lt q e).1) hsz)
            rw [List.append_assoc, ← List.replicate_succ', show m - (j + 1) + 1 = m + 1 - (j + 1) by omega] at own3
            clear hk3 hat3 OX
            go_roundw
            case rel => exact ⟨m + 1, gc, _, by omega, .inl (by omega), rfl, own3, B3⟩
            case measure => simp [lenOfS]; omega
          · have hmki : ¬ (m : Int) < (k : Int) := by omega
            have HE : Hid (sht8 zs k = zs.take (j + 1) ++ List.replicate (m - (j + 1)) 0) := by show _ = _; rw [HSH.out, show k - (j + 1) = m - (j + 1) by omega]
            have HL : Hid ((sht8 zs k).length = m) := by show _ = _; rw [HE.out, List.length_append, HLT.out, List.length_replicate]; omega
            rw [← HE.out] at OX
            go_wp2_with fail
            go_ret
            refine ⟨oa, oc, ?_, ?_, BX⟩
            · rw [HL.out]; rfl
            · rw [HL.out]; exact OX
end Go.Proofs.YtoeabfcnfofbiaaDoor

namespace Go.Proofs.YtoeabfcnfofbiaaDoor
open Go.RowKit
set_option linter.unusedVariables false

/-! The document's Told, over any reckoning of Check (ck: errC of CdC, by rcheck5_any of CdR). -/
def tld8 (ck : List Int → Int) (lit dist : List Int) : Prop := 257 ≤ lit.length ∧ lit.length ≤ 286 ∧ dist.length ≤ 30 ∧ ck lit = 0 ∧ ck dist = 0 ∧ lit.getD 256 0 ≠ 0
instance (ck : List Int → Int) (lit dist : List Int) : Decidable (tld8 ck lit dist) := by unfold tld8; infer_instance
/-- What Check answers at one list. -/
structure Chk8 (w : World) (a : Option Addr) (n ca : Nat) (v : Int) : Prop where
  out : Calls Tryd.prog 74 #[.slice a n ca] w fun e w' => e = .returned (.int .i64 v) ∧ w' = w
set_option maxRecDepth 100000 in
set_option maxHeartbeats 4000000 in
theorem rtold8 (ck : List Int → Int) (HCK : Hid (∀ (a : Option Addr) (zs : List Int) (n cap : Nat) (w : World), zs.length = n → SegZ w a zs → n ≤ 288 → Calls Tryd.prog 74 #[.slice a n cap] w fun e w' => e = .returned (.int .i64 (ck zs)) ∧ w' = w))
    (xs ys : List Int) (a b : Option Addr) (n m ca cb : Nat) (hn : Hid (xs.length = n)) (hm : Hid (ys.length = m)) (w : World) (hx : SegZ w a xs) (hy : SegZ w b ys) :
    Calls Tryd.prog 46 #[.slice a n ca, .slice b m cb] w fun e w' => e = .returned (.bool (decide (tld8 ck xs ys))) ∧ w' = w := by
  have HX : Hid (SegZ w a xs) := hx
  have HY : Hid (SegZ w b ys) := hy
  have HT : Hid (tld8 ck xs ys ↔ 257 ≤ n ∧ n ≤ 286 ∧ m ≤ 30 ∧ ck xs = 0 ∧ ck ys = 0 ∧ xs.getD 256 0 ≠ 0) := by
    unfold tld8
    rw [hn.out, hm.out]
    exact Iff.rfl
  clear hx hy
  by_cases h1 : n ≤ 256
  · have h1i : (n : Int) ≤ 256 := by omega
    have HF : Hid (decide (tld8 ck xs ys) = false) := by
      show _ = _
      simp only [decide_eq_false_iff_not]
      intro h
      have := HT.out.1 h
      omega
    go_enter Tryd.func46, Tryd.ntmps46
    go_wp2_with fail
    go_ret
    exact ⟨by rw [HF.out]; rfl, rfl⟩
  have h1i : ¬ (n : Int) ≤ 256 := by omega
  by_cases h2 : 286 < n
  · have h2i : 286 < (n : Int) := by omega
    have HF : Hid (decide (tld8 ck xs ys) = false) := by
      show _ = _
      simp only [decide_eq_false_iff_not]
      intro h
      have := HT.out.1 h
      omega
    go_enter Tryd.func46, Tryd.ntmps46
    go_wp2_with fail
    go_ret
    exact ⟨by rw [HF.out]; rfl, rfl⟩
  have h2i : ¬ 286 < (n : Int) := by omega
  by_cases h3 : 30 < m
  · have h3i : 30 < (m : Int) := by omega
    have HF : Hid (decide (tld8 ck xs ys) = false) := by
      show _ = _
      simp only [decide_eq_false_iff_not]
      intro h
      have := HT.out.1 h
      omega
    go_enter Tryd.func46, Tryd.ntmps46
    go_wp2_with fail
    go_ret
    exact ⟨by rw [HF.out]; rfl, rfl⟩
  have h3i : ¬ 30 < (m : Int) := by omega
  have HC1 : Chk8 w a n ca (ck xs) := ⟨HCK.out a xs n ca w hn.out HX.out (by omega)⟩
  have HC2 : Chk8 w b m cb (ck ys) := ⟨HCK.out b ys m cb w hm.out HY.out (by omega)⟩
  have HCA : Hid (∀ a n ca v, Chk8 w a n ca v → Calls Tryd.prog 74 #[.slice a n ca] w fun e w' => e = .returned (.int .i64 v) ∧ w' = w) := fun _ _ _ _ h => h.out
  clear HCK
  obtain ⟨bx, ox, rfl, c0⟩ := (show SegZ w a xs from HX.out).at_ 256 (by rw [hn.out]; omega)
  generalize xs.getD 256 0 = z at *
  have HR : Hid (decide (tld8 ck xs ys) = (decide (ck xs = 0) && decide (ck ys = 0) && decide (z ≠ 0))) := by
    show _ = _
    rw [Bool.eq_iff_iff]
    simp only [decide_eq_true_eq, Bool.and_eq_true]
    rw [HT.out]
    constructor
    · rintro ⟨_, _, _, g1, g2, g3⟩; exact ⟨⟨g1, g2⟩, g3⟩
    · rintro ⟨⟨g1, g2⟩, g3⟩; exact ⟨by omega, by omega, by omega, g1, g2, g3⟩
  clear HT
  generalize ck xs = e1 at *
  generalize ck ys = e2 at *
  by_cases g1 : e1 = 0
  · subst g1
    by_cases g2 : e2 = 0
    · subst g2
      by_cases g3 : z = 0
      · subst g3
        go_enter Tryd.func46, Tryd.ntmps46
        go_wp2_with (first | (go_at_call 74; refine (HCA.out _ _ _ _ (by assumption)).mono ?_; rintro e w1 ⟨rfl, hw1⟩; subst w1))
        go_ret
        exact ⟨by rw [HR.out]; rfl, rfl⟩
      · have g3b : (z == 0) = false := by simp [g3]
        go_enter Tryd.func46, Tryd.ntmps46
        go_wp2_with (first | (go_at_call 74; refine (HCA.out _ _ _ _ (by assumption)).mono ?_; rintro e w1 ⟨rfl, hw1⟩; subst w1))
        go_ret
        exact ⟨by rw [HR.out]; simp [g3], rfl⟩
    · have g2b : (e2 == 0) = false := by simp [g2]
      go_enter Tryd.func46, Tryd.ntmps46
      go_wp2_with (first | (go_at_call 74; refine (HCA.out _ _ _ _ (by assumption)).mono ?_; rintro e w1 ⟨rfl, hw1⟩; subst w1))
      go_ret
      exact ⟨by rw [HR.out]; simp [g2], rfl⟩
  · have g1b : (e1 == 0) = false := by simp [g1]
    go_enter Tryd.func46, Tryd.ntmps46
    go_wp2_with (first | (go_at_call 74; refine (HCA.out _ _ _ _ (by assumption)).mono ?_; rintro e w1 ⟨rfl, hw1⟩; subst w1))
    go_ret
    exact ⟨by rw [HR.out]; simp [g1], rfl⟩
end Go.Proofs.YtoeabfcnfofbiaaDoor

namespace Go.Proofs.YtoeabfcnfofbiaaDoor
set_option linter.unusedVariables false

/-! Bits as lists: the lowest first. -/
/-- The n low bits of v. -/
def bN (v : Nat) : Nat → List Bool
  | 0 => []
  | n + 1 => v.testBit 0 :: bN (v / 2) n
/-- The number of these bits. -/
def num : List Bool → Nat
  | [] => 0
  | b :: r => b.toNat + 2 * num r

theorem bN_len (v n : Nat) : (bN v n).length = n := by
  induction n generalizing v with
  | zero => rfl
  | succ n ih => simp [bN, ih]
theorem num_lt (L : List Bool) : num L < 2 ^ L.length := by
  induction L with
  | nil => simp [num]
  | cons b r ih =>
    have hb : b.toNat < 2 := Bool.toNat_lt b
    simp only [num, List.length_cons, Nat.pow_succ]
    omega
theorem num_append (L M : List Bool) : num (L ++ M) = num L + 2 ^ L.length * num M := by
  induction L with
  | nil => simp [num]
  | cons b r ih =>
    simp only [List.cons_append, num, List.length_cons, Nat.pow_succ, ih, Nat.mul_add, Nat.add_assoc]
    rw [Nat.mul_comm (2 ^ r.length) 2, Nat.mul_assoc]
theorem bit0 (v : Nat) : (v.testBit 0).toNat = v % 2 := by
  rw [Nat.testBit_zero]
  rcases Nat.mod_two_eq_zero_or_one v with h | h <;> simp [h]
theorem num_bN (v n : Nat) : num (bN v n) = v % 2 ^ n := by
  induction n generalizing v with
  | zero => simp [bN, num, Nat.mod_one]
  | succ n ih =>
    simp only [bN, num, ih, bit0]
    rw [Nat.pow_succ, Nat.mul_comm (2 ^ n) 2, Nat.mod_mul]
theorem num_bN_lt {v n : Nat} (h : v < 2 ^ n) : num (bN v n) = v := by rw [num_bN, Nat.mod_eq_of_lt h]
theorem num_low (b : Bool) (L : List Bool) : (num (b :: L)).testBit 0 = b := by
  have hb : b.toNat < 2 := Bool.toNat_lt b
  rw [Nat.testBit_zero]
  simp only [num]
  cases b <;> simp <;> omega
theorem num_half (b : Bool) (L : List Bool) : num (b :: L) / 2 = num L := by
  have hb : b.toNat < 2 := Bool.toNat_lt b
  simp only [num]
  omega
theorem bN_num (L : List Bool) : bN (num L) L.length = L := by
  induction L with
  | nil => rfl
  | cons b r ih => simp only [List.length_cons, bN, num_low, num_half, ih]
theorem bN_num' {L : List Bool} {n : Nat} (h : L.length = n) : bN (num L) n = L := by subst h; exact bN_num L
theorem num_inj {L M : List Bool} (hl : L.length = M.length) (h : num L = num M) : L = M := by rw [← bN_num L, ← bN_num M, hl, h]
theorem bN_add (v n m : Nat) : bN v (n + m) = bN v n ++ bN (v / 2 ^ n) m := by
  induction n generalizing v with
  | zero => simp [bN]
  | succ n ih =>
    rw [Nat.add_right_comm]
    simp only [bN, List.cons_append, ih]
    rw [Nat.div_div_eq_div_mul, Nat.pow_succ, Nat.mul_comm 2]
theorem bN_mod (v n : Nat) : bN (v % 2 ^ n) n = bN v n := by
  rw [← num_bN v n]
  exact bN_num' (bN_len v n)
theorem bN_get (v n i : Nat) (h : i < n) : (bN v n)[i]? = some (v.testBit i) := by
  induction n generalizing v i with
  | zero => omega
  | succ n ih =>
    cases i with
    | zero => simp [bN]
    | succ i =>
      simp only [bN, List.getElem?_cons_succ]
      rw [ih (v / 2) i (by omega), Nat.testBit_succ]
theorem bN_succ (v n : Nat) : bN v (n + 1) = bN v n ++ [v.testBit n] := by
  rw [bN_add]
  simp only [bN, Nat.testBit_div_two_pow, Nat.zero_add]
theorem bN_take (v n m : Nat) (h : m ≤ n) : (bN v n).take m = bN v m := by
  obtain ⟨k, rfl⟩ := Nat.exists_eq_add_of_le h
  rw [bN_add, List.take_left' (bN_len v m)]
theorem bN_drop (v n m : Nat) (h : m ≤ n) : (bN v n).drop m = bN (v / 2 ^ m) (n - m) := by
  obtain ⟨k, rfl⟩ := Nat.exists_eq_add_of_le h
  rw [bN_add, List.drop_left' (bN_len v m), Nat.add_sub_cancel_left]
theorem bN_take_num (L : List Bool) (n : Nat) (h : n ≤ L.length) : bN (num L) n = L.take n := by
  have := bN_take (num L) L.length n h
  rw [bN_num] at this
  exact this.symm
theorem num_take (L : List Bool) (n : Nat) (h : n ≤ L.length) : num (L.take n) = num L % 2 ^ n := by
  rw [← bN_take_num L n h, num_bN]
theorem num_drop (L : List Bool) (n : Nat) (h : n ≤ L.length) : num (L.drop n) = num L / 2 ^ n := by
  have := bN_drop (num L) L.length n h
  rw [bN_num] at this
  rw [this, num_bN, Nat.mod_eq_of_lt]
  have h2 := num_lt L
  rw [Nat.div_lt_iff_lt_mul (Nat.two_pow_pos n), ← Nat.pow_add]
  rwa [Nat.sub_add_cancel h]
theorem num_snoc (L : List Bool) (b : Bool) : num (L ++ [b]) = num L + 2 ^ L.length * b.toNat := by
  rw [num_append]; simp [num]
theorem num_replicate (n : Nat) : num (List.replicate n false) = 0 := by
  induction n with
  | zero => rfl
  | succ n ih => simp [List.replicate_succ, num, ih]
theorem bN_zero (n : Nat) : bN 0 n = List.replicate n false := by
  rw [← num_replicate n]
  exact bN_num' (by simp)

/-- The bits of bytes. -/
def bB : List Int → List Bool
  | [] => []
  | z :: r => bN z.toNat 8 ++ bB r
theorem bB_len (zs : List Int) : (bB zs).length = 8 * zs.length := by
  induction zs with
  | nil => rfl
  | cons z r ih => simp [bB, bN_len, ih]; omega
theorem bB_append (xs ys : List Int) : bB (xs ++ ys) = bB xs ++ bB ys := by
  induction xs with
  | nil => rfl
  | cons z r ih => simp [bB, ih]
theorem bB_one (z : Int) : bB [z] = bN z.toNat 8 := by simp [bB]

/-- Bits as bytes; noughts up to a byte's end. -/
def toB (L : List Bool) : List Int := (List.range ((L.length + 7) / 8)).map fun j => (num ((L.drop (8 * j)).take 8) : Int)

theorem toB_nil : toB [] = [] := rfl
theorem toB_eq {L : List Bool} (h : 0 < L.length) : toB L = (num (L.take 8) : Int) :: toB (L.drop 8) := by
  have e : (L.length + 7) / 8 = ((L.drop 8).length + 7) / 8 + 1 := by rw [List.length_drop]; omega
  unfold toB
  rw [e, List.range_succ_eq_map, List.map_cons, List.map_map]
  simp only [Nat.mul_zero, List.drop_zero, List.drop_drop]
  congr 1
  apply List.map_congr_left
  intro j _
  simp only [Function.comp_apply, Nat.mul_succ, Nat.add_comm]
theorem toB_len (L : List Bool) : (toB L).length = (L.length + 7) / 8 := by
  generalize hn : L.length = n
  induction n using Nat.strongRecOn generalizing L with
  | _ n ih =>
    by_cases h : 0 < L.length
    · rw [toB_eq h, List.length_cons, ih (L.length - 8) (by omega) (L.drop 8) (by simp)]
      omega
    · have : L = [] := List.eq_nil_of_length_eq_zero (by omega)
      subst this
      simp [toB_nil] at hn ⊢
      omega
theorem toB_bd (L : List Bool) : ∀ z ∈ toB L, 0 ≤ z ∧ z ≤ 255 := by
  generalize hn : L.length = n
  induction n using Nat.strongRecOn generalizing L with
  | _ n ih =>
    by_cases h : 0 < L.length
    · rw [toB_eq h]
      intro z hz
      rw [List.mem_cons] at hz
      rcases hz with rfl | hz
      · have h1 := num_lt (L.take 8)
        have h2 : (2 : Nat) ^ (L.take 8).length ≤ 2 ^ 8 := Nat.pow_le_pow_right (by decide) (by simp; omega)
        omega
      · exact ih (L.length - 8) (by omega) (L.drop 8) (by simp) z hz
    · have : L = [] := List.eq_nil_of_length_eq_zero (by omega)
      subst this
      simp [toB_nil]
theorem toB_head {L M : List Bool} (h : L.length = 8) : toB (L ++ M) = (num L : Int) :: toB M := by
  rw [toB_eq (by simp; omega), List.take_left' h, List.drop_left' h]
theorem toB_bB {zs : List Int} (h : ∀ z ∈ zs, 0 ≤ z ∧ z ≤ 255) (M : List Bool) : toB (bB zs ++ M) = zs ++ toB M := by
  induction zs with
  | nil => rfl
  | cons z r ih =>
    have hz := h z (by simp)
    simp only [bB, List.append_assoc, List.cons_append]
    rw [toB_head (bN_len _ _), ih (fun y hy => h y (by simp [hy])), num_bN_lt (by omega)]
    simp [Int.toNat_of_nonneg hz.1]
theorem bN_take_all {v n m : Nat} (h : n ≤ m) : (bN v n).take m = bN v n := List.take_of_length_le (by rw [bN_len]; exact h)
theorem toB_rest {r c : Nat} (h : r < 2 ^ c) (hc : c < 8) : toB (bN r c) = if 0 < c then [(r : Int)] else [] := by
  by_cases h0 : 0 < c
  · rw [if_pos h0, toB_eq (by rw [bN_len]; exact h0), bN_take_all (by omega), num_bN_lt h]
    rw [List.drop_of_length_le (by rw [bN_len]; omega), toB_nil]
  · rw [if_neg h0]
    obtain rfl : c = 0 := by omega
    exact toB_nil
theorem bB_toB {L : List Bool} : ∃ k, k < 8 ∧ bB (toB L) = L ++ List.replicate k false := by
  generalize hn : L.length = n
  induction n using Nat.strongRecOn generalizing L with
  | _ n ih =>
    by_cases h : 8 ≤ L.length
    · obtain ⟨k, hk, he⟩ := ih (L.length - 8) (by omega) (L := L.drop 8) (by simp)
      refine ⟨k, hk, ?_⟩
      rw [toB_eq (by omega)]
      simp only [bB, Int.toNat_natCast]
      rw [he, bN_num' (by simp; omega), ← List.append_assoc, List.take_append_drop]
    · by_cases h0 : 0 < L.length
      · refine ⟨8 - L.length, by omega, ?_⟩
        rw [toB_eq h0, List.take_of_length_le (by omega), List.drop_of_length_le (by omega), toB_nil]
        simp only [bB, Int.toNat_natCast, List.append_nil]
        have e : 8 = L.length + (8 - L.length) := by omega
        rw [show bN (num L) 8 = bN (num L) (L.length + (8 - L.length)) by rw [← e], bN_add, bN_num, Nat.div_eq_of_lt (num_lt L), bN_zero]
      · have : L = [] := List.eq_nil_of_length_eq_zero (by omega)
        subst this
        exact ⟨0, by decide, by simp [toB_nil, bB]⟩

/-- A byte of the bits. -/
theorem toB_get (L : List Bool) (j : Nat) (h : j < (toB L).length) : (toB L)[j]? = some (num ((L.drop (8 * j)).take 8) : Int) := by
  induction j generalizing L with
  | zero =>
    rw [toB_len] at h
    rw [toB_eq (by omega)]; simp
  | succ j ih =>
    rw [toB_len] at h
    rw [toB_eq (by omega), List.getElem?_cons_succ, ih (L.drop 8) (by rw [toB_len]; simp; omega), List.drop_drop]
    rw [show 8 + 8 * j = 8 * (j + 1) by omega]

theorem rev_len (v n : Nat) : (bN v n).reverse.length = n := by rw [List.length_reverse, bN_len]
theorem rev_get (v n i : Nat) (h : i < n) : (bN v n).reverse[i]? = some (v.testBit (n - 1 - i)) := by
  rw [List.getElem?_reverse (by rw [bN_len]; exact h), bN_len, bN_get _ _ _ (by omega)]
theorem rev_succ (v i : Nat) : num (bN v (i + 1)).reverse = (v / 2 ^ i) % 2 + 2 * num (bN v i).reverse := by
  rw [bN_succ, List.reverse_append]
  simp only [List.reverse_cons, List.reverse_nil, List.nil_append, List.singleton_append, num]
  rw [← bit0, Nat.testBit_div_two_pow, Nat.zero_add]
theorem num_take_succ (R : List Bool) (i : Nat) (h : i < R.length) : num (R.take (i + 1)) = num (R.take i) + 2 ^ i * R[i].toNat := by
  rw [List.take_succ_eq_append_getElem h, num_snoc]
  simp only [List.length_take]
  rw [Nat.min_eq_left (by omega)]
theorem num_take_lt (R : List Bool) (i : Nat) : num (R.take i) < 2 ^ i := by
  have h1 := num_lt (R.take i)
  have h2 : (2 : Nat) ^ (R.take i).length ≤ 2 ^ i := Nat.pow_le_pow_right (by decide) (by simp; omega)
  omega
end Go.Proofs.YtoeabfcnfofbiaaDoor
