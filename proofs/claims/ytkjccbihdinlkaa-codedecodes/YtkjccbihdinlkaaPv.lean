import Derived.Test.YtkjccbihdinlkaaPu
import Derived.Deep.RegionHeld3
namespace Go.Proofs.Ytkjccbihdinlkaa
open Go.RowKit
set_option linter.unusedVariables false

theorem five_cells {w : World} {b : Nat} {x0 x1 x2 x3 x4 : Value} {T : TypeId} (h : w.heap[b]? = some (.cells #[x0, x1, x2, x3, x4] T (0, 0))) : w.cell? ⟨b, 0, none⟩ = some x0 ∧ w.cell? ⟨b, 1, none⟩ = some x1 ∧ w.cell? ⟨b, 2, none⟩ = some x2 ∧ w.cell? ⟨b, 3, none⟩ = some x3 ∧ w.cell? ⟨b, 4, none⟩ = some x4 := by simp [World.cell?, h]
/-- Below the objects of the law nothing changes. -/
theorem DI.size {wr : World} {bd br bx B S : Nat} {zs : List Int} {lv u : Value} {H : List Bool} {t : Nat} (h : DI wr bd br bx B S zs lv u H t) : B ≤ wr.heap.size := by
  obtain ⟨a, c, _, r⟩ := h.x
  exact r.bB

set_option maxRecDepth 100000 in
set_option maxHeartbeats 16000000 in
theorem codeDecodes_walk (w : World) (sy : Int) (hsy0 : -9223372036854775808 ≤ sy) (hsy1 : sy ≤ 9223372036854775807) (a : Option Addr) (n cap : Nat) (O : Nat → OpD) (hs : SegD w a n O) (hn : n * 72 ≤ 140737488351232) (hP : ∀ i, i < n → (O i).p.length ≤ 140737488351232 ∧ (O i).ls.length * 8 ≤ 140737488351232) :
    Calls Try.prog 6 #[.int .i64 sy, .slice a n cap] w fun e w' => e = .returned (.bool true) ∧ Below w.heap.size w w' := by
  obtain ⟨i0, hi, hz0, hz1, hz2⟩ := info_parts info_int
  by_cases hsy : sy < 1 ∨ 288 < sy
  · have key : sy < 1 ∨ ¬ sy < 1 ∧ 288 < sy := by omega
    clear hsy
    have CN : Hid (sy < 1 ∨ 288 < sy → Calls Try.prog 27 #[.int .i64 sy] w fun e w' => e = .returned (.tuple #[.pointer none, .int .i64 1]) ∧ w' = w) := fun h => newDec_no sy h w
    rcases key with h1 | ⟨h1, h2⟩
    · have C := CN.out (.inl h1)
      go_enter Try.func6, Try.ntmps6
      go_wp2_with fail
      refine C.mono ?_
      rintro e w1 ⟨rfl, hw1⟩
      subst w1
      go_wp2_with fail
      refine (lives5_any _).mono ?_
      rintro e wv ⟨rfl, bv⟩
      go_wp2
      go_ret
      exact ⟨rfl, bv⟩
    · have C := CN.out (.inr h2)
      go_enter Try.func6, Try.ntmps6
      go_wp2_with fail
      refine C.mono ?_
      rintro e w1 ⟨rfl, hw1⟩
      subst w1
      go_wp2_with fail
      refine (lives5_any _).mono ?_
      rintro e wv ⟨rfl, bv⟩
      go_wp2
      go_ret
      exact ⟨rfl, bv⟩
  · obtain ⟨S, rfl⟩ : ∃ S : Nat, sy = S := ⟨sy.toNat, by omega⟩
    have hS1 : 1 ≤ S := by omega
    have hS2 : S ≤ 288 := by omega
    have hS1i : ¬ (S : Int) < 1 := by omega
    have hS2i : ¬ (288 : Int) < (S : Int) := by omega
    clear hsy hsy0 hsy1
    go_enter Try.func6, Try.ntmps6
    go_wp2_with fail
    refine (newDec_any S hS1 hS2 w).mono ?_
    rintro e w1 ⟨rfl, hw1⟩
    have hd1 : w1.heap[w.heap.size]? = some (.cells (arr (dl S [] Z288)) 95 (0, 0)) := by rw [hw1]; exact heap_alloc_new w _
    have B1 : Below w.heap.size w w1 := by rw [hw1]; exact (Below.refl _ _).alloc (Nat.le_refl _) _
    have z1 : w1.heap.size = w.heap.size + 1 := by rw [hw1]; simp
    have D1 : De w1 w.heap.size S [] := De.new hS1 hS2 hd1
    obtain ⟨bd, hbd⟩ : ∃ bd, bd = w.heap.size := ⟨_, rfl⟩
    rw [← hbd] at D1 z1 ⊢
    have HBD : Hid (bd = w.heap.size) := hbd
    clear hw1 hd1 hbd
    have CR := room_any bd S [] w1 D1
    go_wp2_with fail
    refine CR.mono ?_
    rintro e w1' ⟨rfl, hw1⟩
    subst w1'
    have hr2 := heap_new w1 (.cells #[.int .u64 0, .int .i64 0, .int .i64 0] 63)
    have b2 : Below w1.heap.size w1 (w1.alloc (.cells #[.int .u64 0, .int .i64 0, .int .i64 0] 63)) := (Below.refl _ _).alloc (Nat.le_refl _) _
    have z2 : (w1.alloc (.cells #[.int .u64 0, .int .i64 0, .int .i64 0] 63)).heap.size = w1.heap.size + 1 := by simp
    go_wp2_with fail
    generalize w1.alloc (.cells #[.int .u64 0, .int .i64 0, .int .i64 0] 63) = w2 at *
    have hx3 := heap_new w2 (.cells #[.slice none 0 0, .int .i64 0] 65)
    have b3 : Below w2.heap.size w2 (w2.alloc (.cells #[.slice none 0 0, .int .i64 0] 65)) := (Below.refl _ _).alloc (Nat.le_refl _) _
    have z3 : (w2.alloc (.cells #[.slice none 0 0, .int .i64 0] 65)).heap.size = w2.heap.size + 1 := by simp
    generalize w2.alloc (.cells #[.slice none 0 0, .int .i64 0] 65) = wx at *
    obtain ⟨br, hbr⟩ : ∃ br, br = bd + 1 := ⟨_, rfl⟩
    obtain ⟨bx, hbx⟩ : ∃ bx, bx = br + 1 := ⟨_, rfl⟩
    obtain ⟨B, hB⟩ : ∃ B, B = bx + 1 := ⟨_, rfl⟩
    have s1 : w1.heap.size = br := by omega
    have s2 : w2.heap.size = bx := by omega
    rw [s1] at hr2
    rw [s2] at hx3
    rw [← hbr, ← hbx]
    have D3 : De wx bd S [] := (D1.keep (b2.block bd D1.lt)).keep (b3.block bd (by omega))
    have I0 : DI wx bd br bx B S [] (.slice none 0 0) (.slice none 0 0) [] 0 :=
      ⟨D3, Rd.new ((b3.block br (by omega)).trans hr2), RrL.new hx3 (by omega), World.ownsRow_nil _ _ _ _, (fun k e _ => by cases e), by omega⟩
    have x0 : Below bd w wx := by
      have h1 := HBD.out
      exact (B1.mono (by omega)).trans ((b2.mono (by omega)).trans (b3.mono (by omega)))
    have HO : Hid (bd < br ∧ br < bx ∧ bx < B) := ⟨by omega, by omega, by omega⟩
    clear hbr hbx hB s1 s2 hr2 hx3 z1 z2 z3 b2 b3 D1 D3 B1 CR
    go_loopw [7, 62] (fun tl ti wr => ∃ (i k lc : Nat) (zs : List Int) (la : Option Addr) (u : Value) (H : List Bool) (t : Nat), i ≤ n ∧ ti = .int .i64 (i : Int) ∧ tl = .slice la k lc ∧ Hid (zs.length = k) ∧ DI wr bd br bx B S zs (.slice la k lc) u H t ∧ t ≤ 64 * i ∧ Below bd w wr) (fun _ ti _ => n - (intOf ti).toNat)
    case atStart => exact ⟨0, 0, 0, [], none, _, [], 0, Nat.zero_le _, rfl, rfl, (rfl : _ = _), I0, by omega, x0⟩
    case round =>
      obtain ⟨i, k, lc, zs, la, u, H, t, hin, rfl, rfl, HK, I, ht, xR⟩ := hrel
      clear I0 x0
      have hxw : Below w.heap.size w wr := by have := HBD.out; rw [← this]; exact xR
      by_cases hlt : i < n
      · have hlti : (i : Int) < (n : Int) := by omega
        obtain ⟨og, oo, rfl, c0, c1, c2, c3, c4⟩ := (hs.old hxw).at_ i hlt
        have hseg := hs.seg i hlt
        have hcapb := hs.cap i hlt
        have hsegL := hs.segL i hlt
        have hnilL := hs.nilL i hlt
        have hbd := hs.bd i hlt
        have hPi := hP i hlt
        generalize O i = o at *
        obtain ⟨C, ba, p, bc, N, la', ls, lc', oth⟩ := o
        simp only at c0 c1 c2 c3 c4 hseg hcapb hsegL hnilL hbd hPi
        obtain ⟨np, hnp⟩ : ∃ np, np = p.length := ⟨_, rfl⟩
        obtain ⟨nl, hnl⟩ : ∃ nl, nl = ls.length := ⟨_, rfl⟩
        have HNP : Hid (p.length = np) := hnp.symm
        have HNL : Hid (ls.length = nl) := hnl.symm
        rw [← hnp] at c1 hcapb hPi
        rw [← hnl] at c3 hPi
        clear hnp hnl
        have hbl : ∀ g off, ba = some ⟨g, off, none⟩ → 0 < p.length → g < bd := fun g off e h => by have := hseg.lt g off e h; have := HBD.out; omega
        obtain ⟨wA, hwA⟩ : ∃ wA, wA = wr.alloc (.cells #[.int .i64 C, .slice ba np bc, .int .i64 N, .slice la' nl lc', .bool oth] 67) := ⟨_, rfl⟩
        have hA : wA.heap[wr.heap.size]? = some (.cells #[.int .i64 C, .slice ba np bc, .int .i64 N, .slice la' nl lc', .bool oth] 67 (0, 0)) := by rw [hwA]; exact heap_new _ _
        have bA : Below wr.heap.size wr wA := by rw [hwA]; exact (Below.refl _ _).alloc (Nat.le_refl _) _
        have zA : wA.heap.size = wr.heap.size + 1 := by rw [hwA]; simp
        have HWA : Hid (wA = wr.alloc (.cells #[.int .i64 C, .slice ba np bc, .int .i64 N, .slice la' nl lc', .bool oth] 67)) := hwA
        clear hwA
        have IA := I.old bA
        have hBs := I.size
        have xA : Below bd w wA := xR.trans (bA.mono (by have := HO.out; omega))
        obtain ⟨ob, hob⟩ : ∃ ob, ob = wr.heap.size := ⟨_, rfl⟩
        have HOB : Hid (ob = wr.heap.size) := hob
        rw [← hob] at hA zA hBs
        clear hob bA
        have hle : H.length ≤ 64 := IA.r.le
        obtain ⟨a0, a1, a2, a3, a4⟩ := five_cells hA
        have xAw : Below w.heap.size w wA := by have := HBD.out; rw [← this]; exact xA
        clear I hxw
        by_cases hC1 : C = 1
        · subst hC1
          have segA : Seg wA ba p := hseg.old xAw
          have CF := feed_any br H t ba p bc wA IA.r segA (by rw [HNP.out]; exact hcapb) (fun g off e h => by have := hbl g off e h; have := HO.out; omega) (by rw [HNP.out]; omega)
          rw [HNP.out] at CF
          go_wp2_with fail
          rw [← HWA.out, ← HOB.out]
          clear c0 c1 c2 c3 c4
          refine CF.mono ?_
          rintro e wP ⟨rfl, rP, kP⟩
          have aP : wP.cell? ⟨ob, 1, none⟩ = some (.slice ba np bc) := (World.cell?_of_block (a := ⟨ob, 1, none⟩) (kP.block ob (by omega) (by have := HO.out; omega))).trans a1
          have xP : RrL wP bx B u H t := IA.x.kp kP (by have := HO.out; omega) (fun k e => by have := (IA.x.own_lt k e).1; have := HO.out; omega)
          have segP : Seg wP ba p := segA.kp kP (fun g off e h e2 => by have := hbl g off e h; have := HO.out; omega)
          have CR := rfeed_any bx B u H t ba p bc wP xP hle segP (by rw [HNP.out]; exact hcapb) (fun g off e h => by have := hbl g off e h; have := HO.out; omega) (by rw [HNP.out]; omega)
          rw [HNP.out] at CR
          clear CF segA segP a0 a1 a2 a3 a4 hA
          go_wp2_with fail
          refine CR.mono ?_
          rintro e w9 ⟨rfl, u9, x9, k9, f9⟩
          have I9 := IA.two rP kP x9 k9 f9
          have X9 : Below bd w w9 := xA.trans (IA.two_below kP k9 (Nat.le_refl _))
          clear CR xP x9 k9 f9 rP kP aP IA xA xAw
          generalize H ++ bB (p.take (feedN H np)) = H9 at *
          have ht9 : t ≤ 64 * (i + 1) := by omega
          obtain ⟨xa9, xc9, hu9, rx9⟩ := I9.x
          have cx9 := rx9.cell0
          have hlt9 := rx9.b_lt
          have CH : Hid (∀ W, Below w9.heap.size w9 W → Calls Try.prog 36 #[.pointer (some ⟨br, 0, none⟩)] W fun e w' => e = .returned (.int .i64 (H9.length : Int)) ∧ w' = W) := fun W hW => has_any br H9 _ W (I9.old hW).r
          have CRm : Hid (∀ W, Below w9.heap.size w9 W → Calls Try.prog 28 #[.pointer (some ⟨bd, 0, none⟩)] W fun e w' => e = .returned (.int .i64 (8 * (S : Int) + 256)) ∧ w' = W) := fun W hW => room_any bd S _ W (I9.old hW).de
          have HC9 : Hid (∀ W, Below w9.heap.size w9 W → W.cell? ⟨bx, 0, none⟩ = some (.slice xa9 H9.length xc9)) := fun W hW => (hW.cell (p := ⟨bx, 0, none⟩) hlt9).trans cx9
          have bt0 : Below w9.heap.size w9 w9.drew := (Below.refl _ _).drew
          have hcd := HC9.out _ bt0
          have HI9 : Hid _ := I9
          have hbw9 : bd ≤ w9.heap.size := by have := I9.size; have := I9.ord; omega
          have hw8 : IntKind.i64.wrap (8 * (S : Int)) = 8 * (S : Int) := IntWalk.i64_in _ (by omega)
          have hw9 : IntKind.i64.wrap (8 * (S : Int) + 256) = 8 * (S : Int) + 256 := IntWalk.i64_in _ (by omega)
          clear I9 rx9 cx9 hu9
          go_wp2_with fail
          go_region_held3 (fun w' => w'.cell? ⟨bx, 0, none⟩ = some (.slice xa9 H9.length xc9))
            (first | go_keep | (exact HC9.out _ (by assumption)))
            (first
              | (go_at_call 36; refine (CH.out _ (by assumption)).mono ?_; rintro e wl ⟨rfl, hwl⟩; subst wl)
              | (go_at_call 28; refine (CRm.out _ (by assumption)).mono ?_; rintro e wl ⟨rfl, hwl⟩; subst wl))
          all_goals
            go_wp2_with fail
            go_roundw
            case rel => exact ⟨i + 1, _, _, _, _, _, H9, _, by omega, by go_num, rfl, (by first | exact HK | exact HNL), HI9.out.old bt0, ht9, X9.trans (bt0.mono hbw9)⟩
            case measure => simp [intOf]; omega
        · by_cases hC2 : C = 2
          · subst hC2
            have CF := take_any br H t N wA IA.r (by omega)
            go_wp2_with fail
            rw [← HWA.out, ← HOB.out]
            clear c0 c1 c2 c3 c4
            refine CF.mono ?_
            rintro e wP ⟨rfl, rP, gP⟩
            have kP := kp_one gP
            have aP : wP.cell? ⟨ob, 2, none⟩ = some (.int .i64 N) := (World.cell?_of_block (a := ⟨ob, 2, none⟩) (kP.block ob (by omega) (by have := HO.out; omega))).trans a2
            have xP : RrL wP bx B u H t := IA.x.kp kP (by have := HO.out; omega) (fun k e => by have := (IA.x.own_lt k e).1; have := HO.out; omega)
            have CR := rtake_any bx B u H t N wP xP (by omega) hle
            clear CF a0 a1 a2 a3 a4 hA gP
            go_wp2_with fail
            refine CR.mono ?_
            rintro e w9 ⟨rfl, u9, x9, k9, f9⟩
            have I9 := IA.two rP kP x9 k9 f9
            have X9 : Below bd w w9 := xA.trans (IA.two_below kP k9 (Nat.le_refl _))
            have ht9 : takeT H t N ≤ 64 * (i + 1) := by
              have h1 := take_sum H t N
              have h2 := takeL_le H N
              omega
            clear CR xP x9 k9 f9 rP kP aP IA xA xAw
            generalize takeL H N = H9 at *
            generalize takeT H t N = t9 at *
            obtain ⟨xa9, xc9, hu9, rx9⟩ := I9.x
            have cx9 := rx9.cell0
            have hlt9 := rx9.b_lt
            have CH : Hid (∀ W, Below w9.heap.size w9 W → Calls Try.prog 36 #[.pointer (some ⟨br, 0, none⟩)] W fun e w' => e = .returned (.int .i64 (H9.length : Int)) ∧ w' = W) := fun W hW => has_any br H9 _ W (I9.old hW).r
            have CRm : Hid (∀ W, Below w9.heap.size w9 W → Calls Try.prog 28 #[.pointer (some ⟨bd, 0, none⟩)] W fun e w' => e = .returned (.int .i64 (8 * (S : Int) + 256)) ∧ w' = W) := fun W hW => room_any bd S _ W (I9.old hW).de
            have HC9 : Hid (∀ W, Below w9.heap.size w9 W → W.cell? ⟨bx, 0, none⟩ = some (.slice xa9 H9.length xc9)) := fun W hW => (hW.cell (p := ⟨bx, 0, none⟩) hlt9).trans cx9
            have bt0 : Below w9.heap.size w9 w9.drew := (Below.refl _ _).drew
            have hcd := HC9.out _ bt0
            have HI9 : Hid _ := I9
            have hbw9 : bd ≤ w9.heap.size := by have := I9.size; have := I9.ord; omega
            have hw8 : IntKind.i64.wrap (8 * (S : Int)) = 8 * (S : Int) := IntWalk.i64_in _ (by omega)
            have hw9 : IntKind.i64.wrap (8 * (S : Int) + 256) = 8 * (S : Int) + 256 := IntWalk.i64_in _ (by omega)
            clear I9 rx9 cx9 hu9
            go_wp2_with fail
            go_region_held3 (fun w' => w'.cell? ⟨bx, 0, none⟩ = some (.slice xa9 H9.length xc9))
              (first | go_keep | (exact HC9.out _ (by assumption)))
              (first
                | (go_at_call 36; refine (CH.out _ (by assumption)).mono ?_; rintro e wl ⟨rfl, hwl⟩; subst wl)
                | (go_at_call 28; refine (CRm.out _ (by assumption)).mono ?_; rintro e wl ⟨rfl, hwl⟩; subst wl))
            all_goals
              go_wp2_with fail
              go_roundw
              case rel => exact ⟨i + 1, _, _, _, _, _, H9, _, by omega, by go_num, rfl, (by first | exact HK | exact HNL), HI9.out.old bt0, ht9, X9.trans (bt0.mono hbw9)⟩
              case measure => simp [intOf]; omega
          · by_cases hC3 : C = 3
            · subst hC3
              have hlsb := lent5_bd hsegL.mem
              have CL := lend5_any la' ls lc' wA (hsegL.old xAw) hnilL (by rw [HNL.out]; omega)
              rw [HNL.out] at CL
              obtain ⟨M, hM3⟩ : ∃ M, M = nl + 3 := ⟨_, rfl⟩
              have HLL : Hid ((lent5 ls).length = M) := by show _ = _; simp [lent5, HNL.out, hM3]
              have hMb : M ≤ 17592186043907 := by omega
              have hLb : ∀ g off, la' = some ⟨g, off, none⟩ → 0 < ls.length → g < bd := fun g off e h => by have := hsegL.lt g off e h; have := HBD.out; omega
              clear hM3
              go_wp2_with fail
              rw [← HWA.out, ← HOB.out]
              clear c0 c1 c2 c3 c4
              refine CL.mono ?_
              rintro e w2 ⟨g1, c1', rfl, O1, hc1, b2⟩
              have S1 := own_segZ O1 hlsb
              have P1 : SegZ w2 (some ⟨g1, 0, none⟩) ls := S1.left
              have hg1 := own_blk O1 _ rfl
              rw [HLL.out] at O1 hc1
              rw [HNL.out, HLL.out]
              have I2 := IA.old b2
              have HG1 : Hid (B ≤ g1 ∧ ob < g1 ∧ wA.heap.size ≤ g1) := ⟨by simp at hg1; omega, by simp at hg1; omega, by simp at hg1; omega⟩
              have x2 : Below bd w w2 := xA.trans (b2.mono (by have := HO.out; omega))
              have L2 : SegZ w2 la' ls := hsegL.old (by have := HBD.out; rw [← this]; exact x2)
              have a32 : w2.cell? ⟨ob, 3, none⟩ = some (.slice la' nl lc') := (b2.cell (p := ⟨ob, 3, none⟩) (show ob < wA.heap.size by omega)).trans a3
              have z2 : ob < w2.heap.size := by have := b2.size; omega
              have LD := load_any bd S zs (some ⟨g1, 0, none⟩) ls nl c1' HNL w2 I2.de P1 (by omega)
              have HAP : Hid (∀ x, x < B ∨ u.ownBlock = some x ∨ (Value.slice la k lc).ownBlock = some x → x ≠ g1) := by
                intro x hx e
                subst e
                have h1 := HG1.out
                rcases hx with h | h | h
                · omega
                · have := (IA.x.own_lt _ h).2.1; omega
                · have := (IA.own.lt _ h).2; omega
              clear CL a0 a1 a2 a3 a4 hA hg1 xAw
              go_wp2_with fail
              refine (rcheck_any la' ls nl lc' HNL w2 L2 (by omega)).mono ?_
              rintro e w2' ⟨rfl, hw2⟩
              subst w2'
              by_cases hSn : S < nl
              · have hSi : (S : Int) < (nl : Int) := by omega
                have HED : Hid (errD S ls = 50) := by show _ = _; unfold errD; rw [HNL.out, if_pos hSn]
                generalize errC ls = E0 at *
                go_wp2_with fail
                refine LD.mono ?_
                rintro e w3 ⟨rfl, D3, k3⟩
                rw [HED.out, if_neg (by omega)] at D3
                rw [HED.out]
                have I3 : DI w3 bd br bx B S zs (.slice la k lc) u H t := I2.load D3 k3
                have S3 : SegZ w3 (some ⟨g1, 0, none⟩) (lent5 ls) := S1.kp k3 (fun g off e _ e2 => by cases e; have := HG1.out; have := HO.out; omega)
                have L3 : SegZ w3 la' ls := L2.kp k3 (fun g off e h e2 => by have := hLb g off e h; omega)
                have a33 : w3.cell? ⟨ob, 3, none⟩ = some (.slice la' nl lc') := (World.cell?_of_block (a := ⟨ob, 3, none⟩) (k3.block ob z2 (by have := HO.out; omega))).trans a32
                have O3 := own_kp O1 k3 (fun x e => by have := O1.lt x e; have := HO.out; omega)
                have CK := kept5_any (some ⟨g1, 0, none⟩) (lent5 ls) c1' la' ls lc' w3 S3 L3 hnilL (by rw [HNL.out]; omega) (by rw [HLL.out]; omega)
                rw [HLL.out, HNL.out] at CK
                have et2 : (lent5 ls == lent5 ls) = true := by simp
                rw [et2] at CK
                have x3 : Below bd w w3 := x2.trans (k3.below (fun x e => by omega) (by have := x2.size; have := HBD.out; omega))
                have z3 : ob < w3.heap.size := by have := k3.size; omega
                clear LD S1 L2 P1 a32 et2 O1
                go_wp2_with fail
                refine CK.mono ?_
                rintro e w4 ⟨rfl, b4⟩
                have O4 := own_below O3 b4
                have x4 : Below bd w w4 := x3.trans (b4.mono (by have := HO.out; omega))
                have L4 : SegZ w4 la' ls := L3.old b4
                have a34 : w4.cell? ⟨ob, 3, none⟩ = some (.slice la' nl lc') := (b4.cell (p := ⟨ob, 3, none⟩) z3).trans a33
                have z4 : g1 < w4.heap.size := (own_blk O4 _ rfl).2
                have z5 : ob < w4.heap.size := by have := b4.size; omega
                clear CK S3 L3 a33 O3
                have I5 := I3.old b4
                have HAP5 := HAP
                have x5 := x4
                have O5 := O4
                clear I3 HAP x4 O4 k3 D3 I2 x2 b2 b4 HED L4 a34
                generalize w4 = w5 at *
                go_wp2_with fail
                go_loopw [151] (fun tj wr' => ∃ (j : Nat) (A : List Int), j ≤ M ∧ Hid (A.length = M) ∧ tj = .int .i64 (j : Int) ∧ wr'.ownsRow wA.heap.size 3 1 (.slice (some ⟨g1, 0, none⟩) M c1') M (A.map (Value.int .i64)) ∧ Kp (fun x => x = g1) w5 wr') (fun tj _ => M - (intOf tj).toNat)
                case atStart => exact ⟨0, lent5 ls, by omega, HLL.out, rfl, O5, Kp.refl _ _⟩
                case round =>
                  obtain ⟨j, A, hj, HA, rfl, OJ, KJ⟩ := hrel
                  clear O5
                  by_cases hjm : j < M
                  · have hji : (j : Int) < (M : Int) := by omega
                    obtain ⟨d0, fz⟩ := own_cell1 OJ (i := j) (by have := HA.out; omega)
                    have f0 := fz j
                    obtain ⟨OS, GS⟩ := OJ.stored j (.int .i64 1)
                    rw [← List.map_set] at OS
                    have HOS : Hid _ := OS
                    have HB : Hid _ := KJ.trans (S' := fun x => x = g1) (Kp.grown GS (fun i hi => by cases hi; rfl)) (fun _ _ e => e)
                    have HA2 : Hid ((A.set j 1).length = M) := by show _ = _; rw [List.length_set]; exact HA.out
                    clear OS GS fz
                    generalize A.getD j 0 = zz at *
                    go_wp2_with fail
                    go_roundw
                    case rel => exact ⟨j + 1, A.set j 1, by omega, HA2, by go_num, HOS.out, HB.out⟩
                    case measure => simp [intOf]; omega
                  · obtain rfl : j = M := by omega
                    have I9 := I5.kp KJ (fun x _ h _ => HAP5.out x h)
                    have X9 : Below bd w wr := x5.trans (KJ.below (fun x e => by have := HG1.out; have := HO.out; omega) (by have := I5.size; have := HO.out; omega))
                    have ht9 : t ≤ 64 * (i + 1) := by omega
                    clear OJ KJ I5 x5 IA xA HLL HA hLb
                    generalize wr = w9 at *
                    obtain ⟨H9, hH9⟩ : ∃ H9, H9 = H := ⟨_, rfl⟩
                    rw [← hH9] at I9
                    clear hH9
                    obtain ⟨xa9, xc9, hu9, rx9⟩ := I9.x
                    have cx9 := rx9.cell0
                    have hlt9 := rx9.b_lt
                    have CH : Hid (∀ W, Below w9.heap.size w9 W → Calls Try.prog 36 #[.pointer (some ⟨br, 0, none⟩)] W fun e w' => e = .returned (.int .i64 (H9.length : Int)) ∧ w' = W) := fun W hW => has_any br H9 _ W (I9.old hW).r
                    have CRm : Hid (∀ W, Below w9.heap.size w9 W → Calls Try.prog 28 #[.pointer (some ⟨bd, 0, none⟩)] W fun e w' => e = .returned (.int .i64 (8 * (S : Int) + 256)) ∧ w' = W) := fun W hW => room_any bd S _ W (I9.old hW).de
                    have HC9 : Hid (∀ W, Below w9.heap.size w9 W → W.cell? ⟨bx, 0, none⟩ = some (.slice xa9 H9.length xc9)) := fun W hW => (hW.cell (p := ⟨bx, 0, none⟩) hlt9).trans cx9
                    have bt0 : Below w9.heap.size w9 w9.drew := (Below.refl _ _).drew
                    have hcd := HC9.out _ bt0
                    have HI9 : Hid _ := I9
                    have hbw9 : bd ≤ w9.heap.size := by have := I9.size; have := I9.ord; omega
                    have hw8 : IntKind.i64.wrap (8 * (S : Int)) = 8 * (S : Int) := IntWalk.i64_in _ (by omega)
                    have hw9 : IntKind.i64.wrap (8 * (S : Int) + 256) = 8 * (S : Int) + 256 := IntWalk.i64_in _ (by omega)
                    clear I9 rx9 cx9 hu9
                    go_wp2_with fail
                    go_region_held3 (fun w' => w'.cell? ⟨bx, 0, none⟩ = some (.slice xa9 H9.length xc9))
                      (first | go_keep | (exact HC9.out _ (by assumption)))
                      (first
                        | (go_at_call 36; refine (CH.out _ (by assumption)).mono ?_; rintro e wl ⟨rfl, hwl⟩; subst wl)
                        | (go_at_call 28; refine (CRm.out _ (by assumption)).mono ?_; rintro e wl ⟨rfl, hwl⟩; subst wl))
                    all_goals
                      go_wp2_with fail
                      go_roundw
                      case rel => exact ⟨i + 1, _, _, _, _, _, H9, _, by omega, by go_num, rfl, (by first | exact HK | exact HNL), HI9.out.old bt0, ht9, X9.trans (bt0.mono hbw9)⟩
                      case measure => simp [intOf]; omega
              · have hSi : ¬ (S : Int) < (nl : Int) := by omega
                have hED : errD S ls = errC ls := by unfold errD; rw [HNL.out, if_neg hSn]
                rcases errC_cases ls with hE | hE | hE | hE
                · rw [hE] at hED ⊢
                  have HED : Hid (errD S ls = 0) := hED
                  have HOKL : Hid (errC ls = 0) := hE
                  clear hED hE
                  go_wp2_with fail
                  refine LD.mono ?_
                  rintro e w3 ⟨rfl, D3, k3⟩
                  rw [HED.out, if_pos rfl] at D3
                  rw [HED.out]
                  have S3 : SegZ w3 (some ⟨g1, 0, none⟩) (lent5 ls) := S1.kp k3 (fun g off e _ e2 => by cases e; have := HG1.out; have := HO.out; omega)
                  have L3 : SegZ w3 la' ls := L2.kp k3 (fun g off e h e2 => by have := hLb g off e h; omega)
                  have a33 : w3.cell? ⟨ob, 3, none⟩ = some (.slice la' nl lc') := (World.cell?_of_block (a := ⟨ob, 3, none⟩) (k3.block ob z2 (by have := HO.out; omega))).trans a32
                  have O3 := own_kp O1 k3 (fun x e => by have := O1.lt x e; have := HO.out; omega)
                  have CK := kept5_any (some ⟨g1, 0, none⟩) (lent5 ls) c1' la' ls lc' w3 S3 L3 hnilL (by rw [HNL.out]; omega) (by rw [HLL.out]; omega)
                  rw [HLL.out, HNL.out] at CK
                  have et2 : (lent5 ls == lent5 ls) = true := by simp
                  rw [et2] at CK
                  have x3 : Below bd w w3 := x2.trans (k3.below (fun x e => by omega) (by have := x2.size; have := HBD.out; omega))
                  have z3 : ob < w3.heap.size := by have := k3.size; omega
                  clear LD S1 L2 P1 a32 et2 O1
                  go_wp2_with fail
                  refine CK.mono ?_
                  rintro e w4 ⟨rfl, b4⟩
                  have O4 := own_below O3 b4
                  have x4 : Below bd w w4 := x3.trans (b4.mono (by have := HO.out; omega))
                  have L4 : SegZ w4 la' ls := L3.old b4
                  have a34 : w4.cell? ⟨ob, 3, none⟩ = some (.slice la' nl lc') := (b4.cell (p := ⟨ob, 3, none⟩) z3).trans a33
                  have z4 : g1 < w4.heap.size := (own_blk O4 _ rfl).2
                  have z5 : ob < w4.heap.size := by have := b4.size; omega
                  clear CK S3 L3 a33 O3
                  have D4 : De w4 bd S ls := D3.keep (b4.block bd D3.lt)
                  have r4 : Rd w4 br H t := (I2.r.kp k3 (by have := HO.out; omega)).kp (S := fun _ => False) (Kp.of_below b4) (by simp)
                  have y4 : RrL w4 bx B u H t := (I2.x.kp k3 (by have := HO.out; omega) (fun x e => by have := (I2.x.own_lt x e).1; have := HO.out; omega)).kp (S := fun _ => False) (Kp.of_below b4) (by simp) (by simp)
                  have s4 : B ≤ w4.heap.size := by have := I2.size; have := k3.size; have := b4.size; omega
                  have hm0 : (w4.alloc (.cells #[] 3)).ownsRow w4.heap.size 3 1 (.slice (some ⟨w4.heap.size, 0, none⟩) 0 0) 0 [] := World.ownsRow_made w4 #[] 0 (Nat.le_refl _) (by decide) rfl
                  have hb0 : Below w4.heap.size w4 (w4.alloc (.cells #[] 3)) := (Below.refl _ _).alloc (Nat.le_refl _) _
                  have L5 : SegZ (w4.alloc (.cells #[] 3)) la' ls := L4.alloc _
                  have a35 : (w4.alloc (.cells #[] 3)).cell? ⟨ob, 3, none⟩ = some (.slice la' nl lc') := (hb0.cell (p := ⟨ob, 3, none⟩) z5).trans a34
                  have hnl288 : nl ≤ 288 := by omega
                  clear k3 D3 I2 x2 b2 b4 HED L4 HOKL
                  go_wp2_with (at_builtin; refine wpList_appZ rfl (.tmp 145) (.tmp 147) 23 rfl w4.heap.size 3 i0 (.int .i64 0) 8 Try.underlying23 hi hz0 hz1 hz2 rfl hm0 L5 hnilL rfl (by rw [HNL.out]; rfl) (by rw [HNL.out]; omega) (by rw [HNL.out]; omega) (by simp) ?_; intro la9 c9 w5 O9 hg9 hf9 hn9; have b5 := hb0.trans (below_own hm0 hg9 (by simp)); clear hf9 hn9 hg9; rw [Nat.zero_add, List.nil_append, HNL.out] at O9; rw [Nat.zero_add, HNL.out])
                  have O5 := own_below O4 b5
                  have I5 : DI w5 bd br bx B S ls (.slice la9 nl c9) u H t := ⟨D4.keep (b5.block bd D4.lt), r4.kp (S := fun _ => False) (Kp.of_below b5) (by simp), y4.kp (S := fun _ => False) (Kp.of_below b5) (by simp) (by simp), by rw [HNL.out]; exact own_base O9 s4, (fun x e1 e2 => by have h1 := (y4.own_lt x e1).2.1; have h2 := (O9.lt x e2).1; omega), HO.out⟩
                  have HAP5 : Hid (∀ x, x < B ∨ u.ownBlock = some x ∨ (Value.slice la9 nl c9).ownBlock = some x → x ≠ g1) := by
                    intro x hx e
                    rcases hx with h | h | h
                    · exact HAP.out x (.inl h) e
                    · exact HAP.out x (.inr (.inl h)) e
                    · have h2 := (O9.lt x h).1; omega
                  have x5 : Below bd w w5 := x4.trans (b5.mono (by have := HO.out; omega))
                  clear O4 O9 D4 r4 y4 hm0 hb0 L5 a35 a34 b5 HAP x4 HK
                  go_loopw [151] (fun tj wr' => ∃ (j : Nat) (A : List Int), j ≤ M ∧ Hid (A.length = M) ∧ tj = .int .i64 (j : Int) ∧ wr'.ownsRow wA.heap.size 3 1 (.slice (some ⟨g1, 0, none⟩) M c1') M (A.map (Value.int .i64)) ∧ Kp (fun x => x = g1) w5 wr') (fun tj _ => M - (intOf tj).toNat)
                  case atStart => exact ⟨0, lent5 ls, by omega, HLL.out, rfl, O5, Kp.refl _ _⟩
                  case round =>
                    obtain ⟨j, A, hj, HA, rfl, OJ, KJ⟩ := hrel
                    clear O5
                    by_cases hjm : j < M
                    · have hji : (j : Int) < (M : Int) := by omega
                      obtain ⟨d0, fz⟩ := own_cell1 OJ (i := j) (by have := HA.out; omega)
                      have f0 := fz j
                      obtain ⟨OS, GS⟩ := OJ.stored j (.int .i64 1)
                      rw [← List.map_set] at OS
                      have HOS : Hid _ := OS
                      have HB : Hid _ := KJ.trans (S' := fun x => x = g1) (Kp.grown GS (fun i hi => by cases hi; rfl)) (fun _ _ e => e)
                      have HA2 : Hid ((A.set j 1).length = M) := by show _ = _; rw [List.length_set]; exact HA.out
                      clear OS GS fz
                      generalize A.getD j 0 = zz at *
                      go_wp2_with fail
                      go_roundw
                      case rel => exact ⟨j + 1, A.set j 1, by omega, HA2, by go_num, HOS.out, HB.out⟩
                      case measure => simp [intOf]; omega
                    · obtain rfl : j = M := by omega
                      have I9 := I5.kp KJ (fun x _ h _ => HAP5.out x h)
                      have X9 : Below bd w wr := x5.trans (KJ.below (fun x e => by have := HG1.out; have := HO.out; omega) (by have := I5.size; have := HO.out; omega))
                      have ht9 : t ≤ 64 * (i + 1) := by omega
                      clear OJ KJ I5 x5 IA xA HLL HA hLb
                      generalize wr = w9 at *
                      obtain ⟨H9, hH9⟩ : ∃ H9, H9 = H := ⟨_, rfl⟩
                      rw [← hH9] at I9
                      clear hH9
                      obtain ⟨xa9, xc9, hu9, rx9⟩ := I9.x
                      have cx9 := rx9.cell0
                      have hlt9 := rx9.b_lt
                      have CH : Hid (∀ W, Below w9.heap.size w9 W → Calls Try.prog 36 #[.pointer (some ⟨br, 0, none⟩)] W fun e w' => e = .returned (.int .i64 (H9.length : Int)) ∧ w' = W) := fun W hW => has_any br H9 _ W (I9.old hW).r
                      have CRm : Hid (∀ W, Below w9.heap.size w9 W → Calls Try.prog 28 #[.pointer (some ⟨bd, 0, none⟩)] W fun e w' => e = .returned (.int .i64 (8 * (S : Int) + 256)) ∧ w' = W) := fun W hW => room_any bd S _ W (I9.old hW).de
                      have HC9 : Hid (∀ W, Below w9.heap.size w9 W → W.cell? ⟨bx, 0, none⟩ = some (.slice xa9 H9.length xc9)) := fun W hW => (hW.cell (p := ⟨bx, 0, none⟩) hlt9).trans cx9
                      have bt0 : Below w9.heap.size w9 w9.drew := (Below.refl _ _).drew
                      have hcd := HC9.out _ bt0
                      have HI9 : Hid _ := I9
                      have hbw9 : bd ≤ w9.heap.size := by have := I9.size; have := I9.ord; omega
                      have hw8 : IntKind.i64.wrap (8 * (S : Int)) = 8 * (S : Int) := IntWalk.i64_in _ (by omega)
                      have hw9 : IntKind.i64.wrap (8 * (S : Int) + 256) = 8 * (S : Int) + 256 := IntWalk.i64_in _ (by omega)
                      clear I9 rx9 cx9 hu9
                      go_wp2_with fail
                      go_region_held3 (fun w' => w'.cell? ⟨bx, 0, none⟩ = some (.slice xa9 H9.length xc9))
                        (first | go_keep | (exact HC9.out _ (by assumption)))
                        (first
                          | (go_at_call 36; refine (CH.out _ (by assumption)).mono ?_; rintro e wl ⟨rfl, hwl⟩; subst wl)
                          | (go_at_call 28; refine (CRm.out _ (by assumption)).mono ?_; rintro e wl ⟨rfl, hwl⟩; subst wl))
                      all_goals
                        go_wp2_with fail
                        go_roundw
                        case rel => exact ⟨i + 1, _, _, _, _, _, H9, _, by omega, by go_num, rfl, (by first | exact HK | exact HNL), HI9.out.old bt0, ht9, X9.trans (bt0.mono hbw9)⟩
                        case measure => simp [intOf]; omega
                · rw [hE] at hED ⊢
                  have HED : Hid (errD S ls = 50) := hED
                  clear hED hE
                  go_wp2_with fail
                  refine LD.mono ?_
                  rintro e w3 ⟨rfl, D3, k3⟩
                  rw [HED.out, if_neg (by omega)] at D3
                  rw [HED.out]
                  have I3 : DI w3 bd br bx B S zs (.slice la k lc) u H t := I2.load D3 k3
                  have S3 : SegZ w3 (some ⟨g1, 0, none⟩) (lent5 ls) := S1.kp k3 (fun g off e _ e2 => by cases e; have := HG1.out; have := HO.out; omega)
                  have L3 : SegZ w3 la' ls := L2.kp k3 (fun g off e h e2 => by have := hLb g off e h; omega)
                  have a33 : w3.cell? ⟨ob, 3, none⟩ = some (.slice la' nl lc') := (World.cell?_of_block (a := ⟨ob, 3, none⟩) (k3.block ob z2 (by have := HO.out; omega))).trans a32
                  have O3 := own_kp O1 k3 (fun x e => by have := O1.lt x e; have := HO.out; omega)
                  have CK := kept5_any (some ⟨g1, 0, none⟩) (lent5 ls) c1' la' ls lc' w3 S3 L3 hnilL (by rw [HNL.out]; omega) (by rw [HLL.out]; omega)
                  rw [HLL.out, HNL.out] at CK
                  have et2 : (lent5 ls == lent5 ls) = true := by simp
                  rw [et2] at CK
                  have x3 : Below bd w w3 := x2.trans (k3.below (fun x e => by omega) (by have := x2.size; have := HBD.out; omega))
                  have z3 : ob < w3.heap.size := by have := k3.size; omega
                  clear LD S1 L2 P1 a32 et2 O1
                  go_wp2_with fail
                  refine CK.mono ?_
                  rintro e w4 ⟨rfl, b4⟩
                  have O4 := own_below O3 b4
                  have x4 : Below bd w w4 := x3.trans (b4.mono (by have := HO.out; omega))
                  have L4 : SegZ w4 la' ls := L3.old b4
                  have a34 : w4.cell? ⟨ob, 3, none⟩ = some (.slice la' nl lc') := (b4.cell (p := ⟨ob, 3, none⟩) z3).trans a33
                  have z4 : g1 < w4.heap.size := (own_blk O4 _ rfl).2
                  have z5 : ob < w4.heap.size := by have := b4.size; omega
                  clear CK S3 L3 a33 O3
                  have I5 := I3.old b4
                  have HAP5 := HAP
                  have x5 := x4
                  have O5 := O4
                  clear I3 HAP x4 O4 k3 D3 I2 x2 b2 b4 HED L4 a34
                  generalize w4 = w5 at *
                  go_wp2_with fail
                  go_loopw [151] (fun tj wr' => ∃ (j : Nat) (A : List Int), j ≤ M ∧ Hid (A.length = M) ∧ tj = .int .i64 (j : Int) ∧ wr'.ownsRow wA.heap.size 3 1 (.slice (some ⟨g1, 0, none⟩) M c1') M (A.map (Value.int .i64)) ∧ Kp (fun x => x = g1) w5 wr') (fun tj _ => M - (intOf tj).toNat)
                  case atStart => exact ⟨0, lent5 ls, by omega, HLL.out, rfl, O5, Kp.refl _ _⟩
                  case round =>
                    obtain ⟨j, A, hj, HA, rfl, OJ, KJ⟩ := hrel
                    clear O5
                    by_cases hjm : j < M
                    · have hji : (j : Int) < (M : Int) := by omega
                      obtain ⟨d0, fz⟩ := own_cell1 OJ (i := j) (by have := HA.out; omega)
                      have f0 := fz j
                      obtain ⟨OS, GS⟩ := OJ.stored j (.int .i64 1)
                      rw [← List.map_set] at OS
                      have HOS : Hid _ := OS
                      have HB : Hid _ := KJ.trans (S' := fun x => x = g1) (Kp.grown GS (fun i hi => by cases hi; rfl)) (fun _ _ e => e)
                      have HA2 : Hid ((A.set j 1).length = M) := by show _ = _; rw [List.length_set]; exact HA.out
                      clear OS GS fz
                      generalize A.getD j 0 = zz at *
                      go_wp2_with fail
                      go_roundw
                      case rel => exact ⟨j + 1, A.set j 1, by omega, HA2, by go_num, HOS.out, HB.out⟩
                      case measure => simp [intOf]; omega
                    · obtain rfl : j = M := by omega
                      have I9 := I5.kp KJ (fun x _ h _ => HAP5.out x h)
                      have X9 : Below bd w wr := x5.trans (KJ.below (fun x e => by have := HG1.out; have := HO.out; omega) (by have := I5.size; have := HO.out; omega))
                      have ht9 : t ≤ 64 * (i + 1) := by omega
                      clear OJ KJ I5 x5 IA xA HLL HA hLb
                      generalize wr = w9 at *
                      obtain ⟨H9, hH9⟩ : ∃ H9, H9 = H := ⟨_, rfl⟩
                      rw [← hH9] at I9
                      clear hH9
                      obtain ⟨xa9, xc9, hu9, rx9⟩ := I9.x
                      have cx9 := rx9.cell0
                      have hlt9 := rx9.b_lt
                      have CH : Hid (∀ W, Below w9.heap.size w9 W → Calls Try.prog 36 #[.pointer (some ⟨br, 0, none⟩)] W fun e w' => e = .returned (.int .i64 (H9.length : Int)) ∧ w' = W) := fun W hW => has_any br H9 _ W (I9.old hW).r
                      have CRm : Hid (∀ W, Below w9.heap.size w9 W → Calls Try.prog 28 #[.pointer (some ⟨bd, 0, none⟩)] W fun e w' => e = .returned (.int .i64 (8 * (S : Int) + 256)) ∧ w' = W) := fun W hW => room_any bd S _ W (I9.old hW).de
                      have HC9 : Hid (∀ W, Below w9.heap.size w9 W → W.cell? ⟨bx, 0, none⟩ = some (.slice xa9 H9.length xc9)) := fun W hW => (hW.cell (p := ⟨bx, 0, none⟩) hlt9).trans cx9
                      have bt0 : Below w9.heap.size w9 w9.drew := (Below.refl _ _).drew
                      have hcd := HC9.out _ bt0
                      have HI9 : Hid _ := I9
                      have hbw9 : bd ≤ w9.heap.size := by have := I9.size; have := I9.ord; omega
                      have hw8 : IntKind.i64.wrap (8 * (S : Int)) = 8 * (S : Int) := IntWalk.i64_in _ (by omega)
                      have hw9 : IntKind.i64.wrap (8 * (S : Int) + 256) = 8 * (S : Int) + 256 := IntWalk.i64_in _ (by omega)
                      clear I9 rx9 cx9 hu9
                      go_wp2_with fail
                      go_region_held3 (fun w' => w'.cell? ⟨bx, 0, none⟩ = some (.slice xa9 H9.length xc9))
                        (first | go_keep | (exact HC9.out _ (by assumption)))
                        (first
                          | (go_at_call 36; refine (CH.out _ (by assumption)).mono ?_; rintro e wl ⟨rfl, hwl⟩; subst wl)
                          | (go_at_call 28; refine (CRm.out _ (by assumption)).mono ?_; rintro e wl ⟨rfl, hwl⟩; subst wl))
                      all_goals
                        go_wp2_with fail
                        go_roundw
                        case rel => exact ⟨i + 1, _, _, _, _, _, H9, _, by omega, by go_num, rfl, (by first | exact HK | exact HNL), HI9.out.old bt0, ht9, X9.trans (bt0.mono hbw9)⟩
                        case measure => simp [intOf]; omega
                · rw [hE] at hED ⊢
                  have HED : Hid (errD S ls = 51) := hED
                  clear hED hE
                  go_wp2_with fail
                  refine LD.mono ?_
                  rintro e w3 ⟨rfl, D3, k3⟩
                  rw [HED.out, if_neg (by omega)] at D3
                  rw [HED.out]
                  have I3 : DI w3 bd br bx B S zs (.slice la k lc) u H t := I2.load D3 k3
                  have S3 : SegZ w3 (some ⟨g1, 0, none⟩) (lent5 ls) := S1.kp k3 (fun g off e _ e2 => by cases e; have := HG1.out; have := HO.out; omega)
                  have L3 : SegZ w3 la' ls := L2.kp k3 (fun g off e h e2 => by have := hLb g off e h; omega)
                  have a33 : w3.cell? ⟨ob, 3, none⟩ = some (.slice la' nl lc') := (World.cell?_of_block (a := ⟨ob, 3, none⟩) (k3.block ob z2 (by have := HO.out; omega))).trans a32
                  have O3 := own_kp O1 k3 (fun x e => by have := O1.lt x e; have := HO.out; omega)
                  have CK := kept5_any (some ⟨g1, 0, none⟩) (lent5 ls) c1' la' ls lc' w3 S3 L3 hnilL (by rw [HNL.out]; omega) (by rw [HLL.out]; omega)
                  rw [HLL.out, HNL.out] at CK
                  have et2 : (lent5 ls == lent5 ls) = true := by simp
                  rw [et2] at CK
                  have x3 : Below bd w w3 := x2.trans (k3.below (fun x e => by omega) (by have := x2.size; have := HBD.out; omega))
                  have z3 : ob < w3.heap.size := by have := k3.size; omega
                  clear LD S1 L2 P1 a32 et2 O1
                  go_wp2_with fail
                  refine CK.mono ?_
                  rintro e w4 ⟨rfl, b4⟩
                  have O4 := own_below O3 b4
                  have x4 : Below bd w w4 := x3.trans (b4.mono (by have := HO.out; omega))
                  have L4 : SegZ w4 la' ls := L3.old b4
                  have a34 : w4.cell? ⟨ob, 3, none⟩ = some (.slice la' nl lc') := (b4.cell (p := ⟨ob, 3, none⟩) z3).trans a33
                  have z4 : g1 < w4.heap.size := (own_blk O4 _ rfl).2
                  have z5 : ob < w4.heap.size := by have := b4.size; omega
                  clear CK S3 L3 a33 O3
                  have I5 := I3.old b4
                  have HAP5 := HAP
                  have x5 := x4
                  have O5 := O4
                  clear I3 HAP x4 O4 k3 D3 I2 x2 b2 b4 HED L4 a34
                  generalize w4 = w5 at *
                  go_wp2_with fail
                  go_loopw [151] (fun tj wr' => ∃ (j : Nat) (A : List Int), j ≤ M ∧ Hid (A.length = M) ∧ tj = .int .i64 (j : Int) ∧ wr'.ownsRow wA.heap.size 3 1 (.slice (some ⟨g1, 0, none⟩) M c1') M (A.map (Value.int .i64)) ∧ Kp (fun x => x = g1) w5 wr') (fun tj _ => M - (intOf tj).toNat)
                  case atStart => exact ⟨0, lent5 ls, by omega, HLL.out, rfl, O5, Kp.refl _ _⟩
                  case round =>
                    obtain ⟨j, A, hj, HA, rfl, OJ, KJ⟩ := hrel
                    clear O5
                    by_cases hjm : j < M
                    · have hji : (j : Int) < (M : Int) := by omega
                      obtain ⟨d0, fz⟩ := own_cell1 OJ (i := j) (by have := HA.out; omega)
                      have f0 := fz j
                      obtain ⟨OS, GS⟩ := OJ.stored j (.int .i64 1)
                      rw [← List.map_set] at OS
                      have HOS : Hid _ := OS
                      have HB : Hid _ := KJ.trans (S' := fun x => x = g1) (Kp.grown GS (fun i hi => by cases hi; rfl)) (fun _ _ e => e)
                      have HA2 : Hid ((A.set j 1).length = M) := by show _ = _; rw [List.length_set]; exact HA.out
                      clear OS GS fz
                      generalize A.getD j 0 = zz at *
                      go_wp2_with fail
                      go_roundw
                      case rel => exact ⟨j + 1, A.set j 1, by omega, HA2, by go_num, HOS.out, HB.out⟩
                      case measure => simp [intOf]; omega
                    · obtain rfl : j = M := by omega
                      have I9 := I5.kp KJ (fun x _ h _ => HAP5.out x h)
                      have X9 : Below bd w wr := x5.trans (KJ.below (fun x e => by have := HG1.out; have := HO.out; omega) (by have := I5.size; have := HO.out; omega))
                      have ht9 : t ≤ 64 * (i + 1) := by omega
                      clear OJ KJ I5 x5 IA xA HLL HA hLb
                      generalize wr = w9 at *
                      obtain ⟨H9, hH9⟩ : ∃ H9, H9 = H := ⟨_, rfl⟩
                      rw [← hH9] at I9
                      clear hH9
                      obtain ⟨xa9, xc9, hu9, rx9⟩ := I9.x
                      have cx9 := rx9.cell0
                      have hlt9 := rx9.b_lt
                      have CH : Hid (∀ W, Below w9.heap.size w9 W → Calls Try.prog 36 #[.pointer (some ⟨br, 0, none⟩)] W fun e w' => e = .returned (.int .i64 (H9.length : Int)) ∧ w' = W) := fun W hW => has_any br H9 _ W (I9.old hW).r
                      have CRm : Hid (∀ W, Below w9.heap.size w9 W → Calls Try.prog 28 #[.pointer (some ⟨bd, 0, none⟩)] W fun e w' => e = .returned (.int .i64 (8 * (S : Int) + 256)) ∧ w' = W) := fun W hW => room_any bd S _ W (I9.old hW).de
                      have HC9 : Hid (∀ W, Below w9.heap.size w9 W → W.cell? ⟨bx, 0, none⟩ = some (.slice xa9 H9.length xc9)) := fun W hW => (hW.cell (p := ⟨bx, 0, none⟩) hlt9).trans cx9
                      have bt0 : Below w9.heap.size w9 w9.drew := (Below.refl _ _).drew
                      have hcd := HC9.out _ bt0
                      have HI9 : Hid _ := I9
                      have hbw9 : bd ≤ w9.heap.size := by have := I9.size; have := I9.ord; omega
                      have hw8 : IntKind.i64.wrap (8 * (S : Int)) = 8 * (S : Int) := IntWalk.i64_in _ (by omega)
                      have hw9 : IntKind.i64.wrap (8 * (S : Int) + 256) = 8 * (S : Int) + 256 := IntWalk.i64_in _ (by omega)
                      clear I9 rx9 cx9 hu9
                      go_wp2_with fail
                      go_region_held3 (fun w' => w'.cell? ⟨bx, 0, none⟩ = some (.slice xa9 H9.length xc9))
                        (first | go_keep | (exact HC9.out _ (by assumption)))
                        (first
                          | (go_at_call 36; refine (CH.out _ (by assumption)).mono ?_; rintro e wl ⟨rfl, hwl⟩; subst wl)
                          | (go_at_call 28; refine (CRm.out _ (by assumption)).mono ?_; rintro e wl ⟨rfl, hwl⟩; subst wl))
                      all_goals
                        go_wp2_with fail
                        go_roundw
                        case rel => exact ⟨i + 1, _, _, _, _, _, H9, _, by omega, by go_num, rfl, (by first | exact HK | exact HNL), HI9.out.old bt0, ht9, X9.trans (bt0.mono hbw9)⟩
                        case measure => simp [intOf]; omega
                · rw [hE] at hED ⊢
                  have HED : Hid (errD S ls = 52) := hED
                  clear hED hE
                  go_wp2_with fail
                  refine LD.mono ?_
                  rintro e w3 ⟨rfl, D3, k3⟩
                  rw [HED.out, if_neg (by omega)] at D3
                  rw [HED.out]
                  have I3 : DI w3 bd br bx B S zs (.slice la k lc) u H t := I2.load D3 k3
                  have S3 : SegZ w3 (some ⟨g1, 0, none⟩) (lent5 ls) := S1.kp k3 (fun g off e _ e2 => by cases e; have := HG1.out; have := HO.out; omega)
                  have L3 : SegZ w3 la' ls := L2.kp k3 (fun g off e h e2 => by have := hLb g off e h; omega)
                  have a33 : w3.cell? ⟨ob, 3, none⟩ = some (.slice la' nl lc') := (World.cell?_of_block (a := ⟨ob, 3, none⟩) (k3.block ob z2 (by have := HO.out; omega))).trans a32
                  have O3 := own_kp O1 k3 (fun x e => by have := O1.lt x e; have := HO.out; omega)
                  have CK := kept5_any (some ⟨g1, 0, none⟩) (lent5 ls) c1' la' ls lc' w3 S3 L3 hnilL (by rw [HNL.out]; omega) (by rw [HLL.out]; omega)
                  rw [HLL.out, HNL.out] at CK
                  have et2 : (lent5 ls == lent5 ls) = true := by simp
                  rw [et2] at CK
                  have x3 : Below bd w w3 := x2.trans (k3.below (fun x e => by omega) (by have := x2.size; have := HBD.out; omega))
                  have z3 : ob < w3.heap.size := by have := k3.size; omega
                  clear LD S1 L2 P1 a32 et2 O1
                  go_wp2_with fail
                  refine CK.mono ?_
                  rintro e w4 ⟨rfl, b4⟩
                  have O4 := own_below O3 b4
                  have x4 : Below bd w w4 := x3.trans (b4.mono (by have := HO.out; omega))
                  have L4 : SegZ w4 la' ls := L3.old b4
                  have a34 : w4.cell? ⟨ob, 3, none⟩ = some (.slice la' nl lc') := (b4.cell (p := ⟨ob, 3, none⟩) z3).trans a33
                  have z4 : g1 < w4.heap.size := (own_blk O4 _ rfl).2
                  have z5 : ob < w4.heap.size := by have := b4.size; omega
                  clear CK S3 L3 a33 O3
                  have I5 := I3.old b4
                  have HAP5 := HAP
                  have x5 := x4
                  have O5 := O4
                  clear I3 HAP x4 O4 k3 D3 I2 x2 b2 b4 HED L4 a34
                  generalize w4 = w5 at *
                  go_wp2_with fail
                  go_loopw [151] (fun tj wr' => ∃ (j : Nat) (A : List Int), j ≤ M ∧ Hid (A.length = M) ∧ tj = .int .i64 (j : Int) ∧ wr'.ownsRow wA.heap.size 3 1 (.slice (some ⟨g1, 0, none⟩) M c1') M (A.map (Value.int .i64)) ∧ Kp (fun x => x = g1) w5 wr') (fun tj _ => M - (intOf tj).toNat)
                  case atStart => exact ⟨0, lent5 ls, by omega, HLL.out, rfl, O5, Kp.refl _ _⟩
                  case round =>
                    obtain ⟨j, A, hj, HA, rfl, OJ, KJ⟩ := hrel
                    clear O5
                    by_cases hjm : j < M
                    · have hji : (j : Int) < (M : Int) := by omega
                      obtain ⟨d0, fz⟩ := own_cell1 OJ (i := j) (by have := HA.out; omega)
                      have f0 := fz j
                      obtain ⟨OS, GS⟩ := OJ.stored j (.int .i64 1)
                      rw [← List.map_set] at OS
                      have HOS : Hid _ := OS
                      have HB : Hid _ := KJ.trans (S' := fun x => x = g1) (Kp.grown GS (fun i hi => by cases hi; rfl)) (fun _ _ e => e)
                      have HA2 : Hid ((A.set j 1).length = M) := by show _ = _; rw [List.length_set]; exact HA.out
                      clear OS GS fz
                      generalize A.getD j 0 = zz at *
                      go_wp2_with fail
                      go_roundw
                      case rel => exact ⟨j + 1, A.set j 1, by omega, HA2, by go_num, HOS.out, HB.out⟩
                      case measure => simp [intOf]; omega
                    · obtain rfl : j = M := by omega
                      have I9 := I5.kp KJ (fun x _ h _ => HAP5.out x h)
                      have X9 : Below bd w wr := x5.trans (KJ.below (fun x e => by have := HG1.out; have := HO.out; omega) (by have := I5.size; have := HO.out; omega))
                      have ht9 : t ≤ 64 * (i + 1) := by omega
                      clear OJ KJ I5 x5 IA xA HLL HA hLb
                      generalize wr = w9 at *
                      obtain ⟨H9, hH9⟩ : ∃ H9, H9 = H := ⟨_, rfl⟩
                      rw [← hH9] at I9
                      clear hH9
                      obtain ⟨xa9, xc9, hu9, rx9⟩ := I9.x
                      have cx9 := rx9.cell0
                      have hlt9 := rx9.b_lt
                      have CH : Hid (∀ W, Below w9.heap.size w9 W → Calls Try.prog 36 #[.pointer (some ⟨br, 0, none⟩)] W fun e w' => e = .returned (.int .i64 (H9.length : Int)) ∧ w' = W) := fun W hW => has_any br H9 _ W (I9.old hW).r
                      have CRm : Hid (∀ W, Below w9.heap.size w9 W → Calls Try.prog 28 #[.pointer (some ⟨bd, 0, none⟩)] W fun e w' => e = .returned (.int .i64 (8 * (S : Int) + 256)) ∧ w' = W) := fun W hW => room_any bd S _ W (I9.old hW).de
                      have HC9 : Hid (∀ W, Below w9.heap.size w9 W → W.cell? ⟨bx, 0, none⟩ = some (.slice xa9 H9.length xc9)) := fun W hW => (hW.cell (p := ⟨bx, 0, none⟩) hlt9).trans cx9
                      have bt0 : Below w9.heap.size w9 w9.drew := (Below.refl _ _).drew
                      have hcd := HC9.out _ bt0
                      have HI9 : Hid _ := I9
                      have hbw9 : bd ≤ w9.heap.size := by have := I9.size; have := I9.ord; omega
                      have hw8 : IntKind.i64.wrap (8 * (S : Int)) = 8 * (S : Int) := IntWalk.i64_in _ (by omega)
                      have hw9 : IntKind.i64.wrap (8 * (S : Int) + 256) = 8 * (S : Int) + 256 := IntWalk.i64_in _ (by omega)
                      clear I9 rx9 cx9 hu9
                      go_wp2_with fail
                      go_region_held3 (fun w' => w'.cell? ⟨bx, 0, none⟩ = some (.slice xa9 H9.length xc9))
                        (first | go_keep | (exact HC9.out _ (by assumption)))
                        (first
                          | (go_at_call 36; refine (CH.out _ (by assumption)).mono ?_; rintro e wl ⟨rfl, hwl⟩; subst wl)
                          | (go_at_call 28; refine (CRm.out _ (by assumption)).mono ?_; rintro e wl ⟨rfl, hwl⟩; subst wl))
                      all_goals
                        go_wp2_with fail
                        go_roundw
                        case rel => exact ⟨i + 1, _, _, _, _, _, H9, _, by omega, by go_num, rfl, (by first | exact HK | exact HNL), HI9.out.old bt0, ht9, X9.trans (bt0.mono hbw9)⟩
                        case measure => simp [intOf]; omega
            · skip
              have CN := next5_any bd S zs br H t wA IA.de IA.r (by omega)
              go_wp2_with fail
              rw [← HWA.out, ← HOB.out]
              clear c0 c1 c2 c3 c4
              refine CN.mono ?_
              rintro e wP ⟨hN, kP⟩
              have xP : RrL wP bx B u H t := IA.x.kp kP (by have := HO.out; omega) (fun x e => by have := (IA.x.own_lt x e).1; have := HO.out; omega)
              have HXP : Hid (RrL wP bx B u H t) := xP
              obtain ⟨xa, xc, hu, rx⟩ := xP
              have cx := rx.cell0
              have SB : SegB wP xa H := own_segB rx.own
              have hlok := (errS_zero (errC_zero IA.de.ok).1).2
              have OL := own_kp IA.own kP (fun x e => by have := (IA.own.lt x e).1; have := HO.out; omega)
              rw [HK.out] at OL
              have SZ : SegZ wP la zs := own_segZ OL (fun z hz => by have := hlok z hz; omega)
              obtain ⟨nh, hnh⟩ : ∃ nh, nh = H.length := ⟨_, rfl⟩
              have HNH : Hid (H.length = nh) := hnh.symm
              rw [← hnh] at cx hle
              clear hnh
              have CR := rnext_any la zs k lc HK xa H nh xc HNH wP SZ SB IA.de.ok (by omega)
              have HLOK : Hid (LOk zs) := hlok
              have l15 : Hid (∀ s, ln zs s ≤ 15) := fun s => (hlok.ln s).2
              clear CN a0 a1 a2 a3 a4 hA OL SZ SB rx hlok hu
              rcases hN with ⟨s, hbs, rfl, rP⟩ | ⟨hnb, hm, rfl, rP⟩ | ⟨hnb, hm, rfl, rP⟩
              · have HBS : Hid (Beg zs H s) := hbs
                clear hbs
                go_wp2_with fail
                refine CR.mono ?_
                rintro e w2 ⟨hR, b2⟩
                rcases hR with ⟨s2, hbs2, rfl⟩ | ⟨h, _⟩ | ⟨h, _⟩
                · obtain rfl := beg_one HLOK.out hbs2 HBS.out
                  have hl15 := l15.out s2
                  have hth : there H (ln zs s2 : Int) = true := there_of (by omega) hbs2.2.2.1
                  have e1 : takeL H (ln zs s2 : Int) = H.drop (ln zs s2) := by unfold takeL; rw [hth]; simp
                  have e2 : takeT H t (ln zs s2 : Int) = t + ln zs s2 := by unfold takeT; rw [hth]; simp
                  have x2 : RrL w2 bx B u H t := (show RrL wP bx B u H t from HXP.out).kp (S := fun _ => False) (Kp.of_below b2) (by simp) (by simp)
                  have CT := rtake_any bx B u H t (ln zs s2 : Int) w2 x2 (by omega) (by rw [HNH.out]; exact hle)
                  rw [e1, e2] at CT
                  have HKP : Hid (Kp (fun x => x = br) wA wP) := kP
                  clear CR cx hbs2 e1 e2 hth
                  generalize ln zs s2 = l2 at *
                  generalize takeV H (l2 : Int) = tv at *
                  generalize there H (l2 : Int) = tb at *
                  go_wp2_with fail
                  refine CT.mono ?_
                  rintro e w9 ⟨rfl, u9, x9, k9, f9⟩
                  have kk : Kp (WS bx u) wP w9 := (Kp.of_below b2).trans k9 (fun _ _ e => e)
                  have I9 := IA.two rP HKP.out x9 kk (f9.wide b2.size)
                  have X9 : Below bd w w9 := xA.trans (IA.two_below HKP.out kk (Nat.le_refl _))
                  have ht9 : t + l2 ≤ 64 * (i + 1) := by omega
                  clear CT x9 k9 f9 rP kP HKP kk IA xA xAw x2 b2 HXP
                  generalize H.drop l2 = H9 at *
                  generalize t + l2 = t9 at *
                  obtain ⟨xa9, xc9, hu9, rx9⟩ := I9.x
                  have cx9 := rx9.cell0
                  have hlt9 := rx9.b_lt
                  have CH : Hid (∀ W, Below w9.heap.size w9 W → Calls Try.prog 36 #[.pointer (some ⟨br, 0, none⟩)] W fun e w' => e = .returned (.int .i64 (H9.length : Int)) ∧ w' = W) := fun W hW => has_any br H9 _ W (I9.old hW).r
                  have CRm : Hid (∀ W, Below w9.heap.size w9 W → Calls Try.prog 28 #[.pointer (some ⟨bd, 0, none⟩)] W fun e w' => e = .returned (.int .i64 (8 * (S : Int) + 256)) ∧ w' = W) := fun W hW => room_any bd S _ W (I9.old hW).de
                  have HC9 : Hid (∀ W, Below w9.heap.size w9 W → W.cell? ⟨bx, 0, none⟩ = some (.slice xa9 H9.length xc9)) := fun W hW => (hW.cell (p := ⟨bx, 0, none⟩) hlt9).trans cx9
                  have bt0 : Below w9.heap.size w9 w9.drew := (Below.refl _ _).drew
                  have hcd := HC9.out _ bt0
                  have HI9 : Hid _ := I9
                  have hbw9 : bd ≤ w9.heap.size := by have := I9.size; have := I9.ord; omega
                  have hw8 : IntKind.i64.wrap (8 * (S : Int)) = 8 * (S : Int) := IntWalk.i64_in _ (by omega)
                  have hw9 : IntKind.i64.wrap (8 * (S : Int) + 256) = 8 * (S : Int) + 256 := IntWalk.i64_in _ (by omega)
                  clear I9 rx9 cx9 hu9
                  go_wp2_with fail
                  go_region_held3 (fun w' => w'.cell? ⟨bx, 0, none⟩ = some (.slice xa9 H9.length xc9))
                    (first | go_keep | (exact HC9.out _ (by assumption)))
                    (first
                      | (go_at_call 36; refine (CH.out _ (by assumption)).mono ?_; rintro e wl ⟨rfl, hwl⟩; subst wl)
                      | (go_at_call 28; refine (CRm.out _ (by assumption)).mono ?_; rintro e wl ⟨rfl, hwl⟩; subst wl))
                  all_goals
                    go_wp2_with fail
                    go_roundw
                    case rel => exact ⟨i + 1, _, _, _, _, _, H9, _, by omega, by go_num, rfl, (by first | exact HK | exact HNL), HI9.out.old bt0, ht9, X9.trans (bt0.mono hbw9)⟩
                    case measure => simp [intOf]; omega
                · exact absurd HBS.out (h _)
                · exact absurd HBS.out (h _)
              · have HNB : Hid ((∀ s, ¬ Beg zs H s) ∧ May zs H) := ⟨hnb, hm⟩
                clear hnb hm
                go_wp2_with fail
                refine CR.mono ?_
                rintro e w9 ⟨hR, b2⟩
                rcases hR with ⟨s2, hbs2, _⟩ | ⟨_, _, rfl⟩ | ⟨_, h, _⟩
                · exact absurd hbs2 (HNB.out.1 _)
                · skip
                  have I9 : DI w9 bd br bx B S zs (.slice la k lc) u H t := IA.two rP kP ((show RrL wP bx B u H t from HXP.out).kp (S := fun _ => False) (Kp.of_below b2) (by simp) (by simp)) (Kp.of_below b2) (fun k e => .inl e)
                  have X9 : Below bd w w9 := xA.trans (IA.two_below kP (Kp.of_below b2) (Nat.le_refl _))
                  have ht9 : t ≤ 64 * (i + 1) := by omega
                  clear CR rP kP IA xA xAw b2 HXP cx
                  obtain ⟨H9, hH9⟩ : ∃ H9, H9 = H := ⟨_, rfl⟩
                  rw [← hH9] at I9
                  clear hH9
                  obtain ⟨xa9, xc9, hu9, rx9⟩ := I9.x
                  have cx9 := rx9.cell0
                  have hlt9 := rx9.b_lt
                  have CH : Hid (∀ W, Below w9.heap.size w9 W → Calls Try.prog 36 #[.pointer (some ⟨br, 0, none⟩)] W fun e w' => e = .returned (.int .i64 (H9.length : Int)) ∧ w' = W) := fun W hW => has_any br H9 _ W (I9.old hW).r
                  have CRm : Hid (∀ W, Below w9.heap.size w9 W → Calls Try.prog 28 #[.pointer (some ⟨bd, 0, none⟩)] W fun e w' => e = .returned (.int .i64 (8 * (S : Int) + 256)) ∧ w' = W) := fun W hW => room_any bd S _ W (I9.old hW).de
                  have HC9 : Hid (∀ W, Below w9.heap.size w9 W → W.cell? ⟨bx, 0, none⟩ = some (.slice xa9 H9.length xc9)) := fun W hW => (hW.cell (p := ⟨bx, 0, none⟩) hlt9).trans cx9
                  have bt0 : Below w9.heap.size w9 w9.drew := (Below.refl _ _).drew
                  have hcd := HC9.out _ bt0
                  have HI9 : Hid _ := I9
                  have hbw9 : bd ≤ w9.heap.size := by have := I9.size; have := I9.ord; omega
                  have hw8 : IntKind.i64.wrap (8 * (S : Int)) = 8 * (S : Int) := IntWalk.i64_in _ (by omega)
                  have hw9 : IntKind.i64.wrap (8 * (S : Int) + 256) = 8 * (S : Int) + 256 := IntWalk.i64_in _ (by omega)
                  clear I9 rx9 cx9 hu9
                  go_wp2_with fail
                  go_region_held3 (fun w' => w'.cell? ⟨bx, 0, none⟩ = some (.slice xa9 H9.length xc9))
                    (first | go_keep | (exact HC9.out _ (by assumption)))
                    (first
                      | (go_at_call 36; refine (CH.out _ (by assumption)).mono ?_; rintro e wl ⟨rfl, hwl⟩; subst wl)
                      | (go_at_call 28; refine (CRm.out _ (by assumption)).mono ?_; rintro e wl ⟨rfl, hwl⟩; subst wl))
                  all_goals
                    go_wp2_with fail
                    go_roundw
                    case rel => exact ⟨i + 1, _, _, _, _, _, H9, _, by omega, by go_num, rfl, (by first | exact HK | exact HNL), HI9.out.old bt0, ht9, X9.trans (bt0.mono hbw9)⟩
                    case measure => simp [intOf]; omega
                · exact absurd HNB.out.2 h
              · have HNB : Hid ((∀ s, ¬ Beg zs H s) ∧ ¬ May zs H) := ⟨hnb, hm⟩
                clear hnb hm
                go_wp2_with fail
                refine CR.mono ?_
                rintro e w9 ⟨hR, b2⟩
                rcases hR with ⟨s2, hbs2, _⟩ | ⟨_, h, _⟩ | ⟨_, _, rfl⟩
                · exact absurd hbs2 (HNB.out.1 _)
                · exact absurd h HNB.out.2
                · skip
                  have I9 : DI w9 bd br bx B S zs (.slice la k lc) u H t := IA.two rP kP ((show RrL wP bx B u H t from HXP.out).kp (S := fun _ => False) (Kp.of_below b2) (by simp) (by simp)) (Kp.of_below b2) (fun k e => .inl e)
                  have X9 : Below bd w w9 := xA.trans (IA.two_below kP (Kp.of_below b2) (Nat.le_refl _))
                  have ht9 : t ≤ 64 * (i + 1) := by omega
                  clear CR rP kP IA xA xAw b2 HXP cx
                  obtain ⟨H9, hH9⟩ : ∃ H9, H9 = H := ⟨_, rfl⟩
                  rw [← hH9] at I9
                  clear hH9
                  obtain ⟨xa9, xc9, hu9, rx9⟩ := I9.x
                  have cx9 := rx9.cell0
                  have hlt9 := rx9.b_lt
                  have CH : Hid (∀ W, Below w9.heap.size w9 W → Calls Try.prog 36 #[.pointer (some ⟨br, 0, none⟩)] W fun e w' => e = .returned (.int .i64 (H9.length : Int)) ∧ w' = W) := fun W hW => has_any br H9 _ W (I9.old hW).r
                  have CRm : Hid (∀ W, Below w9.heap.size w9 W → Calls Try.prog 28 #[.pointer (some ⟨bd, 0, none⟩)] W fun e w' => e = .returned (.int .i64 (8 * (S : Int) + 256)) ∧ w' = W) := fun W hW => room_any bd S _ W (I9.old hW).de
                  have HC9 : Hid (∀ W, Below w9.heap.size w9 W → W.cell? ⟨bx, 0, none⟩ = some (.slice xa9 H9.length xc9)) := fun W hW => (hW.cell (p := ⟨bx, 0, none⟩) hlt9).trans cx9
                  have bt0 : Below w9.heap.size w9 w9.drew := (Below.refl _ _).drew
                  have hcd := HC9.out _ bt0
                  have HI9 : Hid _ := I9
                  have hbw9 : bd ≤ w9.heap.size := by have := I9.size; have := I9.ord; omega
                  have hw8 : IntKind.i64.wrap (8 * (S : Int)) = 8 * (S : Int) := IntWalk.i64_in _ (by omega)
                  have hw9 : IntKind.i64.wrap (8 * (S : Int) + 256) = 8 * (S : Int) + 256 := IntWalk.i64_in _ (by omega)
                  clear I9 rx9 cx9 hu9
                  go_wp2_with fail
                  go_region_held3 (fun w' => w'.cell? ⟨bx, 0, none⟩ = some (.slice xa9 H9.length xc9))
                    (first | go_keep | (exact HC9.out _ (by assumption)))
                    (first
                      | (go_at_call 36; refine (CH.out _ (by assumption)).mono ?_; rintro e wl ⟨rfl, hwl⟩; subst wl)
                      | (go_at_call 28; refine (CRm.out _ (by assumption)).mono ?_; rintro e wl ⟨rfl, hwl⟩; subst wl))
                  all_goals
                    go_wp2_with fail
                    go_roundw
                    case rel => exact ⟨i + 1, _, _, _, _, _, H9, _, by omega, by go_num, rfl, (by first | exact HK | exact HNL), HI9.out.old bt0, ht9, X9.trans (bt0.mono hbw9)⟩
                    case measure => simp [intOf]; omega
      · skip
        obtain rfl : i = n := by omega
        have C9 := next5_nil bd S zs wr I.de
        go_wp2_with fail
        refine C9.mono ?_
        rintro e w2 ⟨rfl, hw2⟩
        subst w2
        go_wp2_with fail
        refine (lives5_any _).mono ?_
        rintro e wv ⟨rfl, bv⟩
        go_wp2
        go_ret
        exact ⟨rfl, hxw.trans (bv.mono hxw.size)⟩
end Go.Proofs.Ytkjccbihdinlkaa
