import Derived.Test.YtkjccbihdinlkaaPar
import Derived.Test.YtkjccbihdinlkaaProg
import Derived.Test.YtkjccbihdinlkaaPac
import Derived.WalkKit
import Derived.WalkSpells
import Derived.Laws.BytesArg
namespace Go.Proofs.Ytkjccbihdinlkaa
open Go.RowKit
set_option linter.unusedVariables false

/-- The codes that have been given out when length n has come to symbol s. -/
def cdn (zs : List Int) (N n s : Nat) : List Int := (List.range N).map fun t => if 0 < ln zs t ∧ (ln zs t < n ∨ (ln zs t = n ∧ t < s)) then (cd zs t : Int) else 0
theorem cdn_len (zs : List Int) (N n s : Nat) : (cdn zs N n s).length = N := by simp [cdn]
theorem cdn_zero (zs : List Int) (N : Nat) : cdn zs N 1 0 = List.replicate N 0 := by
  apply List.ext_getElem (by simp [cdn])
  intro i h1 h2
  simp only [cdn, List.getElem_map, List.getElem_range, List.getElem_replicate]
  rw [if_neg (by omega)]
theorem cdn_next (zs : List Int) (n : Nat) : cdn zs zs.length n zs.length = cdn zs zs.length (n + 1) 0 := by
  unfold cdn
  apply List.map_congr_left
  intro t ht
  rw [List.mem_range] at ht
  have e : (0 < ln zs t ∧ (ln zs t < n ∨ ln zs t = n ∧ t < zs.length)) = (0 < ln zs t ∧ (ln zs t < n + 1 ∨ ln zs t = n + 1 ∧ t < 0)) := propext (by omega)
  simp only [e]
theorem cdn_skip {zs : List Int} {N n s : Nat} (h : ln zs s ≠ n) : cdn zs N n (s + 1) = cdn zs N n s := by
  unfold cdn
  apply List.map_congr_left
  intro t _
  have e : (0 < ln zs t ∧ (ln zs t < n ∨ ln zs t = n ∧ t < s + 1)) = (0 < ln zs t ∧ (ln zs t < n ∨ ln zs t = n ∧ t < s)) := by
    apply propext
    by_cases c : t = s
    · subst c; omega
    · omega
  simp only [e]
theorem cdn_put {zs : List Int} {N n s : Nat} (h : ln zs s = n) (h0 : 0 < n) : (cdn zs N n s).set s (cd zs s : Int) = cdn zs N n (s + 1) := by
  apply List.ext_getElem (by simp [cdn])
  intro i h1 h2
  simp only [List.getElem_set, cdn, List.getElem_map, List.getElem_range]
  by_cases e : s = i
  · subst e
    rw [if_pos rfl, if_pos (by omega)]
  · rw [if_neg e]
    have e2 : (0 < ln zs i ∧ (ln zs i < n ∨ ln zs i = n ∧ i < s)) = (0 < ln zs i ∧ (ln zs i < n ∨ ln zs i = n ∧ i < s + 1)) := propext (by omega)
    simp only [e2]
theorem cdn_all {zs : List Int} (h : LOk zs) : cdn zs zs.length 16 0 = cds zs := by
  unfold cdn cds
  apply List.map_congr_left
  intro t ht
  have hl := (h.ln t).2
  by_cases c : 0 < ln zs t
  · rw [if_pos (by omega)]
  · rw [if_neg (by omega)]
    have : zs.getD t 0 = 0 := by have := (h.ln t).1; omega
    rw [cd_none this]
    rfl
/-- What the document's two numbers mean at length n, symbol s. -/
def NL (zs : List Int) (n s nx la : Nat) : Prop := (la = 0 → nx = 0 ∧ cF zs n + cC (zs.take s) n = 0) ∧ (0 < la → la ≤ n ∧ (nx + 1) * 2 ^ (n - la) = cF zs n + cC (zs.take s) n)
theorem NL.start (zs : List Int) : NL zs 1 0 0 0 := by
  refine ⟨fun _ => ⟨rfl, ?_⟩, fun h => by omega⟩
  rw [cF_succ, cC_zero, List.take_zero]
  unfold cC
  simp [cF]
theorem NL.next {zs : List Int} {n nx la : Nat} (h : NL zs n zs.length nx la) : NL zs (n + 1) 0 nx la := by
  have e0 : cC (zs.take 0) (n + 1) = 0 := by rw [List.take_zero]; unfold cC; split <;> simp
  have e1 : zs.take zs.length = zs := List.take_length
  unfold NL at h ⊢
  rw [e1] at h
  rw [e0, cF_succ]
  refine ⟨fun hl => ⟨(h.1 hl).1, by have := (h.1 hl).2; omega⟩, fun hl => ⟨by have := (h.2 hl).1; omega, ?_⟩⟩
  have h2 := h.2 hl
  rw [show n + 1 - la = (n - la) + 1 by omega, Nat.pow_succ, ← Nat.mul_assoc, h2.2]
  omega
theorem NL.skip {zs : List Int} {n s nx la : Nat} {z : Int} (h : NL zs n s nx la) (ht : zs.take (s + 1) = zs.take s ++ [z]) (hz : z ≠ (n : Int)) : NL zs n (s + 1) nx la := by
  unfold NL at h ⊢
  rw [ht, cC_snoc, if_neg (fun e => hz e.2), Nat.add_zero]
  exact h
theorem NL.code {zs : List Int} {n s nx la : Nat} (h : NL zs n s nx la) (hz : zs.getD s 0 = (n : Int)) (h0 : 0 < n) : cd zs s = (if la = 0 then nx else (nx + 1) * 2 ^ (n - la)) := by
  have e := cd_nxt hz h0
  by_cases c : la = 0
  · rw [if_pos c]
    have := h.1 c
    omega
  · rw [if_neg c]
    have := (h.2 (by omega)).2
    omega
theorem NL.put {zs : List Int} {n s : Nat} (ht : zs.take (s + 1) = zs.take s ++ [(n : Int)]) (hz : zs.getD s 0 = (n : Int)) (h0 : 0 < n) : NL zs n (s + 1) (cd zs s) n := by
  have e := cd_nxt hz h0
  refine ⟨fun h => by omega, fun _ => ⟨Nat.le_refl _, ?_⟩⟩
  rw [ht, cC_snoc, if_pos ⟨by omega, rfl⟩, Nat.sub_self, Nat.pow_zero, Nat.mul_one]
  omega

theorem NL.bd {zs : List Int} {n s nx la : Nat} (h : NL zs n s nx la) (hf : cF zs n ≤ 100000000) (hc : cC (zs.take s) n ≤ 288) : nx ≤ 100001000 := by
  by_cases c : la = 0
  · have := (h.1 c).1; omega
  · have h1 := (h.2 (by omega)).2
    have h2 : (nx + 1) * 1 ≤ (nx + 1) * 2 ^ (n - la) := Nat.mul_le_mul_left _ Nat.one_le_two_pow
    omega
def RodQ (w : World) (zs : List Int) (e : Ending) (w' : World) : Prop := ∃ b c, e = .returned (.tuple #[.slice b (cdsR zs).length c, .int .i64 (errC zs)]) ∧ w'.ownsRow w.heap.size 3 1 (.slice b (cdsR zs).length c) (cdsR zs).length ((cdsR zs).map (Value.int .i64)) ∧ Below w.heap.size w w'
set_option maxRecDepth 100000 in
set_option maxHeartbeats 2000000 in
theorem rcodes_any (a : Option Addr) (zs : List Int) (n cap : Nat) (hn : Hid (zs.length = n)) (w : World) (hs : SegZ w a zs) (hl : n ≤ 9223372036854775807) :
    Calls Try.prog 14 #[.slice a n cap] w fun e w' => RodQ w zs e w' := by
  have HC := rcheck_any a zs n cap hn w hs hl
  by_cases hok : errC zs = 0
  · have HOK : Hid (errC zs = 0) := hok
    have HL := errS_zero (errC_zero hok).1
    have HLK : Hid (LOk zs) := HL.2
    have hn288 : n ≤ 288 := by have := hn.out; have := HL.1; omega
    rw [hok] at HC
    clear hok HL
    have hb : ∀ l, cC zs l ≤ 288 := cC_288 (errC_zero HOK.out).1
    have HFB : Hid (∀ l, l ≤ 15 → cF zs l ≤ 100000000) := cF_bd hb
    have hmk := run_make_ints n (by omega)
    go_enter Try.func14, Try.ntmps14
    go_wp2_with fail
    refine HC.mono ?_
    rintro e w1 ⟨rfl, hw1⟩
    subst w1
    go_wp2_with fail
    have hO := own_zeros w n (by omega)
    have B5 : Below w.heap.size w (w.alloc (.cells (Array.replicate n (.int .i64 0)) 3)) := (Below.refl _ _).alloc (Nat.le_refl _) _
    generalize w.alloc (.cells (Array.replicate n (.int .i64 0)) 3) = W5 at *
    obtain ⟨g, eg⟩ : ∃ g, g = w.heap.size := ⟨_, rfl⟩
    have HG : Hid (w.heap.size ≤ g) := Nat.le_of_eq eg.symm
    rw [← eg]
    rw [show (Value.slice (some ⟨w.heap.size, 0, none⟩) n n) = .slice (some ⟨g, 0, none⟩) n n by rw [← eg]] at hO
    rw [← cdn_zero zs n] at hO
    clear eg
    go_loopw [6, 7, 8] (fun tn ta tl wr => ∃ nx la lv : Nat, 1 ≤ lv ∧ lv ≤ 16 ∧ tn = .int .i64 (nx : Int) ∧ ta = .int .i64 (la : Int) ∧ tl = .int .i64 (lv : Int) ∧ wr.ownsRow w.heap.size 3 1 (.slice (some ⟨g, 0, none⟩) n n) n ((cdn zs n lv 0).map (Value.int .i64)) ∧ Below w.heap.size w wr ∧ Hid (NL zs lv 0 nx la)) (fun _ _ tl _ => 16 - (intOf tl).toNat)
    case atStart => exact ⟨0, 0, 1, by omega, by omega, rfl, rfl, rfl, hO, B5, NL.start zs⟩
    case round =>
      obtain ⟨nx, la, lv, hlv1, hlv2, rfl, rfl, rfl, O1, B1, HNL⟩ := hrel
      by_cases hlv : lv ≤ 15
      · have hlvi : (lv : Int) ≤ 15 := by omega
        have hfb := HFB.out lv hlv
        have HFL : Hid (cF zs lv ≤ 100000000) := hfb
        clear hfb
        go_wp2_with fail
        go_loopw [6, 7, 25] (fun tn ta tj wr => ∃ nx la j : Nat, j ≤ n ∧ tn = .int .i64 (nx : Int) ∧ ta = .int .i64 (la : Int) ∧ tj = .int .i64 (j : Int) ∧ wr.ownsRow w.heap.size 3 1 (.slice (some ⟨g, 0, none⟩) n n) n ((cdn zs n lv j).map (Value.int .i64)) ∧ Below w.heap.size w wr ∧ Hid (NL zs lv j nx la)) (fun _ _ tj _ => n - (intOf tj).toNat)
        case atStart => exact ⟨nx, la, 0, by omega, rfl, rfl, rfl, O1, B1, HNL⟩
        case round =>
          obtain ⟨nx, la, j, hj, rfl, rfl, rfl, OJ, Bw, HN⟩ := hrel
          clear O1 B1 HNL
          by_cases hjn : j < n
          · have hji : (j : Int) < (n : Int) := by omega
            obtain ⟨b, off, rfl, c0⟩ := (hs.old Bw).at_ j (by have := hn.out; omega)
            have HTK : Hid (zs.take (j + 1) = zs.take j ++ [zs.getD j 0]) := take_snocZ (by have := hn.out; omega)
            have hzl := HLK.out.ln j
            have HZL : Hid (zs.getD j 0 = (ln zs j : Int)) := hzl.1
            have HZ : Hid (∃ z, z = zs.getD j 0) := ⟨_, rfl⟩
            obtain ⟨z, hz⟩ := HZ.out
            have HZJ : Hid (z = zs.getD j 0) := hz
            have hbz : 0 ≤ z ∧ z ≤ 15 := by rw [hz]; exact HLK.out.get j
            rw [← hz] at HTK c0
            clear HZ hz hzl
            by_cases hzl : z = (lv : Int)
            · have HLJ : Hid (ln zs j = lv) := by have h1 := HZJ.out; have h2 := HZL.out; show _ = _; omega
              have HZV : Hid (zs.getD j 0 = (lv : Int)) := by show _ = _; rw [← HZJ.out]; exact hzl
              have HCD : Hid (cd zs j = if la = 0 then nx else (nx + 1) * 2 ^ (lv - la)) := HN.out.code HZV.out (by omega)
              have hnb : nx ≤ 100001000 := HN.out.bd HFL.out (Nat.le_trans (cC_le _ _) (by have := hn.out; simp; omega))
              have hcdb : cd zs j < 32768 := (cd_small HOK.out (by have := hn.out; omega)).2.2
              have HTK2 : Hid (zs.take (j + 1) = zs.take j ++ [(lv : Int)]) := by have := HTK.out; rw [hzl] at this; exact this
              have HNP : Hid (NL zs lv (j + 1) (cd zs j) lv) := NL.put HTK2.out HZV.out (by omega)
              obtain ⟨a0, fz⟩ := own_cell1 OJ (i := j) (by rw [cdn_len]; omega)
              have f0 := fz j
              obtain ⟨OS, GS⟩ := OJ.stored j (.int .i64 (cd zs j : Int))
              rw [← List.map_set, cdn_put HLJ.out (by omega)] at OS
              have HOS : Hid _ := OS
              have HBS : Hid _ := Bw.grown GS Bw.size (fun k hk => by cases hk; exact HG.out)
              clear OS GS fz
              generalize (cdn zs n lv j).getD j 0 = zz at *
              have HC2 : Hid (∃ c, c = cd zs j) := ⟨_, rfl⟩
              obtain ⟨c, hc⟩ := HC2.out
              have HCJ : Hid (c = cd zs j) := hc
              rw [← hc] at HCD hcdb HNP HOS HBS
              clear hc HC2
              subst hzl
              by_cases hla : la = 0
              · subst hla
                have e : Hid (c = nx) := by show _ = _; have := HCD.out; simpa using this
                have e2 := e.out
                subst e2
                clear HCD
                go_wp2_with fail
                go_roundw
                case rel => exact ⟨c, lv, j + 1, by omega, rfl, rfl, by go_num, HOS.out, HBS.out, HNP⟩
                case measure => simp [intOf]; omega
              · have hlai : (0 : Int) < (la : Int) := by omega
                have hlal : la ≤ lv := (HN.out.2 (by omega)).1
                obtain ⟨q, hq⟩ : ∃ q : Nat, q = lv - la := ⟨_, rfl⟩
                have rq : (lv : Int) - (la : Int) = (q : Int) := by omega
                obtain ⟨y, hy⟩ : ∃ y, y = nx + 1 := ⟨_, rfl⟩
                have ry : (nx : Int) + 1 = (y : Int) := by omega
                have HCE : Hid (c = y * 2 ^ q) := by have := HCD.out; rw [if_neg hla, ← hq, ← hy] at this; exact this
                have hw : RowKit.wrap64 ((y : Int) * 2 ^ q) = (c : Int) := by
                  have e : ((y : Int) * 2 ^ q) = (c : Int) := by rw [HCE.out]; simp
                  rw [e, ← IntWalk.i64_left]
                  exact IntWalk.i64_in _ (by omega)
                have hq15 : q ≤ 15 := by omega
                have hyb : y ≤ 100001001 := by omega
                clear hq hy HCD
                go_wp2_with fail
                go_roundw
                case rel => exact ⟨c, lv, j + 1, by omega, by rw [hw], rfl, by go_num, HOS.out, HBS.out, HNP⟩
                case measure => simp [intOf]; omega
            · have HLJ : Hid (ln zs j ≠ lv) := by have h1 := HZJ.out; have h2 := HZL.out; show _ ≠ _; omega
              have HNS : Hid (NL zs lv (j + 1) nx la) := HN.out.skip HTK.out hzl
              go_wp2_with fail
              go_roundw
              case rel => exact ⟨nx, la, j + 1, by omega, rfl, rfl, by go_num, by rw [cdn_skip HLJ.out]; exact OJ, Bw, HNS⟩
              case measure => simp [intOf]; omega
          · obtain rfl : j = n := by omega
            have HNX : Hid (NL zs (lv + 1) 0 nx la) := by have := HN.out; rw [← hn.out] at this; exact this.next
            have e : cdn zs j lv j = cdn zs j (lv + 1) 0 := by have := cdn_next zs lv; rw [hn.out] at this; exact this
            rw [e] at OJ
            clear e
            go_wp2_with fail
            go_roundw
            case rel => exact ⟨nx, la, lv + 1, by omega, by omega, rfl, rfl, by go_num, OJ, Bw, HNX⟩
            case measure => simp [intOf]; omega
      · obtain rfl : lv = 16 := by omega
        go_wp2_with fail
        go_ret2
        have e1 : cdsR zs = cds zs := by unfold cdsR; rw [if_pos HOK.out]
        have e2 : cdn zs n 16 0 = cds zs := by have := cdn_all HLK.out; rw [hn.out] at this; exact this
        have e3 : (cds zs).length = n := by rw [cds_len]; exact hn.out
        refine ⟨some ⟨g, 0, none⟩, n, ?_, ?_, B1⟩
        · rw [e1, e3, HOK.out]; rfl
        · rw [e1, e3, ← e2]; exact O1
  · have HNK : Hid (¬ errC zs = 0) := hok
    have e1 : Hid (cdsR zs = []) := by show _ = _; unfold cdsR; rw [if_neg hok]
    have key : ∀ E : Int, E = 50 ∨ E = 51 ∨ E = 52 → errC zs = E → Calls Try.prog 14 #[.slice a n cap] w fun e w' => RodQ w zs e w' := by
      intro E hE hEE
      have HEE : Hid (errC zs = E) := hEE
      rw [hEE] at HC
      clear hEE hok
      rcases hE with rfl | rfl | rfl
      all_goals
        go_enter Try.func14, Try.ntmps14
        go_wp2_with fail
        refine HC.mono ?_
        rintro e w1 ⟨rfl, hw1⟩
        subst w1
        go_wp2_with fail
        go_ret2
        refine ⟨none, 0, ?_, ?_, Below.refl _ _⟩
        · rw [e1.out, HEE.out]; rfl
        · rw [e1.out]; exact World.ownsRow_nil _ _ _ _
    rcases errC_cases zs with h | h | h | h
    · exact absurd h hok
    · exact key 50 (.inl rfl) h
    · exact key 51 (.inr (.inl rfl)) h
    · exact key 52 (.inr (.inr rfl)) h
end Go.Proofs.Ytkjccbihdinlkaa

namespace Go.Proofs.Ytkjccbihdinlkaa
open Go.RowKit
set_option linter.unusedVariables false

theorem run_conv_seg {P : Program} {w : World} {a : Option Addr} {zs : List Int} (cap : Nat) (h : Seg w a zs) (src e dst : TypeId) (hs : P.underlying src = some (.slice e)) (he : P.underlying e = some (.int .u8)) (hd : P.underlying dst = some .string) :
    (convert src dst (.slice a zs.length cap)).run P w = .ok (.string (strOfNums zs)) w := by
  by_cases hz : 0 < zs.length
  · obtain ⟨b, off, rfl, _⟩ := h.at_ 0 hz
    refine run_convert_bytes_arg w src e hs he b off zs.length cap zs rfl (fun i hi => ?_) dst hd
    obtain ⟨b', off', hb, hc⟩ := h.at_ i hi
    cases hb
    exact hc
  · have : zs = [] := List.eq_nil_of_length_eq_zero (by omega)
    subst this
    cases a with
    | none => exact run_convert_bytes_nil w src e hs he _ _ dst hd
    | some x =>
      rw [run_convert_bytes_string w src dst e _ _ cap hs he hd]
      have hl : (loadCells x 0).run P w = .ok (([] : List Int).map (Value.int .u8)).toArray w := by simp [loadCells, loadCellsFrom]
      have := run_bytesToString (P := P) w x 0 cap [] hl
      exact this

theorem str_inj {xs ys : List Int} (hx : ∀ z ∈ xs, 0 ≤ z ∧ z ≤ 255) (hy : ∀ z ∈ ys, 0 ≤ z ∧ z ≤ 255) : ((strOfNums xs).toList == (strOfNums ys).toList) = (xs == ys) := by
  rw [ByteArray.toList_eq, ByteArray.toList_eq, strOfNums_data, strOfNums_data]
  have key : ∀ (xs ys : List Int), (∀ z ∈ xs, 0 ≤ z ∧ z ≤ 255) → (∀ z ∈ ys, 0 ≤ z ∧ z ≤ 255) → (xs.map fun n => UInt8.ofNat n.toNat) = (ys.map fun n => UInt8.ofNat n.toNat) → xs = ys := by
    intro xs
    induction xs with
    | nil => intro ys _ _ h; cases ys with
      | nil => rfl
      | cons y r => simp at h
    | cons x r ih =>
      intro ys hx hy h
      cases ys with
      | nil => simp at h
      | cons y t =>
        simp only [List.map_cons, List.cons.injEq] at h
        have h1 := hx x (by simp)
        have h2 := hy y (by simp)
        have h3 := congrArg UInt8.toNat h.1
        simp at h3
        have h4 : x = y := by omega
        rw [h4, ih t (fun z hz => hx z (by simp [hz])) (fun z hz => hy z (by simp [hz])) h.2]
  rw [Bool.eq_iff_iff, beq_iff_eq, beq_iff_eq]
  exact ⟨key xs ys hx hy, fun h => by rw [h]⟩

set_option maxRecDepth 100000 in
theorem bsame_any (a b : Option Addr) (xs ys : List Int) (ca cb : Nat) (w : World) (hx : Seg w a xs) (hy : Seg w b ys) :
    Calls Try.prog 24 #[.slice a xs.length ca, .slice b ys.length cb] w fun e w' => e = .returned (.bool (xs == ys)) ∧ w' = w := by
  have h1 := run_conv_seg (P := Try.prog) ca hx 42 5 9 Try.underlying42 Try.underlying5 Try.underlying9
  have h2 := run_conv_seg (P := Try.prog) cb hy 42 5 9 Try.underlying42 Try.underlying5 Try.underlying9
  have HE : Hid (((strOfNums xs).toList == (strOfNums ys).toList) = (xs == ys)) := str_inj hx.mem hy.mem
  go_enter Try.func24, Try.ntmps24
  go_wp2
  go_ret
  exact ⟨by rw [← HE.out]; rfl, rfl⟩
end Go.Proofs.Ytkjccbihdinlkaa
