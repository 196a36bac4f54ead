
import Derived.Test.YtbgnlbgoeogbaaaSaB1
namespace Go.Proofs.Ytbgnlbgoeogbaaa
open Go.RowKit
set_option linter.unusedVariables false

/-! The document's Buckets. -/
def cc12 (K : Nat) (l : List Int) : List Int := (List.range K).map (fun u : Nat => ((l.countP (fun x => decide (x = (u : Int))) : Nat) : Int))
theorem cc12_len (K : Nat) (l : List Int) : (cc12 K l).length = K := by simp [cc12]
theorem cc12_get {K : Nat} {l : List Int} {u : Nat} (h : u < K) : (cc12 K l).getD u 0 = ((l.countP (fun x => decide (x = (u : Int))) : Nat) : Int) := by simp [cc12, List.getD, h]
theorem cc12_nil (K : Nat) : cc12 K [] = List.replicate K 0 := by
  refine List.ext_getElem (by simp [cc12]) fun i h1 h2 => ?_
  simp [cc12]
theorem cc12_snoc (K : Nat) (l : List Int) (x : Nat) (hx : x < K) : (cc12 K l).set x ((cc12 K l).getD x 0 + 1) = cc12 K (l ++ [(x : Int)]) := by
  rw [cc12_get hx]
  refine List.ext_getElem (by simp [cc12]) fun i h1 h2 => ?_
  simp only [cc12, List.getElem_set, List.getElem_map, List.getElem_range, List.countP_append, List.countP_cons, List.countP_nil]
  by_cases e : x = i
  · subst e; simp
  · have : ¬ (x : Int) = (i : Int) := by omega
    simp [e, this]
def fp12 (K : Nat) (s : List Int) (v : Nat) : List Int := (List.range K).map (fun u : Nat => if u < v then ((cnt12 s (u : Int) : Nat) : Int) else 0)
def tp12 (K : Nat) (s : List Int) (v : Nat) : List Int := (List.range K).map (fun u : Nat => if u < v then ((cnt12 s ((u : Int) + 1) : Nat) : Int) else 0)
theorem fp12_len (K : Nat) (s : List Int) (v : Nat) : (fp12 K s v).length = K := by simp [fp12]
theorem tp12_len (K : Nat) (s : List Int) (v : Nat) : (tp12 K s v).length = K := by simp [tp12]
theorem fp12_zero (K : Nat) (s : List Int) : fp12 K s 0 = List.replicate K 0 := by
  refine List.ext_getElem (by simp [fp12]) fun i h1 h2 => ?_
  simp [fp12]
theorem tp12_zero (K : Nat) (s : List Int) : tp12 K s 0 = List.replicate K 0 := by
  refine List.ext_getElem (by simp [tp12]) fun i h1 h2 => ?_
  simp [tp12]
theorem fp12_all (K : Nat) (s : List Int) : fp12 K s K = fr12 K s := by
  refine List.ext_getElem (by simp [fp12, fr12]) fun i h1 h2 => ?_
  simp [fp12] at h1
  simp [fp12, fr12, h1]
theorem tp12_all (K : Nat) (s : List Int) : tp12 K s K = to12 K s := by
  refine List.ext_getElem (by simp [tp12, to12]) fun i h1 h2 => ?_
  simp [tp12] at h1
  simp [tp12, to12, h1]
theorem fp12_set (K : Nat) (s : List Int) (v : Nat) : (fp12 K s v).set v ((cnt12 s (v : Int) : Nat) : Int) = fp12 K s (v + 1) := by
  refine List.ext_getElem (by simp [fp12]) fun i h1 h2 => ?_
  simp only [fp12, List.getElem_set, List.getElem_map, List.getElem_range]
  by_cases e : v = i
  · subst e; rw [if_pos rfl, if_pos (by omega)]
  · rw [if_neg e]
    by_cases c : i < v
    · rw [if_pos c, if_pos (by omega)]
    · rw [if_neg c, if_neg (by omega)]
theorem tp12_set (K : Nat) (s : List Int) (v : Nat) : (tp12 K s v).set v ((cnt12 s ((v : Int) + 1) : Nat) : Int) = tp12 K s (v + 1) := by
  refine List.ext_getElem (by simp [tp12]) fun i h1 h2 => ?_
  simp only [tp12, List.getElem_set, List.getElem_map, List.getElem_range]
  by_cases e : v = i
  · subst e; rw [if_pos rfl, if_pos (by omega)]
  · rw [if_neg e]
    by_cases c : i < v
    · rw [if_pos c, if_pos (by omega)]
    · rw [if_neg c, if_neg (by omega)]
theorem cnt12_next (s : List Int) (v : Int) : cnt12 s (v + 1) = cnt12 s v + s.countP (fun x => decide (x = v)) := by
  rw [cnt12_succ]
  congr 1
  refine List.countP_congr fun x _ => ?_
  simp only [decide_eq_true_eq]
  omega
theorem two_mk12 (w : World) (Z : List Int) : Rz12 ((w.alloc (.cells (vi12 Z) 3)).alloc (.cells (vi12 Z) 3)).drew w.heap.size Z ∧ Rz12 ((w.alloc (.cells (vi12 Z) 3)).alloc (.cells (vi12 Z) 3)).drew (w.heap.size + 1) Z ∧ Below w.heap.size w ((w.alloc (.cells (vi12 Z) 3)).alloc (.cells (vi12 Z) 3)).drew := by
  have b1 : Below w.heap.size w (w.alloc (.cells (vi12 Z) 3)) := (Below.refl _ _).alloc (Nat.le_refl _) _
  have b2 : Below (w.alloc (.cells (vi12 Z) 3)).heap.size (w.alloc (.cells (vi12 Z) 3)) ((w.alloc (.cells (vi12 Z) 3)).alloc (.cells (vi12 Z) 3)) := (Below.refl _ _).alloc (Nat.le_refl _) _
  have hz : (w.alloc (.cells (vi12 Z) 3)).heap.size = w.heap.size + 1 := by simp
  refine ⟨((Rz12.new w Z).old b2).drew, ?_, (b1.trans (b2.mono (by omega))).drew⟩
  have := (Rz12.new (w.alloc (.cells (vi12 Z) 3)) Z).drew
  rw [hz] at this
  exact this
def RbQ12 (w : World) (K : Nat) (s : List Int) (e : Ending) (w' : World) : Prop := ∃ gf gt, e = .returned (.tuple #[.slice (some ⟨gf, 0, none⟩) K K, .slice (some ⟨gt, 0, none⟩) K K, .int .i64 0]) ∧ Rz12 w' gf (fr12 K s) ∧ Rz12 w' gt (to12 K s) ∧ w.heap.size ≤ gf ∧ w.heap.size ≤ gt ∧ gf ≠ gt ∧ Below w.heap.size w w'
set_option maxRecDepth 100000 in
set_option maxHeartbeats 4000000 in
theorem rbks12 (K : Nat) (a : Option Addr) (s : List Int) (n cap : Nat) (w : World) (hs : SegZ w a s) (hn : Hid (s.length = n)) (hr : Hid (ref12 (K : Int) s = 0)) :
    Calls Try.prog 9 #[.int .i64 (K : Int), .slice a n cap] w (RbQ12 w K s) := by
  have hW := ref12_ok hn.out hr.out
  have hK : K ≤ 33554432 := by
    have := hr.out
    unfold ref12 at this
    split at this
    · omega
    · omega
  have hn24 : n ≤ 16777216 := hW.n24
  have HR := rwrg12 (K : Int) a s n cap w hs hn (by omega) (by omega)
  rw [hr.out] at HR
  have HM := fun w' => run_make_i12 K (by omega) w'
  have HSD : Hid (∀ W, Below w.heap.size w W → SegZ W a s) := fun W b => hs.old b
  have HVL : Hid (∀ i, i < n → ∃ x : Nat, x < K ∧ s.getD i 0 = (x : Int)) := fun i hi => by
    have := hW.val i hi
    exact ⟨(s.getD i 0).toNat, by omega, by omega⟩
  have HNX : Hid (∀ v : Nat, v < K → ((cnt12 s ((v : Int) + 1) : Nat) : Int) = ((cnt12 s (v : Int) : Nat) : Int) + (cc12 K s).getD v 0) := fun v hv => by rw [cc12_get hv, cnt12_next]; omega
  have HCB : Hid (∀ v : Int, cnt12 s v ≤ 16777216) := fun v => by have := cnt12_le s v; rw [hn.out] at this; omega
  have HC0 : Hid (cnt12 s 0 = 0) := cnt12_zero (fun z hz => (hW.mem z hz).1)
  have HCP : Hid (∀ i, (cc12 K (s.take i)).length = K ∧ ∀ j, 0 ≤ (cc12 K (s.take i)).getD j 0 ∧ (cc12 K (s.take i)).getD j 0 ≤ 16777216) := fun i => ⟨cc12_len _ _, fun j => by
    by_cases hj : j < K
    · rw [cc12_get hj]
      have h1 : (s.take i).countP (fun x => decide (x = (j : Int))) ≤ (s.take i).length := List.countP_le_length
      have h2 : (s.take i).length ≤ 16777216 := by rw [List.length_take, hn.out]; omega
      omega
    · have : (cc12 K (s.take i))[j]? = none := List.getElem?_eq_none (by rw [cc12_len]; omega)
      simp [List.getD, this]⟩
  have HSN : Hid (∀ i (x : Nat), i < n → x < K → s.getD i 0 = (x : Int) → (cc12 K (s.take i)).set x ((cc12 K (s.take i)).getD x 0 + 1) = cc12 K (s.take (i + 1))) := fun i x hi hx hv => by
    rw [take_snocZ (by rw [hn.out]; exact hi), hv]
    exact cc12_snoc K _ x hx
  have HCN : Hid (cc12 K (s.take n) = cc12 K s) := by show _ = _; rw [← hn.out, List.take_length]
  have HZ : Hid (List.replicate K (0 : Int) = cc12 K (s.take 0)) := by show _ = _; rw [List.take_zero, cc12_nil]
  clear hs hr hW
  go_enter Try.func9, Try.ntmps9
  go_wp2_with (first
    | (go_at_call 32; refine HR.mono ?_; rintro e1 w1 ⟨rfl, B1⟩; clear HR))
  have hal : Below w1.heap.size w1 (w1.alloc (.cells (vi12 (List.replicate K 0)) 3)) := (Below.refl _ _).alloc (Nat.le_refl _) _
  have hr0 := Rz12.new w1 (List.replicate K 0)
  have hal2 : Below w.heap.size w (w1.alloc (.cells (vi12 (List.replicate K 0)) 3)) := B1.trans (hal.mono B1.size)
  have hgc : w.heap.size ≤ w1.heap.size := B1.size
  generalize w1.alloc (.cells (vi12 (List.replicate K 0)) 3) = w2 at *
  generalize hgc0 : w1.heap.size = gc at *
  rw [HZ.out] at hr0
  clear hal B1 hgc0
  go_loopw [9] (fun ti wr => ∃ i : Nat, i ≤ n ∧ ti = .int .i64 i ∧ Rz12 wr gc (cc12 K (s.take i)) ∧ Below w.heap.size w wr) (fun ti _ => n - (intOf ti).toNat)
  case atStart => exact ⟨0, Nat.zero_le _, rfl, hr0, hal2⟩
  case round =>
    obtain ⟨i, hi, rfl, hR, hb⟩ := hrel
    by_cases h1 : i < n
    · have h1i : (i : Int) < (n : Int) := by omega
      obtain ⟨xb, off, rfl, c1⟩ := (HSD.out wr hb).at_ i (by rw [hn.out]; exact h1)
      obtain ⟨x, hx, hxv⟩ := HVL.out i h1
      rw [hxv] at c1
      have k1 := hR.cell (i := x) (by rw [(HCP.out i).1]; exact hx)
      have k2 := hR.free x
      have kb := (HCP.out i).2 x
      have HS1 : Hid (Rz12 (wr.setCell ⟨gc, x, none⟩ (.int .i64 ((cc12 K (s.take i)).getD x 0 + 1))) gc (cc12 K (s.take (i + 1))) ∧ Below w.heap.size w (wr.setCell ⟨gc, x, none⟩ (.int .i64 ((cc12 K (s.take i)).getD x 0 + 1)))) := by
        have h5 := hR.set x ((cc12 K (s.take i)).getD x 0 + 1)
        rw [HSN.out i x h1 hx hxv] at h5
        exact ⟨h5, hb.trans ((Kp.set (S := fun q => q = gc) rfl _).below (fun q h => by omega) hb.size)⟩
      have hxi : (x : Int) < (K : Int) := by omega
      clear hR hxv
      generalize (cc12 K (s.take i)).getD x 0 = y at *
      go_wp2_with fail
      go_roundw
      case rel => exact ⟨i + 1, by omega, by go_num, HS1.out.1, HS1.out.2⟩
      case measure => simp [intOf]; omega
    · have h1i : ¬ (i : Int) < (n : Int) := by omega
      obtain rfl : i = n := by omega
      rw [HCN.out] at hR
      have HCG : Hid (∀ j, 0 ≤ (cc12 K s).getD j 0 ∧ (cc12 K s).getD j 0 ≤ 16777216) := by have := (HCP.out i).2; rw [HCN.out] at this; exact this
      have HTM := two_mk12 wr (List.replicate K 0)
      have hlt := hR.lt
      clear hr0 hal2
      go_wp2_with fail
      go_region
      · obtain ⟨r1, r2, b3⟩ := HTM
        have r3 := hR.old b3
        have hb3 : Below w.heap.size w ((wr.alloc (.cells (vi12 (List.replicate K 0)) 3)).alloc (.cells (vi12 (List.replicate K 0)) 3)).drew := hb.trans (b3.mono hb.size)
        have hsz := hb.size
        generalize ((wr.alloc (.cells (vi12 (List.replicate K 0)) 3)).alloc (.cells (vi12 (List.replicate K 0)) 3)).drew = w3 at *
        obtain ⟨gf, hg1⟩ : ∃ q, q = wr.heap.size := ⟨_, rfl⟩
        obtain ⟨gt, hg2⟩ : ∃ q, q = wr.heap.size + 1 := ⟨_, rfl⟩
        rw [← hg1] at r1
        rw [← hg2] at r2
        rw [← fp12_zero K s] at r1
        rw [← tp12_zero K s] at r2
        have HNE : Hid (gf ≠ gt ∧ gf ≠ gc ∧ gt ≠ gc ∧ w.heap.size ≤ gf ∧ w.heap.size ≤ gt) := ⟨by omega, by omega, by omega, by omega, by omega⟩
        rw [← hg2, ← hg1]
        clear hg1 hg2 b3 hR hb hsz hlt
        go_wp2_with fail
        go_loopw [12, 13] (fun tn tv wr => ∃ v m : Nat, v ≤ K ∧ tn = .int .i64 m ∧ tv = .int .i64 v ∧ Hid (m = cnt12 s (v : Int)) ∧ Rz12 wr gf (fp12 K s v) ∧ Rz12 wr gt (tp12 K s v) ∧ Rz12 wr gc (cc12 K s) ∧ Below w.heap.size w wr) (fun _ tv _ => K - (intOf tv).toNat)
        case atStart => exact ⟨0, 0, Nat.zero_le _, rfl, rfl, HC0.out.symm, r1, r2, r3, hb3⟩
        case round =>
          obtain ⟨v, m, hv, rfl, rfl, HMV, RF, RT, RC, hb⟩ := hrel
          by_cases h2 : v < K
          · have h2i : (v : Int) < (K : Int) := by omega
            have k1 := RF.cell (i := v) (by rw [fp12_len]; exact h2)
            have k2 := RF.free v
            have hm24 : m ≤ 16777216 := by rw [HMV.out]; exact HCB.out _
            have q1 : Kp (fun q => q = gf) wr (wr.setCell ⟨gf, v, none⟩ (.int .i64 (m : Int))) := Kp.set (S := fun q => q = gf) rfl _
            have RF2 := RF.set v (m : Int)
            rw [show (m : Int) = ((cnt12 s (v : Int) : Nat) : Int) by rw [HMV.out], fp12_set, show ((cnt12 s (v : Int) : Nat) : Int) = (m : Int) by rw [HMV.out]] at RF2
            have RT2 := RT.kp q1 (fun h => HNE.out.1 h.symm)
            have RC2 := RC.kp q1 (fun h => HNE.out.2.1 h.symm)
            have hb2 : Below w.heap.size w (wr.setCell ⟨gf, v, none⟩ (.int .i64 (m : Int))) := hb.trans (q1.below (fun q h => by have := HNE.out; omega) hb.size)
            have c3 := RC2.cell (i := v) (by rw [cc12_len]; exact h2)
            have cb := HCG.out v
            have k3 := RT2.cell (i := v) (by rw [tp12_len]; exact h2)
            have k4 := RT2.free v
            have HNX2 := HNX.out v h2
            have HNB := HCB.out ((v : Int) + 1)
            have q2 := fun x : Value => (Kp.set (S := fun q => q = gt) rfl x : Kp (fun q => q = gt) (wr.setCell ⟨gf, v, none⟩ (.int .i64 (m : Int))) ((wr.setCell ⟨gf, v, none⟩ (.int .i64 (m : Int))).setCell ⟨gt, v, none⟩ x))
            have HF : Hid (∀ M : Nat, (M : Int) = (m : Int) + (cc12 K s).getD v 0 → M = cnt12 s ((v : Int) + 1) ∧ Rz12 ((wr.setCell ⟨gf, v, none⟩ (.int .i64 (m : Int))).setCell ⟨gt, v, none⟩ (.int .i64 (M : Int))) gf (fp12 K s (v + 1)) ∧ Rz12 ((wr.setCell ⟨gf, v, none⟩ (.int .i64 (m : Int))).setCell ⟨gt, v, none⟩ (.int .i64 (M : Int))) gt (tp12 K s (v + 1)) ∧ Rz12 ((wr.setCell ⟨gf, v, none⟩ (.int .i64 (m : Int))).setCell ⟨gt, v, none⟩ (.int .i64 (M : Int))) gc (cc12 K s) ∧ Below w.heap.size w ((wr.setCell ⟨gf, v, none⟩ (.int .i64 (m : Int))).setCell ⟨gt, v, none⟩ (.int .i64 (M : Int)))) := by
              intro M hM
              have e : M = cnt12 s ((v : Int) + 1) := by have := HMV.out; omega
              refine ⟨e, RF2.kp (q2 _) HNE.out.1, ?_, RC2.kp (q2 _) (fun h => HNE.out.2.2.1 h.symm), hb2.trans ((q2 _).below (fun q h => by have := HNE.out; omega) hb2.size)⟩
              have h7 := RT2.set v (M : Int)
              rw [e, tp12_set] at h7
              rw [e]
              exact h7
            obtain ⟨M, hM⟩ : ∃ M : Nat, (M : Int) = (m : Int) + (cc12 K s).getD v 0 := ⟨((m : Int) + (cc12 K s).getD v 0).toNat, by omega⟩
            obtain ⟨f1, f2, f3, f4, f5⟩ := HF.out M hM
            have HF1 : Hid (M = cnt12 s ((v : Int) + 1)) := f1
            have HF2 : Hid (Rz12 ((wr.setCell ⟨gf, v, none⟩ (.int .i64 (m : Int))).setCell ⟨gt, v, none⟩ (.int .i64 (M : Int))) gf (fp12 K s (v + 1)) ∧ Rz12 ((wr.setCell ⟨gf, v, none⟩ (.int .i64 (m : Int))).setCell ⟨gt, v, none⟩ (.int .i64 (M : Int))) gt (tp12 K s (v + 1)) ∧ Rz12 ((wr.setCell ⟨gf, v, none⟩ (.int .i64 (m : Int))).setCell ⟨gt, v, none⟩ (.int .i64 (M : Int))) gc (cc12 K s) ∧ Below w.heap.size w ((wr.setCell ⟨gf, v, none⟩ (.int .i64 (m : Int))).setCell ⟨gt, v, none⟩ (.int .i64 (M : Int)))) := ⟨f2, f3, f4, f5⟩
            have eM : (m : Int) + (cc12 K s).getD v 0 = (M : Int) := hM.symm
            rw [show (cc12 K s).getD v 0 = (M : Int) - (m : Int) by omega] at c3 cb
            have hMb : M ≤ 16777216 := by rw [f1]; exact HNB
            have eM2 : (m : Int) + ((M : Int) - (m : Int)) = (M : Int) := by omega
            clear RF RT RC RF2 RT2 RC2 q1 q2 HF f1 f2 f3 f4 f5 hM eM HNX2 HNB hb hb2
            generalize (fp12 K s v).getD v 0 = y1 at *
            generalize (tp12 K s v).getD v 0 = y2 at *
            go_wp2_with fail
            go_roundw
            case rel => exact ⟨v + 1, M, by omega, by go_num, by go_num, HF1, HF2.out.1, HF2.out.2.1, HF2.out.2.2.1, HF2.out.2.2.2⟩
            case measure => simp [intOf]; omega
          · have h2i : ¬ (v : Int) < (K : Int) := by omega
            obtain rfl : v = K := by omega
            rw [fp12_all] at RF
            rw [tp12_all] at RT
            go_wp2_with fail
            refine bodyPost_ret (results_tmp3 rfl _ _ _) rfl ?_
            exact ⟨gf, gt, rfl, RF, RT, HNE.out.2.2.2.1, HNE.out.2.2.2.2, HNE.out.1, hb⟩
      · obtain ⟨r1, r2, b3⟩ := HTM
        have r3 := hR.old b3
        have hb3 : Below w.heap.size w ((wr.alloc (.cells (vi12 (List.replicate K 0)) 3)).alloc (.cells (vi12 (List.replicate K 0)) 3)).drew := hb.trans (b3.mono hb.size)
        have hsz := hb.size
        generalize ((wr.alloc (.cells (vi12 (List.replicate K 0)) 3)).alloc (.cells (vi12 (List.replicate K 0)) 3)).drew = w3 at *
        obtain ⟨gt, hg1⟩ : ∃ q, q = wr.heap.size := ⟨_, rfl⟩
        obtain ⟨gf, hg2⟩ : ∃ q, q = wr.heap.size + 1 := ⟨_, rfl⟩
        rw [← hg1] at r1
        rw [← hg2] at r2
        rw [← fp12_zero K s] at r2
        rw [← tp12_zero K s] at r1
        have HNE : Hid (gf ≠ gt ∧ gf ≠ gc ∧ gt ≠ gc ∧ w.heap.size ≤ gf ∧ w.heap.size ≤ gt) := ⟨by omega, by omega, by omega, by omega, by omega⟩
        rw [← hg2, ← hg1]
        clear hg1 hg2 b3 hR hb hsz hlt
        go_wp2_with fail
        go_loopw [12, 13] (fun tn tv wr => ∃ v m : Nat, v ≤ K ∧ tn = .int .i64 m ∧ tv = .int .i64 v ∧ Hid (m = cnt12 s (v : Int)) ∧ Rz12 wr gf (fp12 K s v) ∧ Rz12 wr gt (tp12 K s v) ∧ Rz12 wr gc (cc12 K s) ∧ Below w.heap.size w wr) (fun _ tv _ => K - (intOf tv).toNat)
        case atStart => exact ⟨0, 0, Nat.zero_le _, rfl, rfl, HC0.out.symm, r2, r1, r3, hb3⟩
        case round =>
          obtain ⟨v, m, hv, rfl, rfl, HMV, RF, RT, RC, hb⟩ := hrel
          by_cases h2 : v < K
          · have h2i : (v : Int) < (K : Int) := by omega
            have k1 := RF.cell (i := v) (by rw [fp12_len]; exact h2)
            have k2 := RF.free v
            have hm24 : m ≤ 16777216 := by rw [HMV.out]; exact HCB.out _
            have q1 : Kp (fun q => q = gf) wr (wr.setCell ⟨gf, v, none⟩ (.int .i64 (m : Int))) := Kp.set (S := fun q => q = gf) rfl _
            have RF2 := RF.set v (m : Int)
            rw [show (m : Int) = ((cnt12 s (v : Int) : Nat) : Int) by rw [HMV.out], fp12_set, show ((cnt12 s (v : Int) : Nat) : Int) = (m : Int) by rw [HMV.out]] at RF2
            have RT2 := RT.kp q1 (fun h => HNE.out.1 h.symm)
            have RC2 := RC.kp q1 (fun h => HNE.out.2.1 h.symm)
            have hb2 : Below w.heap.size w (wr.setCell ⟨gf, v, none⟩ (.int .i64 (m : Int))) := hb.trans (q1.below (fun q h => by have := HNE.out; omega) hb.size)
            have c3 := RC2.cell (i := v) (by rw [cc12_len]; exact h2)
            have cb := HCG.out v
            have k3 := RT2.cell (i := v) (by rw [tp12_len]; exact h2)
            have k4 := RT2.free v
            have HNX2 := HNX.out v h2
            have HNB := HCB.out ((v : Int) + 1)
            have q2 := fun x : Value => (Kp.set (S := fun q => q = gt) rfl x : Kp (fun q => q = gt) (wr.setCell ⟨gf, v, none⟩ (.int .i64 (m : Int))) ((wr.setCell ⟨gf, v, none⟩ (.int .i64 (m : Int))).setCell ⟨gt, v, none⟩ x))
            have HF : Hid (∀ M : Nat, (M : Int) = (m : Int) + (cc12 K s).getD v 0 → M = cnt12 s ((v : Int) + 1) ∧ Rz12 ((wr.setCell ⟨gf, v, none⟩ (.int .i64 (m : Int))).setCell ⟨gt, v, none⟩ (.int .i64 (M : Int))) gf (fp12 K s (v + 1)) ∧ Rz12 ((wr.setCell ⟨gf, v, none⟩ (.int .i64 (m : Int))).setCell ⟨gt, v, none⟩ (.int .i64 (M : Int))) gt (tp12 K s (v + 1)) ∧ Rz12 ((wr.setCell ⟨gf, v, none⟩ (.int .i64 (m : Int))).setCell ⟨gt, v, none⟩ (.int .i64 (M : Int))) gc (cc12 K s) ∧ Below w.heap.size w ((wr.setCell ⟨gf, v, none⟩ (.int .i64 (m : Int))).setCell ⟨gt, v, none⟩ (.int .i64 (M : Int)))) := by
              intro M hM
              have e : M = cnt12 s ((v : Int) + 1) := by have := HMV.out; omega
              refine ⟨e, RF2.kp (q2 _) HNE.out.1, ?_, RC2.kp (q2 _) (fun h => HNE.out.2.2.1 h.symm), hb2.trans ((q2 _).below (fun q h => by have := HNE.out; omega) hb2.size)⟩
              have h7 := RT2.set v (M : Int)
              rw [e, tp12_set] at h7
              rw [e]
              exact h7
            obtain ⟨M, hM⟩ : ∃ M : Nat, (M : Int) = (m : Int) + (cc12 K s).getD v 0 := ⟨((m : Int) + (cc12 K s).getD v 0).toNat, by omega⟩
            obtain ⟨f1, f2, f3, f4, f5⟩ := HF.out M hM
            have HF1 : Hid (M = cnt12 s ((v : Int) + 1)) := f1
            have HF2 : Hid (Rz12 ((wr.setCell ⟨gf, v, none⟩ (.int .i64 (m : Int))).setCell ⟨gt, v, none⟩ (.int .i64 (M : Int))) gf (fp12 K s (v + 1)) ∧ Rz12 ((wr.setCell ⟨gf, v, none⟩ (.int .i64 (m : Int))).setCell ⟨gt, v, none⟩ (.int .i64 (M : Int))) gt (tp12 K s (v + 1)) ∧ Rz12 ((wr.setCell ⟨gf, v, none⟩ (.int .i64 (m : Int))).setCell ⟨gt, v, none⟩ (.int .i64 (M : Int))) gc (cc12 K s) ∧ Below w.heap.size w ((wr.setCell ⟨gf, v, none⟩ (.int .i64 (m : Int))).setCell ⟨gt, v, none⟩ (.int .i64 (M : Int)))) := ⟨f2, f3, f4, f5⟩
            have eM : (m : Int) + (cc12 K s).getD v 0 = (M : Int) := hM.symm
            rw [show (cc12 K s).getD v 0 = (M : Int) - (m : Int) by omega] at c3 cb
            have hMb : M ≤ 16777216 := by rw [f1]; exact HNB
            have eM2 : (m : Int) + ((M : Int) - (m : Int)) = (M : Int) := by omega
            clear RF RT RC RF2 RT2 RC2 q1 q2 HF f1 f2 f3 f4 f5 hM eM HNX2 HNB hb hb2
            generalize (fp12 K s v).getD v 0 = y1 at *
            generalize (tp12 K s v).getD v 0 = y2 at *
            go_wp2_with fail
            go_roundw
            case rel => exact ⟨v + 1, M, by omega, by go_num, by go_num, HF1, HF2.out.1, HF2.out.2.1, HF2.out.2.2.1, HF2.out.2.2.2⟩
            case measure => simp [intOf]; omega
          · have h2i : ¬ (v : Int) < (K : Int) := by omega
            obtain rfl : v = K := by omega
            rw [fp12_all] at RF
            rw [tp12_all] at RT
            go_wp2_with fail
            refine bodyPost_ret (results_tmp3 rfl _ _ _) rfl ?_
            exact ⟨gf, gt, rfl, RF, RT, HNE.out.2.2.2.1, HNE.out.2.2.2.2, HNE.out.1, hb⟩
end Go.Proofs.Ytbgnlbgoeogbaaa
