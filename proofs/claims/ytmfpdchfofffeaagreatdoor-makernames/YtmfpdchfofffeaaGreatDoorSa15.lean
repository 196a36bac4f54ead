import Derived.Test.YtmfpdchfofffeaaGreatDoorSa14
namespace Go.Proofs.YtmfpdchfofffeaaGreatDoor
open Go.RowKit
set_option linter.unusedVariables false
theorem Li12.old {w w' : World} {b : Nat} {a : Option Addr} {n cap : Nat} {s : List Int} {K gs gf gn : Nat} {nx : List Int} (h : Li12 w b a n cap s K gs gf gn nx) (hb : Below w.heap.size w w') : Li12 w' b a n cap s K gs gf gn nx :=
  ⟨(hb.block b h.lt).trans h.hp, h.seg.old hb, h.sm.old hb, h.fr.old hb, h.nr.old hb, h.nxl, h.d1, h.d2, h.d3, h.d4⟩
theorem tu12_lt (f : Nat → Bool) : ∀ k, 0 < k → (tu12 f k).length < k
  | 0, h => by omega
  | 1, _ => by rw [tu12_succ]; simp [tb12, tu12]
  | k + 2, _ => by
    have := tu12_lt f (k + 1) (by omega)
    rw [tu12_succ]
    split
    · simp; omega
    · omega
theorem typ12_gb (s : List Int) : gb12 (typ12 s) = sm12 s := funext (typ12_get s)
theorem tu12_tns (s : List Int) {n : Nat} (h : s.length = n) : tu12 (gb12 (typ12 s)) n = tns12 s := by rw [typ12_gb, ← h]; rfl
theorem nz12_bd {l : List Nat} {n : Nat} (h : ∀ j ∈ l, j < n) (hn : n ≤ 16777216) : ∀ z ∈ nz12 l, -9223372036854775808 ≤ z ∧ z ≤ 9223372036854775807 := by
  intro z hz
  unfold nz12 at hz
  rw [List.mem_map] at hz
  obtain ⟨j, hj, rfl⟩ := hz
  have := h j hj
  omega
/-- What ranked answers. -/
structure Rk12 (w1 w2 : World) (b : Nat) (a : Option Addr) (n cap : Nat) (s : List Int) (K gs gf gn : Nat) (ra : Option Addr) (o : List Nat) : Prop where
  seg : SegZ w2 ra (nz12 o)
  ne : ∀ x off, ra = some ⟨x, off, none⟩ → 0 < (nz12 o).length → x ≠ gn
  or : Or12 n (sm12 s) o
  so : o.Pairwise (Ls12 n (S12 s))
  li : ∃ nx, Li12 w2 b a n cap s K gs gf gn nx
  kp : Kp (fun k => k = gn) w1 w2
def RkQ12 (w1 : World) (b : Nat) (a : Option Addr) (n cap : Nat) (s : List Int) (K gs gf gn : Nat) (e : Ending) (w2 : World) : Prop := ∃ ra o m rc, e = .returned (.slice ra m rc) ∧ Hid (o.length = m) ∧ m ≤ 16777216 ∧ Rk12 w1 w2 b a n cap s K gs gf gn ra o
def SrtQ12 (w : World) (s : List Int) (n : Nat) (e : Ending) (w' : World) : Prop := ∃ g A, e = .returned (.slice (some ⟨g, 0, none⟩) n n) ∧ Rz12 w' g (nz12 A) ∧ w.heap.size ≤ g ∧ Ar12 n (S12 s) A ∧ Below w.heap.size w w'
set_option maxRecDepth 100000 in
set_option maxHeartbeats 4000000 in
theorem prk12 (b : Nat) (a : Option Addr) (n cap : Nat) (s : List Int) (K gs gf gn : Nat) (nx : List Int) (w : World) (h : Li12 w b a n cap s K gs gf gn nx) (hW : Wf12 s n K)
    (IH : ∀ (a' : Option Addr) (s' : List Int) (n' c' M' : Nat) (w' : World), n' < n → SegZ w' a' s' → Wf12 s' n' M' → Calls Tryz.prog 122 #[.slice a' n' c'] w' (SrtQ12 w' s' n')) :
    Calls Tryz.prog 165 #[.pointer (some ⟨b, 0, none⟩)] w (RkQ12 w b a n cap s K gs gf gn) := by
  have n24 := hW.n24
  have hn : Hid (s.length = n) := hW.len
  have hty : Ty12 n (S12 s) (sm12 s) := by have := ty12 s; rw [hn.out] at this; exact this
  have q1 := h.c1
  have HOR : Or12 n (sm12 s) (tns12 s) := by have := tns12_or s; rw [hn.out] at this; exact this
  have HTL : Hid ((tns12 s).Pairwise (· < ·)) := tns12_lt s
  have HT := ptns12 (some ⟨gs, 0, none⟩) (typ12 s) n n w h.sm.seg (by show _ = _; rw [typ12_len, hn.out]) (by omega)
  rw [tu12_tns s hn.out] at HT
  have HML : Hid ((tns12 s).length ≤ n ∧ (0 < n → (tns12 s).length < n)) := by
    have e := tu12_tns s hn.out
    exact ⟨by rw [← e]; exact tu12_le _ _, fun h0 => by rw [← e]; exact tu12_lt _ n h0⟩
  have HGN : Hid (gn < w.heap.size) := h.nr.lt
  have HTS : Hid (∀ j ∈ tns12 s, j < n) := fun j hj => (HOR.small j hj).1
  generalize ht : tns12 s = t at *
  have HM : Hid (t.length = (nz12 t).length) := by show _ = _; rw [nz12_len]
  -- the row that was told first
  have HP1 : Hid (∀ w1 ra rc, w1.ownsRow w.heap.size 3 1 (.slice ra (nz12 t).length rc) (nz12 t).length ((nz12 t).map (Value.int .i64)) → Below w.heap.size w w1 → SegZ w1 ra (nz12 t) ∧ (∀ x off, ra = some ⟨x, off, none⟩ → 0 < (nz12 t).length → x ≠ gn) ∧ Li12 w1 b a n cap s K gs gf gn nx) := by
    intro w1 ra rc o1 b1
    refine ⟨own_segZ o1 (nz12_bd HTS.out n24), fun x off hx hp => ?_, h.old b1⟩
    subst hx
    have := (o1.lt x rfl).1
    have := HGN.out
    omega
  have HSH : Hid (t.length < 2 → t.Pairwise (Ls12 n (S12 s))) := by
    intro h2
    match t, h2 with
    | [], _ => exact List.Pairwise.nil
    | [x], _ => exact List.pairwise_singleton _ _
    | x :: y :: r, h2 => simp at h2; omega
  -- induce, and its turns
  have HPI : Hid (∀ w1 ra rc, Li12 w1 b a n cap s K gs gf gn nx → SegZ w1 ra (nz12 t) → (∀ x off, ra = some ⟨x, off, none⟩ → 0 < (nz12 t).length → x ≠ gn) → Calls Tryz.prog 164 #[.pointer (some ⟨b, 0, none⟩), .slice ra (nz12 t).length rc] w1 fun e w' => e = .returned (.slice (some ⟨w1.heap.size, 0, none⟩) n n) ∧ Rz12 w' w1.heap.size (il12 s t) ∧ (∃ nx', Li12 w' b a n cap s K gs gf gn nx') ∧ Kp (fun k => k = gn) w1 w') :=
    fun w1 ra rc L sg ne => pind12 b a n cap s K gs gf gn nx ra t _ rc w1 L hW HOR HM.out (by rw [← HM.out]; have := HML.out.1; omega) sg ne
  have HIL : Hid (il12 s t = nz12 (row12 n (ind12 n (S12 s) (sm12 s) t)) ∧ (row12 n (ind12 n (S12 s) (sm12 s) t)).length = n ∧ ∀ j ∈ row12 n (ind12 n (S12 s) (sm12 s) t), j < n) := by
    have hpm := ind12_pm (S := S12 s) hty HOR
    refine ⟨?_, by simp [row12], fun j hj => (row12_mem hpm j).1 hj⟩
    unfold il12 nz12
    rw [hn.out, row12_ints hpm]
  have HBO : Or12 n (sm12 s) (by12 (sm12 s) (row12 n (ind12 n (S12 s) (sm12 s) t))) := by12_or hty HOR
  have HBK := by12_key (S := S12 s) hty HOR
  generalize hrw : row12 n (ind12 n (S12 s) (sm12 s) t) = A at *
  have HTO : Hid (∀ w2 gr nx', Li12 w2 b a n cap s K gs gf gn nx' → Rz12 w2 gr (il12 s t) → Calls Tryz.prog 198 #[.pointer (some ⟨b, 0, none⟩), .slice (some ⟨gr, 0, none⟩) n n, .int .i64 (((nz12 t).length : Nat) : Int)] w2 (AnsZ12 w2 (nz12 (by12 (sm12 s) A)))) := by
    intro w2 gr nx' L R
    rw [HIL.out.1] at R
    exact pto12 b a n cap s K gs gf gn gr nx' A _ w2 L hW R HIL.out.2.1 HIL.out.2.2 (by rw [← HM.out]; have := HML.out.1; omega)
  generalize hbl : by12 (sm12 s) A = bl at *
  have HBL : Hid (bl.length = (nz12 t).length ∧ (nz12 bl).length = (nz12 t).length) := by
    have := HBO.len HOR
    rw [nz12_len, nz12_len]; exact ⟨this, this⟩
  have HNM : Hid (∀ w3 ta pa tc pc nx', Li12 w3 b a n cap s K gs gf gn nx' → SegZ w3 ta (nz12 t) → SegZ w3 pa (nz12 bl) → Calls Tryz.prog 199 #[.pointer (some ⟨b, 0, none⟩), .slice ta (nz12 t).length tc, .slice pa (nz12 t).length pc] w3 fun e w' => ∃ g2 N c, e = .returned (.tuple #[.slice (some ⟨g2, 0, none⟩) (nz12 t).length (nz12 t).length, .int .i64 ((c : Nat) : Int)]) ∧ c = cr12 (key12 n (S12 s) (sm12 s)) bl (nz12 t).length ∧ Rz12 w' g2 N ∧ w3.heap.size ≤ g2 ∧ N.length = (nz12 t).length ∧ Nm12 n (S12 s) (sm12 s) t N ∧ (∀ a, a < (nz12 t).length → 0 ≤ N.getD a 0 ∧ N.getD a 0 < (((nz12 t).length : Nat) : Int)) ∧ Below w3.heap.size w3 w') :=
    fun w3 ta pa tc pc nx' L s1 s2 => pnm12 b a n cap s K gs gf gn nx' ta pa t bl _ tc pc w3 L hW HOR HBO HBK HM.out HBL.out.1 (by rw [← HM.out]; have := HML.out.1; omega) s1 s2
  have HFULL : Hid (cr12 (key12 n (S12 s) (sm12 s)) bl (nz12 t).length = (nz12 t).length → bl.Pairwise (Ls12 n (S12 s))) := by
    intro hc
    rw [← HBL.out.1] at hc
    have hp := cr12_full HBK hc
    refine List.Pairwise.imp_of_mem (fun {i j} hi hj hh => ?_) hp
    exact hty.key_less (HBO.small i hi).1 (HBO.small j hj).1 hh
  have HBS : Hid (∀ w3 pa rc base, w3.ownsRow base 3 1 (.slice pa (nz12 bl).length rc) (nz12 bl).length ((nz12 bl).map (Value.int .i64)) → SegZ w3 pa (nz12 bl) ∧ (w.heap.size ≤ base → ∀ x off, pa = some ⟨x, off, none⟩ → 0 < (nz12 bl).length → x ≠ gn)) := by
    intro w3 pa rc base o3
    refine ⟨own_segZ o3 (nz12_bd (fun j hj => (HBO.small j hj).1) n24), fun hbs x off hx hp => ?_⟩
    subst hx
    have := (o3.lt x rfl).1
    have := HGN.out
    omega
  generalize hm : (nz12 t).length = m at *
  have HMN : Hid (m ≤ n ∧ (0 < n → m < n)) := by rw [← HM.out]; exact HML.out
  have hmn := HMN.out.1
  have HB2 : Hid ((nz12 bl).length = m) := HBL.out.2
  have HT2 := HT.mono (R' := fun e w1 => ∃ ra rc, e = .returned (.slice ra m rc) ∧ SegZ w1 ra (nz12 t) ∧ (∀ x off, ra = some ⟨x, off, none⟩ → 0 < m → x ≠ gn) ∧ Li12 w1 b a n cap s K gs gf gn nx ∧ Below w.heap.size w w1) (by
    rintro e w1 ⟨ra, rc, he, o1, b1⟩
    rw [hm] at he o1
    obtain ⟨p1, p2, p3⟩ := HP1.out w1 ra rc o1 b1
    exact ⟨ra, rc, he, p1, p2, p3, b1⟩)
  have HTO2 : Hid (∀ w2 gr nx', Li12 w2 b a n cap s K gs gf gn nx' → Rz12 w2 gr (il12 s t) → w.heap.size ≤ w2.heap.size → Calls Tryz.prog 198 #[.pointer (some ⟨b, 0, none⟩), .slice (some ⟨gr, 0, none⟩) n n, .int .i64 ((m : Nat) : Int)] w2 fun e w3 => ∃ pa pc, e = .returned (.slice pa m pc) ∧ SegZ w3 pa (nz12 bl) ∧ (∀ x off, pa = some ⟨x, off, none⟩ → 0 < m → x ≠ gn) ∧ Below w2.heap.size w2 w3) := fun w2 gr nx' L R hw => (HTO.out w2 gr nx' L R).mono (by
    rintro e w3 ⟨pa, pc, he, o3, b3⟩
    obtain ⟨p1, p2⟩ := HBS.out w3 pa pc w2.heap.size o3
    rw [HB2.out] at he p2
    exact ⟨pa, pc, he, p1, p2 hw, b3⟩)
  have HNM2 : Hid (∀ w3 ta pa tc pc nx', Li12 w3 b a n cap s K gs gf gn nx' → SegZ w3 ta (nz12 t) → SegZ w3 pa (nz12 bl) → Calls Tryz.prog 199 #[.pointer (some ⟨b, 0, none⟩), .slice ta m tc, .slice pa m pc] w3 fun e w' => ∃ g2 N, e = .returned (.tuple #[.slice (some ⟨g2, 0, none⟩) m m, .int .i64 ((cr12 (key12 n (S12 s) (sm12 s)) bl m : Nat) : Int)]) ∧ Rz12 w' g2 N ∧ N.length = m ∧ Nm12 n (S12 s) (sm12 s) t N ∧ (∀ a, a < m → 0 ≤ N.getD a 0 ∧ N.getD a 0 < ((m : Nat) : Int)) ∧ Below w3.heap.size w3 w') := fun w3 ta pa tc pc nx' L s1 s2 => (HNM.out w3 ta pa tc pc nx' L s1 s2).mono (by
    rintro e w' ⟨g2, N, c, he, hc, r1, r2, r3, r4, r5, r6⟩
    subst hc
    exact ⟨g2, N, he, r1, r3, r4, r5, r6⟩)
  have HSR : Hid (∀ w4 g2 (N : List Int), 2 ≤ m → Rz12 w4 g2 N → N.length = m → (∀ a, a < m → 0 ≤ N.getD a 0 ∧ N.getD a 0 < ((m : Nat) : Int)) → Calls Tryz.prog 122 #[.slice (some ⟨g2, 0, none⟩) m m] w4 (SrtQ12 w4 N m)) := fun w4 g2 N h2 RN hl hv => IH _ N m m m w4 (HMN.out.2 (by omega)) (RN.seg (by
      intro z hz
      obtain ⟨i, hi, rfl⟩ := List.mem_iff_getElem.1 hz
      have := hv i (by omega)
      have e : N.getD i 0 = N[i] := by simp [List.getD, hi]
      rw [e] at this
      omega)) ⟨hl, by omega, by omega, hv⟩
  have HORD : Hid (∀ (N : List Int) (AO : List Nat), N.length = m → Nm12 n (S12 s) (sm12 s) t N → Ar12 m (S12 N) AO → Or12 n (sm12 s) (AO.map (fun a => t.getD a n)) ∧ (AO.map (fun a => t.getD a n)).Pairwise (Ls12 n (S12 s))) := fun N AO hl hN hA => by
    rw [← hl] at hA
    exact hN.order hty HOR HTL.out hA
  have HTG : Hid (∀ j, j < m → t.getD j n < n ∧ (nz12 t).getD j 0 = ((t.getD j n : Nat) : Int)) := fun j hj => by
    have hj2 : j < t.length := by rw [HM.out]; exact hj
    exact ⟨HTS.out _ (getD_mem12 hj2), nz12_get t j n hj2⟩
  have HTN : Hid ((nz12 t).length = m) := hm
  have HOR2 : Hid (Or12 n (sm12 s) t) := HOR
  have HBO2 : Hid (Or12 n (sm12 s) bl) := HBO
  have HBM : Hid (bl.length = m) := HBL.out.1
  have HTM : Hid (t.length = m) := HM.out
  clear HT HP1 HTO HNM HBS HOR HBO HBK
  go_enter Tryz.func165, Tryz.ntmps165
  by_cases hm2 : m < 2
  · have hm2i : (m : Int) < 2 := by omega
    clear HPI HTO2 HNM2 HFULL HSR
    go_wp2_with (first
      | (go_at_call 197; refine HT2.mono ?_; rintro e1 w1 ⟨ra, rc, rfl, sg1, ne1, L1, B1⟩))
    go_ret
    exact ⟨ra, t, m, rc, rfl, HTM.out, by omega, ⟨sg1, fun x off hx hp => ne1 x off hx (by rw [← HTN.out]; exact hp), HOR2.out, HSH.out (by rw [HTM.out]; exact hm2), ⟨_, L1⟩, Kp.of_below B1⟩⟩
  · have hm2i : ¬ (m : Int) < 2 := by omega
    have hmm : 2 ≤ m := by omega
    generalize hCR : cr12 (key12 n (S12 s) (sm12 s)) bl m = CR at *
    have HSG : Hid (∀ w1 w2 ra, SegZ w1 ra (nz12 t) → (∀ x off, ra = some ⟨x, off, none⟩ → 0 < m → x ≠ gn) → Kp (fun k => k = gn) w1 w2 → SegZ w2 ra (nz12 t)) := fun w1 w2 ra s1 n1 k => s1.kp k (fun x off hx hp => n1 x off hx (by rw [← HTN.out]; exact hp))
    have HCRB : Hid (CR ≤ m) := by show _ ≤ _; rw [← hCR]; exact cr12_le m
    have hcrb := HCRB.out
    by_cases hcm : CR = m
    · subst hcm
      have HFU := HFULL.out rfl
      have HFU2 : Hid (bl.Pairwise (Ls12 n (S12 s))) := HFU
      clear HSR HFU HFULL hCR
      go_wp2_with (first
        | (go_at_call 197; refine HT2.mono ?_; rintro e1 w1 ⟨ra, rc, rfl, sg1, ne1, L1, B1⟩)
        | (go_at_call 164; refine (HPI.out w1 ra rc L1 sg1 ne1).mono ?_; rintro e2 w2 ⟨rfl, R2, ⟨nx2, L2⟩, K2⟩)
        | (go_at_call 198; refine (HTO2.out w2 _ nx2 L2 R2 (Nat.le_trans B1.size K2.size)).mono ?_; rintro e3 w3 ⟨pa, pc, rfl, sg3, ne3, B3⟩)
        | (go_at_call 199; refine (HNM2.out w3 ra pa rc pc nx2 (L2.old B3) ((HSG.out w1 w2 ra sg1 ne1 K2).old B3) sg3).mono ?_; rintro e4 w4 ⟨g2, N, rfl, RN, hNl, hNm, hNv, B4⟩))
      go_ret
      exact ⟨pa, bl, _, pc, rfl, HBM.out, by omega, ⟨sg3.old B4, fun x off hx hp => ne3 x off hx (by rw [← HB2.out]; exact hp), HBO2.out, HFU2.out, ⟨_, (L2.old B3).old B4⟩, (((Kp.of_below (S := fun k => k = gn) B1).trans K2 (fun _ _ e => e)).trans (Kp.of_below (S := fun k => k = gn) B3) (fun _ _ e => e)).trans (Kp.of_below (S := fun k => k = gn) B4) (fun _ _ e => e)⟩⟩
    · have hci : ¬ (CR : Int) = (m : Int) := by omega
      clear HFULL hCR
      go_wp2_with (first
        | (go_at_call 197; refine HT2.mono ?_; rintro e1 w1 ⟨ra, rc, rfl, sg1, ne1, L1, B1⟩)
        | (go_at_call 164; refine (HPI.out w1 ra rc L1 sg1 ne1).mono ?_; rintro e2 w2 ⟨rfl, R2, ⟨nx2, L2⟩, K2⟩)
        | (go_at_call 198; refine (HTO2.out w2 _ nx2 L2 R2 (Nat.le_trans B1.size K2.size)).mono ?_; rintro e3 w3 ⟨pa, pc, rfl, sg3, ne3, B3⟩)
        | (go_at_call 199; refine (HNM2.out w3 ra pa rc pc nx2 (L2.old B3) ((HSG.out w1 w2 ra sg1 ne1 K2).old B3) sg3).mono ?_; rintro e4 w4 ⟨g2, N, rfl, RN, hNl, hNm, hNv, B4⟩)
        | (go_at_call 122; refine (HSR.out w4 g2 N hmm RN hNl hNv).mono ?_; rintro e5 w5 ⟨gO, AO, rfl, RO, hgO, hAO, B5⟩))
      have sg4 : SegZ w4 ra (nz12 t) := ((HSG.out w1 w2 ra sg1 ne1 K2).old B3).old B4
      have L4 := (L2.old B3).old B4
      have KK : Kp (fun k => k = gn) w w4 := (((Kp.of_below (S := fun k => k = gn) B1).trans K2 (fun _ _ e => e)).trans (Kp.of_below (S := fun k => k = gn) B3) (fun _ _ e => e)).trans (Kp.of_below (S := fun k => k = gn) B4) (fun _ _ e => e)
      obtain ⟨HO1, HO2⟩ := HORD.out N AO hNl hNm hAO
      have HAG : Hid (∀ q, q < m → AO.getD q 0 < m) := fun q hq => hAO.lt _ (getD_mem12 (by rw [hAO.len]; exact hq))
      have HAL : Hid (AO.length = m) := hAO.len
      have HOO : Hid (Or12 n (sm12 s) (AO.map (fun a => t.getD a n)) ∧ (AO.map (fun a => t.getD a n)).Pairwise (Ls12 n (S12 s))) := ⟨HO1, HO2⟩
      clear HT2 HPI HTO2 HNM2 HSR HORD hNm hNv hAO HO1 HO2 RN R2 L1 L2 sg1 sg3 B3 B1 K2
      go_wp2_with fail
      go_loopw [42] (fun ti wr => ∃ (r : Nat) (R' : List Int), r ≤ m ∧ ti = .int .i64 r ∧ Rz12 wr gO R' ∧ R'.length = m ∧ Hid (∀ q, q < m → R'.getD q 0 = if q < r then ((t.getD (AO.getD q 0) n : Nat) : Int) else ((AO.getD q 0 : Nat) : Int)) ∧ Below w4.heap.size w4 wr) (fun ti _ => m - (intOf ti).toNat)
      case atStart => exact ⟨0, _, Nat.zero_le _, rfl, RO, by rw [nz12_len]; exact HAL.out, (fun q hq => by rw [if_neg (by omega)]; exact nz12_get AO q 0 (by rw [HAL.out]; exact hq) : ∀ q, q < m → _), B5⟩
      case round =>
        obtain ⟨r, R', hr, rfl, hR, hRl, HRV, hb⟩ := hrel
        by_cases h9 : r < m
        · have h9i : (r : Int) < (m : Int) := by omega
          have hjm := HAG.out r h9
          have k1 := hR.cell (i := r) (by omega)
          have k2 := hR.free r
          have e1 := HRV.out r h9
          rw [if_neg (by omega)] at e1
          rw [e1] at k1
          obtain ⟨tb, toff, rfl, c1⟩ := (sg4.old hb).at_ (AO.getD r 0) (by rw [HTN.out]; exact hjm)
          obtain ⟨htn, ej⟩ := HTG.out _ hjm
          rw [ej] at c1
          have ijm : ((AO.getD r 0 : Nat) : Int) < (m : Int) := by omega
          have HS1 : Hid (Rz12 (wr.setCell ⟨gO, r, none⟩ (.int .i64 ((t.getD (AO.getD r 0) n : Nat) : Int))) gO (R'.set r ((t.getD (AO.getD r 0) n : Nat) : Int))) := hR.set _ _
          have HS2 : Hid (∀ q, q < m → (R'.set r ((t.getD (AO.getD r 0) n : Nat) : Int)).getD q 0 = if q < r + 1 then ((t.getD (AO.getD q 0) n : Nat) : Int) else ((AO.getD q 0 : Nat) : Int)) := by
            intro q hq
            rw [getD_set12 _ _ _ _ (by omega)]
            by_cases e : q = r
            · subst e; rw [if_pos rfl, if_pos (by omega)]
            · rw [if_neg e, HRV.out q hq]
              by_cases h8 : q < r
              · rw [if_pos h8, if_pos (by omega)]
              · rw [if_neg h8, if_neg (by omega)]
          have HS4 : Hid (Below w4.heap.size w4 (wr.setCell ⟨gO, r, none⟩ (.int .i64 ((t.getD (AO.getD r 0) n : Nat) : Int)))) := hb.trans ((Kp.set (S := fun j => j = gO) rfl _).below (fun j h => by omega) hb.size)
          clear ej e1 hR
          generalize AO.getD r 0 = j at *
          generalize t.getD j n = y at *
          go_wp2_with fail
          go_roundw
          case rel => exact ⟨r + 1, _, by omega, by go_num, HS1.out, by rw [List.length_set]; exact hRl, HS2.out, HS4.out⟩
          case measure => simp [intOf]; omega
        · have h9i : ¬ (r : Int) < (m : Int) := by omega
          obtain rfl : r = m := by omega
          have hE : R' = nz12 (AO.map (fun a => t.getD a n)) := by
            refine ext12 (d := 0) (by rw [nz12_len, List.length_map, HAL.out, hRl]) fun q hq => ?_
            rw [hRl] at hq
            rw [HRV.out q hq, if_pos hq, nz12_get _ q n (by rw [List.length_map, HAL.out]; exact hq)]
            have hq2 : q < AO.length := by rw [HAL.out]; exact hq
            simp [List.getD, hq2]
          rw [hE] at hR
          have hol : (AO.map (fun a => t.getD a n)).length = r := by rw [List.length_map, HAL.out]
          go_wp2_with fail
          go_ret
          exact ⟨_, AO.map (fun a => t.getD a n), r, r, rfl, hol, by omega, ⟨hR.seg (nz12_bd (fun j hj => (HOO.out.1.small j hj).1) n24), fun x off hx hp => by cases hx; have := HGN.out; have := KK.size; omega, HOO.out.1, HOO.out.2, ⟨_, L4.old hb⟩, KK.trans (Kp.of_below (S := fun k => k = gn) hb) (fun _ _ e => e)⟩⟩
end Go.Proofs.YtmfpdchfofffeaaGreatDoor
