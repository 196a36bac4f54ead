import Derived.Test.YtodioefbfchckaaPw
import Derived.Test.YtodioefbfchckaaPx
import Derived.Test.YtodioefbfchckaaPy
import Derived.Test.YtodioefbfchckaaPq
import Derived.Test.YtodioefbfchckaaPr
import Derived.Test.YtodioefbfchckaaPa
import Derived.WalkKit
import Derived.ProofKit
import Derived.OpenShut
import Derived.SizedLaws
import Derived.Deep.Slices
import Derived.Lib.SmallJoins
namespace Go.Proofs.Ytodioefbfchckaa
open Go.RowKit Go.Shelf
set_option linter.unusedVariables false

/-! CutterApplies: what is asked of Apply, in one form. -/
theorem w17_len {pos : Int} {S : List St16} {m k : Nat} {old size : Int} (h : W17 pos S m k old size) : S.length ≤ 65536 := by
  obtain ⟨_, hsa, hsc, hmk, _⟩ := w17_ok h
  have key : ∀ i, i ≤ S.length → i ≤ sa16 S i + sc16 S i := by
    intro i
    induction i with
    | zero => intro _; omega
    | succ i ih =>
      intro hi
      have := ih (by omega)
      obtain ⟨g1, g2, g3, _⟩ := h.2.2.1 i (by omega)
      simp only [sa16, sc16, ad16, cp16]
      omega
  have := key S.length (Nat.le_refl _)
  omega
open Classical in
noncomputable def al17 (z : List Int) (pos : Int) (S : List St16) (D X : List Int) (size : Int) : List Int := if W17 pos S D.length X.length (z.length : Int) size then aw17 z pos S D X else []
/-- What Apply answers. -/
def ArQ17 (w : World) (L : List Int) (er : Int) (e : Ending) (w' : World) : Prop := ∃ ra rc, e = .returned (.tuple #[.slice ra L.length rc, .int .i64 er]) ∧ w'.ownsRow w.heap.size 5 1 (.slice ra L.length rc) L.length (L.map (Value.int .u8)) ∧ Below w.heap.size w w'
theorem papl17_all (pos size : Int) {za : Option Addr} {zc : Nat} {z : List Int} {sa : Option Addr} {sc : Nat} {da : Option Addr} {dc : Nat} {xa : Option Addr} {xc : Nat} {S : List St16} {D X : List Int} (w : World) (h : Ed17 w sa S.length S da D.length D xa X.length X) (hz : Seg w za z) (hzl : z.length ≤ 140737488351232) (hdc : D.length ≤ dc) (hxc : X.length ≤ xc) :
    Calls Try.prog 30 #[.slice za z.length zc, wn17 pos sa S.length sc da D.length dc xa X.length xc, .int .i64 size] w (ArQ17 w (al17 z pos S D X size) (cc17 pos S D.length X.length (z.length : Int) size)) := by
  by_cases hW : W17 pos S D.length X.length (z.length : Int) size
  · have e1 : al17 z pos S D X size = aw17 z pos S D X := by unfold al17; rw [if_pos hW]
    have hl := w17_len hW
    obtain ⟨_, _, _, hmk, _⟩ := w17_ok hW
    obtain ⟨sz, hsz⟩ : ∃ sz : Nat, (sz : Int) = size := ⟨size.toNat, by have := hW.1; omega⟩
    subst hsz
    rw [e1, cc17_ok hW]
    exact papl17 pos sz w ⟨h.ss, h.sd, h.sx, rfl, rfl, rfl, by omega, by omega, by omega⟩ hz rfl hdc hxc hW
  · have e1 : al17 z pos S D X size = [] := by unfold al17; rw [if_neg hW]
    rw [e1, cc17_no hW]
    refine (papl17_no pos size w h.ss rfl (by have := h.ln; omega) (by have := h.lm; omega) (by have := h.lk; omega) (by omega) hW).mono ?_
    rintro e w' ⟨rfl, hb⟩
    exact ⟨none, 0, rfl, ⟨by simp, .inl ⟨rfl, rfl⟩⟩, hb⟩
/-- The window that was faced, in memory. -/
theorem wn17_ed {base : Nat} {v1 v2 v3 : Value} {S : List St16} {D X : List Int} {w : World} (h : Wn17 base (v1, v2, v3) (pt17 S D X) w) (hf : ∀ t ∈ S, Fit16 t) (hd : ∀ t ∈ D, 0 ≤ t ∧ t ≤ 255) (hx : ∀ t ∈ X, 0 ≤ t ∧ t ≤ 255) (l1 : S.length ≤ 5864062014804) (l2 : D.length ≤ 140737488351232) (l3 : X.length ≤ 140737488351232) : ∃ sa sc da dc xa xc, v1 = .slice sa S.length sc ∧ v2 = .slice da D.length dc ∧ v3 = .slice xa X.length xc ∧ Ed17 w sa S.length S da D.length D xa X.length X ∧ D.length ≤ dc ∧ X.length ≤ xc := by
  obtain ⟨sa, sc, da, dc, xa, xc, e1, e2, e3, hs⟩ := wn17_seg h hf
  have h2 := h.oD
  have h3 := h.oX
  simp only at h2 h3
  rw [e2] at h2
  rw [e3] at h3
  obtain ⟨-, a2, c2, hv2, s2, -, k2, -⟩ := own_seg h2 (M := 255) (by decide) hd
  obtain ⟨-, a3, c3, hv3, s3, -, k3, -⟩ := own_seg h3 (M := 255) (by decide) hx
  injection hv2 with q1 q2 q3
  injection hv3 with r1 r2 r3
  subst q1; subst q3; subst r1; subst r3
  exact ⟨sa, sc, da, dc, xa, xc, e1, e2, e3, ⟨hs, s2, s3, rfl, rfl, rfl, l1, l2, l3⟩, k2, k3⟩
end Go.Proofs.Ytodioefbfchckaa

namespace Go.Proofs.Ytodioefbfchckaa
open Go.RowKit Go.Shelf
set_option linter.unusedVariables false

/-! CutterControls. -/
theorem cn17_bd (S : List St16) : ∀ z ∈ cn17 S, 0 ≤ z ∧ z ≤ 255 := by
  unfold cn17
  split
  · rename_i h
    exact encA_bd _ (nm17_bd (fun s hs => List.all_eq_true.1 h s hs))
  · intro z hz; simp at hz
theorem cn17_len (S : List St16) : (cn17 S).length ≤ 30 * S.length := by
  unfold cn17
  split
  · have := (encA_len (nm17 S)).2
    rw [nm17_len] at this
    omega
  · simp
theorem fit_cok17 {s : St16} (h : cok17 s = true) : Fit16 s := by
  have := (cok17_iff s).1 h
  unfold Fit16
  omega
theorem un17_len : ∀ (f : Nat) (b : List Int) (acc : List St16), (un17 f b acc).2.length ≤ acc.length + f
  | 0, b, acc => by simp [un17]
  | f + 1, b, acc => by
    by_cases hb : b = []
    · subst hb; rw [un17_nil]; show acc.length ≤ _; omega
    · by_cases ht : (th17 [] b 3).1 = 0
      · rw [un17_ok hb ht]
        have := un17_len f (th17 [] b 3).2.2 (acc ++ [sp17 (th17 [] b 3).2.1])
        rw [List.length_append] at this
        simp only [List.length_singleton] at this
        omega
      · rw [un17_no hb ht]; simp
/-- What Control answers, as a row. -/
theorem cnq17_row {w w' : World} {S : List St16} {e : Ending} (h : CnQ17 w S e w') : ∃ p c, e = .returned (.tuple #[.slice p (cn17 S).length c, .int .i64 (ce17 S)]) ∧ w'.ownsRow w.heap.size 5 1 (.slice p (cn17 S).length c) (cn17 S).length ((cn17 S).map (Value.int .u8)) ∧ Seg w' p (cn17 S) ∧ Below w.heap.size w w' := by
  obtain ⟨v, rfl, o, b⟩ := h
  obtain ⟨p, c, rfl⟩ := own_sl17 o
  obtain ⟨-, a, c2, hv, sg, -, -, -⟩ := own_seg o (M := 255) (by decide) (cn17_bd S)
  injection hv with h1 h2 h3
  subst h1
  exact ⟨p, c, rfl, o, sg, b⟩
theorem ucq17_row {ty : TypeId} {w w' : World} {z : List Int} {e : Ending} (h : UcQ17 ty w z e w') : ∃ p c, e = .returned (.tuple #[.slice p (un17 z.length z []).2.length c, .int .i64 (un17 z.length z []).1]) ∧ SegS w' p (un17 z.length z []).2 ∧ Below w.heap.size w w' := by
  obtain ⟨v, rfl, o, b, k⟩ := h
  obtain ⟨p, c, rfl⟩ := own_sl17 o
  exact ⟨p, c, rfl, own_segS17 o rfl (fun t ht => fit_cok17 (k t ht)), b⟩
theorem plq17_row {w w' : World} {S : List St16} {v2 v3 : Value} {e : Ending} (hf : ∀ t ∈ S, Fit16 t) (h : PlQ17 w S v2 v3 e w') : ∃ p c, e = .returned (.agg #[.slice p S.length c, v2, v3]) ∧ SegS w' p S ∧ Below w.heap.size w w' := by
  obtain ⟨v, rfl, o, b⟩ := h
  obtain ⟨p, c, rfl⟩ := own_sl17 o
  exact ⟨p, c, rfl, own_segS17 o rfl hf, b⟩
theorem un17_fit {f : Nat} {z : List Int} {w w' : World} {e : Ending} {ty : TypeId} (h : UcQ17 ty w z e w') : ∀ t ∈ (un17 z.length z []).2, Fit16 t := by
  obtain ⟨v, rfl, o, b, k⟩ := h
  exact fun t ht => fit_cok17 (k t ht)
set_option maxRecDepth 100000 in
set_option maxHeartbeats 16000000 in
theorem cutterControls_walk {sa : Option Addr} {sc : Nat} {S : List St16} {za : Option Addr} {zc : Nat} {z : List Int} (w : World) (hs : SegS w sa S) (hz : Seg w za z) (zn : za = none → zc = 0) (hzc : z.length ≤ zc) (hl1 : S.length ≤ 1048576) (hl2 : z.length ≤ 1048576) :
    Calls Try.prog 5 #[.slice sa S.length sc, .slice za z.length zc] w fun e w' => e = .returned (.bool true) ∧ Below w.heap.size w w' := by
  have hfd : ∀ (x : Option Addr) (n c : Nat) (y v : Value) (W : World), (Instr.field 25 (.agg #[.slice x n c, y, v]) 0).run Try.prog W = .ok (.slice x n c) W := fun _ _ _ _ _ _ => by kernel_rfl
  have HC1 := pfs17 sa S.length sc S w hs rfl (by omega)
  have HS : Hid (∀ W, Below w.heap.size w W → SegS W sa S) := fun W h => hs.old h
  have HZ : Hid (∀ W, Below w.heap.size w W → Seg W za z) := fun W h => hz.old h
  have HF : Hid (∀ t ∈ S, Fit16 t) := hs.fit
  have HL : Hid ((cn17 S).length ≤ 31457280) := by
    show _ ≤ _
    have := cn17_len S; omega
  have HZB : Hid (∀ t ∈ z, 0 ≤ t ∧ t ≤ 255) := hz.mem
  have HSL : Hid (S.length ≤ 1048576) := hl1
  have HZL : Hid (z.length ≤ 1048576) := hl2
  have HZN : Hid (za = none → zc = 0) := zn
  have HZC : Hid (z.length ≤ zc) := hzc
  clear hs hz hl1 hl2 zn hzc
  go_enter Try.func5, Try.ntmps5
  go_wp2_with fail
  refine HC1.mono ?_
  rintro e1 w1 ⟨v1, rfl, o1, b1⟩
  obtain ⟨ga, gc, hv1⟩ := own_sl17 o1
  subst hv1
  have HG : Hid (∀ W, Below w1.heap.size w1 W → SegS W ga S) := fun W h => (own_segS17 o1 rfl HF.out).old h
  clear o1 HC1
  have HW1 : Hid (Below w.heap.size w w1) := b1
  clear b1
  have HP := fun W (hW : Below w1.heap.size w1 W) => pctl17 ga S.length gc S W (HG.out W hW) rfl (by have := HSL.out; omega)
  have HP : Hid (∀ W, Below w1.heap.size w1 W → Calls Try.prog 20 #[.slice ga S.length gc] W (CnQ17 W S)) := HP
  go_wp2_with fail
  refine (HP.out w1 (Below.refl _ _)).mono ?_
  intro e2 w2 h2
  obtain ⟨p2, c2, rfl, o2, s2, b2⟩ := cnq17_row h2
  have HB2 : Hid (Below w1.heap.size w1 w2) := b2
  clear h2 b2
  go_wp2_with fail
  refine (HP.out w2 HB2.out).mono ?_
  intro e3 w3 h3
  obtain ⟨p3, c3, rfl, o3, s3, b3⟩ := cnq17_row h3
  have HB23 : Hid (Below w2.heap.size w2 w3) := b3
  have HB3 : Hid (Below w1.heap.size w1 w3) := HB2.out.trans (b3.mono HB2.out.size)
  clear h3 b3
  have HR := rctl17 sa S.length sc S w3 (HS.out w3 (HW1.out.trans (HB3.out.mono HW1.out.size))) rfl (by have := HSL.out; omega)
  go_wp2_with fail
  refine HR.mono ?_
  intro e4 w4 h4
  obtain ⟨p4, c4, rfl, o4, s4, b4⟩ := cnq17_row h4
  have HB34 : Hid (Below w3.heap.size w3 w4) := b4
  have HB4 : Hid (Below w1.heap.size w1 w4) := HB3.out.trans (b4.mono HB3.out.size)
  have h24 : Below w2.heap.size w2 w4 := HB23.out.trans (b4.mono HB23.out.size)
  have S1 := bsame_any p2 p4 _ _ c2 c4 w4 (s2.old h24) s4
  have S2 := bsame_any p3 p4 _ _ c3 c4 w4 (s3.old b4) s4
  rw [show (cn17 S == cn17 S) = true by simp] at S1 S2
  have O2 : Hid (w4.ownsRow w1.heap.size 5 1 (.slice p2 (cn17 S).length c2) (cn17 S).length ((cn17 S).map (Value.int .u8))) := own_below o2 h24
  have O3 : Hid (w4.ownsRow w1.heap.size 5 1 (.slice p3 (cn17 S).length c3) (cn17 S).length ((cn17 S).map (Value.int .u8))) := own_base (own_below o3 b4) HB2.out.size
  have HAP : Hid (Ap (Value.slice p2 (cn17 S).length c2).ownBlock (Value.slice p3 (cn17 S).length c3).ownBlock) := fun t x y => by
    have := (o2.lt t x).2
    have := (o3.lt t y).1
    omega
  clear h4 b4 h24 o2 o3 o4 s2 s3 s4 HR HB23 HB34 HB3 HB2
  have PL := pplain17 (sa := ga) (n := S.length) (sc := gc) (da := none) (m := 0) (dc := 0) (xa := none) (k := 0) (xc := 0) w4 (HG.out w4 HB4.out) rfl (by have := HSL.out; omega)
  have PL : Hid (Calls Try.prog 13 #[.agg #[.slice ga S.length gc, .slice none 0 0, .slice none 0 0]] w4 (PlQ17 w4 S (.slice none 0 0) (.slice none 0 0))) := PL
  generalize ce17 S = er at *
  generalize cn17 S = L at *
  go_wp2_with fail
  refine S1.mono ?_
  rintro e9 w9 ⟨rfl, hw9⟩
  subst w9
  clear S1
  go_wp2_with fail
  refine S2.mono ?_
  rintro e9 w9 ⟨rfl, hw9⟩
  subst w9
  clear S2
  go_wp2_with fail
  refine PL.out.mono ?_
  intro e5 w5 h5
  obtain ⟨p5, c5, rfl, s5, b5⟩ := plq17_row HF.out h5
  have HB5 : Hid (Below w1.heap.size w1 w5) := HB4.out.trans (b5.mono HB4.out.size)
  have SS := rsst17 p5 sa S.length c5 sc S w5 s5 (HS.out w5 (HW1.out.trans (HB5.out.mono HW1.out.size))) rfl (by have := HSL.out; omega)
  have HB45 : Hid (Below w4.heap.size w4 w5) := b5
  clear h5 s5 b5 PL
  go_wp2_with fail
  refine SS.mono ?_
  rintro e6 w6 ⟨rfl, b6⟩
  have HB46 : Hid (Below w4.heap.size w4 w6) := HB45.out.trans (b6.mono HB45.out.size)
  have HB6 : Hid (Below w1.heap.size w1 w6) := HB5.out.trans (b6.mono HB5.out.size)
  have OW := own_two w1.heap.size (.slice p2 L.length c2) (.slice p3 L.length c3) L L w6 (own_below O2.out HB46.out) (own_below O3.out HB46.out) HAP.out (by have := HL.out; omega) (by have := HL.out; omega) HB6.out.size
  clear b6 SS HB45 HB5 O2 O3 HAP HB4
  go_wp2_with fail
  refine OW.mono ?_
  rintro e7 w7 ⟨rfl, b7⟩
  have HB7 : Hid (Below w1.heap.size w1 w7) := HB6.out.trans b7
  have HW7 : Hid (Below w.heap.size w w7) := HW1.out.trans (HB7.out.mono HW1.out.size)
  clear b7 OW HB46 HB6 HB7 HG HP HW1 HS
  have LD := lend_any za z zc w7 (HZ.out w7 HW7.out) HZN.out (by have := HZL.out; omega)
  go_wp2_with fail
  refine LD.mono ?_
  rintro e8 w8 ⟨gl, cl, rfl, ol, b8⟩
  obtain ⟨-, al, cl2, hvl, sl, -, hcl, -⟩ := own_seg ol (M := 255) (by decide) (lent_bd HZB.out)
  injection hvl with ql1 ql2 ql3
  subst ql1; subst ql3
  have hsz : Seg w8 (some ⟨gl, 0, none⟩) z := by
    have := sl.take z.length
    have e : (lentL z).take z.length = z := by unfold lentL; simp
    rw [e] at this
    exact this
  have UC := puc17 (some ⟨gl, 0, none⟩) z.length cl z w8 hsz rfl (by omega) (by intro h; cases h) (by have := HZL.out; omega)
  have HW8 : Hid (Below w.heap.size w w8) := HW7.out.trans (b8.mono HW7.out.size)
  have HSL8 : Hid (Seg w8 (some ⟨gl, 0, none⟩) (lentL z)) := sl
  clear LD ol b8 sl hcl hsz ql2 HW7
  go_wp2_with fail
  refine UC.mono ?_
  intro e10 w10 h10
  have hfit := un17_fit (f := 0) h10
  obtain ⟨p10, c10, rfl, s10, b10⟩ := ucq17_row h10
  have HW10 : Hid (Below w.heap.size w w10) := HW8.out.trans (b10.mono HW8.out.size)
  have HSL10 : Hid (Seg w10 (some ⟨gl, 0, none⟩) (lentL z)) := HSL8.out.old b10
  have RC := ruc17 za z.length zc z w10 (HZ.out w10 HW10.out) rfl HZC.out HZN.out (by have := HZL.out; omega)
  have HS10 : Hid (SegS w10 p10 (un17 z.length z []).2) := s10
  have HFI : Hid (∀ t ∈ (un17 z.length z []).2, Fit16 t) := hfit
  have HTL : Hid ((un17 z.length z []).2.length ≤ 5864062014804) := by
    show _ ≤ _
    have := un17_len z.length z []
    have := HZL.out
    simp only [List.length_nil] at *
    omega
  clear h10 s10 b10 UC hfit HSL8 HW8
  go_wp2_with fail
  refine RC.mono ?_
  intro e11 w11 h11
  obtain ⟨p11, c11, rfl, s11, b11⟩ := ucq17_row h11
  have HW11 : Hid (Below w.heap.size w w11) := HW10.out.trans (b11.mono HW10.out.size)
  have sA : SegS w11 p10 (un17 z.length z []).2 := HS10.out.old b11
  have HSL11 : Hid (Seg w11 (some ⟨gl, 0, none⟩) (lentL z)) := HSL10.out.old b11
  clear h11 RC b11
  generalize un17 z.length z [] = T at *
  obtain ⟨te, T⟩ := T
  simp only at *
  have PL := pplain17 (sa := p10) (n := T.length) (sc := c10) (da := none) (m := 0) (dc := 0) (xa := none) (k := 0) (xc := 0) w11 sA rfl (by have := HTL.out; omega)
  have PL : Hid (Calls Try.prog 13 #[.agg #[.slice p10 T.length c10, .slice none 0 0, .slice none 0 0]] w11 (PlQ17 w11 T (.slice none 0 0) (.slice none 0 0))) := PL
  have HS11 : Hid (SegS w11 p11 T) := s11
  clear sA s11
  go_wp2_with fail
  refine PL.out.mono ?_
  intro e12 w12 h12
  obtain ⟨p12, c12, rfl, s12, b12⟩ := plq17_row HFI.out h12
  have HW12 : Hid (Below w.heap.size w w12) := HW11.out.trans (b12.mono HW11.out.size)
  have SS := rsst17 p12 p11 T.length c12 c11 T w12 s12 (HS11.out.old b12) rfl (by have := HTL.out; omega)
  have HSL12 : Hid (Seg w12 (some ⟨gl, 0, none⟩) (lentL z)) := HSL11.out.old b12
  clear h12 s12 b12 PL
  go_wp2_with fail
  refine SS.mono ?_
  rintro e13 w13 ⟨rfl, b13⟩
  have HW13 : Hid (Below w.heap.size w w13) := HW12.out.trans (b13.mono HW12.out.size)
  have KE := kept_any za (some ⟨gl, 0, none⟩) (lentL z) z cl zc w13 (HSL12.out.old b13) (HZ.out w13 HW13.out) HZN.out (by have := HZL.out; omega)
  rw [show (lentL z == lentL z) = true by simp, show (lentL z).length = z.length + 5 by simp [lentL]] at KE
  clear b13 SS HSL12
  go_wp2_with fail
  refine KE.mono ?_
  rintro e14 w14 ⟨rfl, b14⟩
  have HW14 : Hid (Below w.heap.size w w14) := HW13.out.trans (b14.mono HW13.out.size)
  clear b14 KE
  go_wp2_with fail
  refine (plives17 w14).mono ?_
  rintro e15 w15 ⟨rfl, b15⟩
  go_wp2_with fail
  go_ret
  exact ⟨rfl, HW14.out.trans (b15.mono HW14.out.size)⟩
end Go.Proofs.Ytodioefbfchckaa

namespace Go.Proofs.Ytodioefbfchckaa
open Go.ChangeShapes Go.WideShapes Go.ChangeAt Go.RowKit
set_option linter.unusedVariables false

/-- A slice of whole numbers that came in: what lies there, and how it was read. -/
theorem open_seg {H : Type} {enc : TypeId × Value → H} {P : Program} {W : World} {T e : TypeId} {k : IntKind} {M : Int} {a : Option Addr} {len cap : Nat} {d : DataW H} {p : List MemPlace}
    (hT : P.underlying T = some (.slice e)) (he : P.underlying e = some (.int k)) (hc : P.cellsOf e = 1) (hM : 0 ≤ M) (hwf : ∀ n, (Lit.int k n).wf = true → 0 ≤ n ∧ n ≤ M)
    (h : DataW.Trod enc P W 0 (fun _ => true) true T (.slice a len cap) d p) :
    ∃ zs : List Int, zs.length = len ∧ SegK k M W a zs ∧ len ≤ cap ∧ (a = none → cap = 0) ∧ ((d = .nil ∧ len = 0) ∨ ∃ elems spare, d = .slice elems spare ∧ elems.length = len) := by
  obtain ⟨fuel, hf⟩ := h
  rcases open_ints hT he hc hf with ⟨hcs, hx⟩ | ⟨x, l, c, zs, hcs, _, hl, hm, hz, hx, hcell, hwz⟩
  · simp [Value.cells] at hcs
    obtain ⟨rfl, rfl, rfl⟩ := hcs
    simp only [Prod.mk.injEq] at hx
    exact ⟨[], rfl, SegK.nil hM _ _, Nat.le_refl _, fun _ => rfl, Or.inl ⟨hx.1, rfl⟩⟩
  · simp [Value.cells] at hcs
    obtain ⟨rfl, rfl, rfl⟩ := hcs
    simp only [Prod.mk.injEq] at hx
    simp only [if_true] at hz
    refine ⟨zs.take len, by simp; omega, ⟨fun i hi => ?_, hM, getD_bd hM ?_⟩, hl, (by intro h; cases h), Or.inr ⟨_, _, hx.1, by simp [ChangeShapes.lits]; omega⟩⟩
    · simp at hi
      have hi2 : i < len := by omega
      have h1 := hcell i (by omega)
      obtain ⟨b, off, spot⟩ := x
      have hs : spot = none := by
        have := hcell 0 (by omega)
        simpa [Addr.add] using World.cell?_spot this
      subst hs
      refine ⟨b, off, rfl, ?_⟩
      have hadd : (⟨b, off, none⟩ : Addr).add i = ⟨b, off + i, none⟩ := by unfold Addr.add; split <;> simp_all
      rw [hadd] at h1
      rw [h1]
      simp [List.getD, hi2]
    · intro z hz1
      exact hwf z (hwz z (List.mem_of_mem_take hz1))
end Go.Proofs.Ytodioefbfchckaa

namespace Go.Proofs.Ytodioefbfchckaa
open Go.ChangeShapes Go.WideShapes Go.ChangeAt Go.RowKit Go.Deep
set_option linter.unusedVariables false
set_option maxRecDepth 100000

theorem cells_st17 : Try.prog.cellsOf 77 = 3 := by kernel_rfl
theorem cells_int17 : Try.prog.cellsOf 3 = 1 := by kernel_rfl
theorem cells_u817 : Try.prog.cellsOf 5 = 1 := by kernel_rfl
theorem cells_sts17 : Try.prog.cellsOf 22 = 1 := by kernel_rfl
theorem cells_u8s17 : Try.prog.cellsOf 23 = 1 := by kernel_rfl
theorem cells_ed17 : Try.prog.cellsOf 25 = 3 := by kernel_rfl
theorem cells_wn17 : Try.prog.cellsOf 44 = 4 := by kernel_rfl
theorem bytes_st17 : Try.prog.bytesOf 77 = 24 := by kernel_rfl
theorem bytes_u817 : Try.prog.bytesOf 5 = 1 := by kernel_rfl
theorem one_st17 {H : Type} {enc : TypeId × Value → H} {W : World} {n : Nat} {cs : List Value} {x : DataW H × List MemPlace} (h : DataW.trod enc Try.prog W 0 (fun _ => true) true n 77 cs = some x) (hl : cs.length = 3) :
    ∃ t : St16, cs = [.int .i64 t.1, .int .i64 t.2.1, .int .i64 t.2.2] ∧ Fit16 t := by
  obtain ⟨xs, k, _, _, _, hxl, hf⟩ := DataW.trod_struct Try.underlying77 h
  match cs, hl with
  | [v0, v1, v2], _ =>
    match xs, hxl with
    | [y0, y1, y2], _ =>
      have g0 := hf 0 _ rfl
      have g1 := hf 1 _ rfl
      have g2 := hf 2 _ rfl
      simp [cells_int17] at g0 g1 g2
      obtain ⟨V, e0, _, w0⟩ := DataW.trod_int Try.underlying3 g0
      obtain ⟨N, e1, _, w1⟩ := DataW.trod_int Try.underlying3 g1
      obtain ⟨M, e2, _, w2⟩ := DataW.trod_int Try.underlying3 g2
      simp at e0 e1 e2
      subst e0 e1 e2
      exact ⟨(V, N, M), rfl, bounds_i64 w0, bounds_i64 w1, bounds_i64 w2⟩
/-- Steps that came in. -/
theorem open_steps17 {H : Type} {enc : TypeId × Value → H} {W : World} {v : Value} {fuel : Nat} {y : DataW H × List MemPlace}
    (hf : DataW.trod enc Try.prog W 0 (fun _ => true) true fuel 22 [v] = some y) :
    ∃ (a : Option Addr) (cap : Nat) (l : List St16), v = .slice a l.length cap ∧ SegS W a l ∧ l.length ≤ cap ∧ (a = none → cap = 0) ∧ (l.length = 0 ∨ ∃ elems spare, y.1 = .slice elems spare ∧ l.length = elems.length) := by
  haveI : Inhabited St16 := ⟨z16⟩
  rcases open_slice Try.underlying22 hf with ⟨hcs, hx⟩ | ⟨x, l, c, m, n, D, Pl, hcs, _, hl, hm, hmm, hx, hat⟩
  · simp at hcs
    subst hcs
    subst hx
    exact ⟨none, 0, [], rfl, SegS.nil _ _, Nat.le_refl _, fun _ => rfl, .inl rfl⟩
  · simp at hcs
    subst hcs
    simp only [if_true] at hmm
    subst hmm
    rw [cells_st17] at hat
    have key : ∀ i, i < m → ∃ q : St16, W.cell? (x.add (i * 3)) = some (.int .i64 q.1) ∧ W.cell? (x.add (i * 3 + 1)) = some (.int .i64 q.2.1) ∧ W.cell? (x.add (i * 3 + 2)) = some (.int .i64 q.2.2) ∧ Fit16 q := by
      intro i hi
      obtain ⟨cs', h1, h2⟩ := hat i hi
      obtain ⟨_, hlen, hcell⟩ := World.cells?_some h1
      obtain ⟨t, rfl, hfit⟩ := one_st17 h2 hlen
      have e0 := hcell 0 (by omega)
      have e1 := hcell 1 (by omega)
      have e2 := hcell 2 (by omega)
      rw [add_add] at e0 e1 e2
      exact ⟨t, by simpa using e0, by simpa using e1, by simpa using e2, hfit⟩
    obtain ⟨q, hq⟩ := choose_lt key
    refine ⟨some x, m, (List.range l).map q, by simp, ⟨fun i hi => ?_, fun t ht => ?_⟩, by simpa using hl, (by intro h; cases h), ?_⟩
    · have hi2 : i < l := by simpa using hi
      obtain ⟨h1, h2, h3, _⟩ := hq i (by omega)
      obtain ⟨b, off, spot⟩ := x
      have hs : spot = none := by
        obtain ⟨h5, _⟩ := hq 0 (by omega)
        simpa [Addr.add] using World.cell?_spot h5
      subst hs
      have hadd : ∀ j, (⟨b, off, none⟩ : Addr).add j = ⟨b, off + j, none⟩ := by intro j; unfold Addr.add; split <;> simp_all
      rw [hadd] at h1 h2 h3
      have hg : ((List.range l).map q).getD i z16 = q i := by simp [List.getD, hi2]
      rw [hg]
      exact ⟨b, off, rfl, h1, by rw [Nat.add_assoc]; exact h2, by rw [Nat.add_assoc]; exact h3⟩
    · obtain ⟨i, hi, rfl⟩ := List.mem_map.1 ht
      exact (hq i (by have := List.mem_range.1 hi; omega)).2.2.2
    · subst hx
      exact .inr ⟨_, _, rfl, by simp⟩
/-- Bytes that came in, in a struct. -/
theorem open_bytes17 {H : Type} {enc : TypeId × Value → H} {W : World} {v : Value} {fuel : Nat} {y : DataW H × List MemPlace}
    (hf : DataW.trod enc Try.prog W 0 (fun _ => true) true fuel 23 [v] = some y) :
    ∃ (a : Option Addr) (cap : Nat) (zs : List Int), v = .slice a zs.length cap ∧ Seg W a zs ∧ zs.length ≤ cap ∧ (a = none → cap = 0) ∧ (zs.length = 0 ∨ ∃ elems spare, y.1 = .slice elems spare ∧ zs.length = elems.length) := by
  obtain ⟨a, l, cap, rfl⟩ : ∃ a l cap, v = .slice a l cap := by
    rcases open_slice Try.underlying23 hf with ⟨hcs, hx⟩ | ⟨x, l, c, m, n, D, Pl, hcs, _⟩
    · simp at hcs; exact ⟨_, _, _, hcs⟩
    · simp at hcs; exact ⟨_, _, _, hcs⟩
  obtain ⟨y1, y2⟩ := y
  obtain ⟨zs, hz, h1, h2, h3, h4⟩ := open_seg (P := Try.prog) (k := .u8) (M := 255) Try.underlying23 Try.underlying5 cells_u817 (by decide) (fun n hn => bounds_u8 hn) (⟨fuel, hf⟩ : DataW.Trod enc Try.prog W 0 (fun _ => true) true 23 (.slice a l cap) y1 y2)
  subst hz
  refine ⟨a, cap, zs, rfl, h1, h2, h3, ?_⟩
  rcases h4 with ⟨hd, hl⟩ | ⟨elems, spare, hd, hl⟩
  · exact .inl hl
  · exact .inr ⟨elems, spare, hd, by omega⟩
/-- A window by value that came in. -/
theorem open_win17 {H : Type} {enc : TypeId × Value → H} {W : World} {r : Reach} {b0 : Nat} {v : Value} {d : DataW H} {pl : List MemPlace}
    (hv : Value.okWide Try.prog W r b0 44 v) (h : DataW.Trod enc Try.prog W 0 (fun _ => true) true 44 v d pl) (hw : (d.weights Try.prog 44).all (· ≤ reachBytes) = true) :
    ∃ (pos : Int) (sa : Option Addr) (n sc : Nat) (S : List St16) (da : Option Addr) (m dc : Nat) (D : List Int) (xa : Option Addr) (k xc : Nat) (X : List Int), v = wn17 pos sa n sc da m dc xa k xc ∧ Ed17 W sa n S da m D xa k X ∧ (da = none → dc = 0) ∧ (xa = none → xc = 0) ∧ m ≤ dc ∧ k ≤ xc := by
  obtain ⟨cs, rfl, hsz⟩ := okWide_struct Try.underlying44 hv
  rw [cells_wn17] at hsz
  obtain ⟨l⟩ := cs
  match l, hsz with
  | [u0, u1, u2, u3], _ =>
    obtain ⟨fuel, hf⟩ := h
    obtain ⟨xs, kk, _, hd, _, hxl, hfl⟩ := DataW.trod_struct Try.underlying44 hf
    match xs, hxl with
    | [y0, y1], _ =>
      have g0 := hfl 0 _ rfl
      have g1 := hfl 1 _ rfl
      simp [cells_int17, cells_ed17, Value.cells] at g0 g1
      obtain ⟨V, e0, _, w0⟩ := DataW.trod_int Try.underlying3 g0
      simp at e0
      subst e0
      obtain ⟨xs1, kk1, _, hd1, _, hxl1, hfl1⟩ := DataW.trod_struct Try.underlying25 g1
      match xs1, hxl1 with
      | [z0, z1, z2], _ =>
        have f0 := hfl1 0 _ rfl
        have f1 := hfl1 1 _ rfl
        have f2 := hfl1 2 _ rfl
        simp [cells_sts17, cells_u8s17] at f0 f1 f2
        obtain ⟨sa, sc, S, rfl, s0, c0, n0, l0⟩ := open_steps17 f0
        obtain ⟨da, dc, D, rfl, s1, c1, n1, l1⟩ := open_bytes17 f1
        obtain ⟨xa, xc, X, rfl, s2, c2, n2, l2⟩ := open_bytes17 f2
        have ed : d = .agg [y0.1, .agg [z0.1, z1.1, z2.1]] := by
          have := congrArg Prod.fst hd
          simp only at this
          rw [this, hd1]; rfl
        subst ed
        refine ⟨V, sa, S.length, sc, S, da, D.length, dc, D, xa, X.length, xc, X, rfl, ⟨s0, s1, s2, rfl, rfl, rfl, ?_, ?_, ?_⟩, n1, n2, c1, c2⟩
        · rcases l0 with l0 | ⟨elems, spare, e, l0⟩
          · omega
          · have := List.all_eq_true.1 hw ((elems.length + spare.length) * Try.prog.bytesOf 77) (by rw [e]; simp [DataW.weights, DataW.weightsEach, Try.underlying44, Try.underlying25, Try.underlying22])
            rw [bytes_st17] at this
            have t2 : (elems.length + spare.length) * 24 ≤ reachBytes := of_decide_eq_true this
            have t3 : reachBytes = 140737488351232 := rfl
            omega
        · rcases l1 with l1 | ⟨elems, spare, e, l1⟩
          · omega
          · have := List.all_eq_true.1 hw ((elems.length + spare.length) * Try.prog.bytesOf 5) (by rw [e]; simp [DataW.weights, DataW.weightsEach, Try.underlying44, Try.underlying25, Try.underlying23])
            rw [bytes_u817] at this
            simp [reachBytes] at this
            omega
        · rcases l2 with l2 | ⟨elems, spare, e, l2⟩
          · omega
          · have := List.all_eq_true.1 hw ((elems.length + spare.length) * Try.prog.bytesOf 5) (by rw [e]; simp [DataW.weights, DataW.weightsEach, Try.underlying44, Try.underlying25, Try.underlying23])
            rw [bytes_u817] at this
            simp [reachBytes] at this
            omega
end Go.Proofs.Ytodioefbfchckaa

namespace Go.Proofs.Ytodioefbfchckaa
open Go.ChangeShapes Go.WideShapes Go.ChangeAt Go.RowKit Go.Deep
set_option linter.unusedVariables false
set_option maxRecDepth 100000

/-- Steps that came in, in the second form. -/
theorem open_stepsU17 {H : Type} {enc : TypeId × Value → H} {W : World} {r : Reach} {b0 : Nat} {v : Value} {d : DataW H} {pl : List MemPlace}
    (hv : Value.okWide Try.prog W r b0 22 v) (h : DataW.Trod enc Try.prog W 0 (fun _ => true) true 22 v d pl) :
    ∃ (a : Option Addr) (cap : Nat) (l : List St16), v = .slice a l.length cap ∧ SegS W a l ∧ l.length ≤ cap ∧ (a = none → cap = 0) ∧ l.length + 1 ≤ Rows.uptoBulk d := by
  obtain ⟨a, n, c, rfl⟩ := okWide_slice Try.underlying22 hv
  obtain ⟨fuel, hf⟩ := h
  obtain ⟨a2, c2, l, hv2, s, hc, hn, hl⟩ := open_steps17 (v := .slice a n c) hf
  refine ⟨a2, c2, l, hv2, s, hc, hn, ?_⟩
  rcases hl with hl | ⟨elems, spare, e, hl⟩
  · have := UptoLemmas.bulk_pos d; omega
  · have := UptoLemmas.slice_le elems spare
    simp only at e
    rw [e]; omega
/-- A window by value that came in, in the second form. -/
theorem open_winU17 {H : Type} {enc : TypeId × Value → H} {W : World} {r : Reach} {b0 : Nat} {v : Value} {d : DataW H} {pl : List MemPlace}
    (hv : Value.okWide Try.prog W r b0 44 v) (h : DataW.Trod enc Try.prog W 0 (fun _ => true) true 44 v d pl) :
    ∃ (pos : Int) (sa : Option Addr) (n sc : Nat) (S : List St16) (da : Option Addr) (m dc : Nat) (D : List Int) (xa : Option Addr) (k xc : Nat) (X : List Int), v = wn17 pos sa n sc da m dc xa k xc ∧ (SegS W sa S ∧ Seg W da D ∧ Seg W xa X) ∧ (S.length = n ∧ D.length = m ∧ X.length = k) ∧ (da = none → dc = 0) ∧ (xa = none → xc = 0) ∧ m ≤ dc ∧ k ≤ xc ∧ n + m + k ≤ Rows.uptoBulk d := by
  obtain ⟨cs, rfl, hsz⟩ := okWide_struct Try.underlying44 hv
  rw [cells_wn17] at hsz
  obtain ⟨l⟩ := cs
  match l, hsz with
  | [u0, u1, u2, u3], _ =>
    obtain ⟨fuel, hf⟩ := h
    obtain ⟨xs, kk, _, hd, _, hxl, hfl⟩ := DataW.trod_struct Try.underlying44 hf
    match xs, hxl with
    | [y0, y1], _ =>
      have g0 := hfl 0 _ rfl
      have g1 := hfl 1 _ rfl
      simp [cells_int17, cells_ed17, Value.cells] at g0 g1
      obtain ⟨V, e0, _, w0⟩ := DataW.trod_int Try.underlying3 g0
      simp at e0
      subst e0
      obtain ⟨xs1, kk1, _, hd1, _, hxl1, hfl1⟩ := DataW.trod_struct Try.underlying25 g1
      match xs1, hxl1 with
      | [z0, z1, z2], _ =>
        have f0 := hfl1 0 _ rfl
        have f1 := hfl1 1 _ rfl
        have f2 := hfl1 2 _ rfl
        simp [cells_sts17, cells_u8s17] at f0 f1 f2
        obtain ⟨sa, sc, S, rfl, s0, c0, n0, l0⟩ := open_steps17 f0
        obtain ⟨da, dc, D, rfl, s1, c1, n1, l1⟩ := open_bytes17 f1
        obtain ⟨xa, xc, X, rfl, s2, c2, n2, l2⟩ := open_bytes17 f2
        have ed : d = .agg [y0.1, .agg [z0.1, z1.1, z2.1]] := by
          have := congrArg Prod.fst hd
          simp only at this
          rw [this, hd1]; rfl
        subst ed
        have e0 : S.length + 1 ≤ Rows.uptoBulk z0.1 := by
          rcases l0 with l0 | ⟨elems, spare, e, l0⟩
          · have := UptoLemmas.bulk_pos z0.1; omega
          · have := UptoLemmas.slice_le elems spare; rw [e]; omega
        have e1 : D.length + 1 ≤ Rows.uptoBulk z1.1 := by
          rcases l1 with l1 | ⟨elems, spare, e, l1⟩
          · have := UptoLemmas.bulk_pos z1.1; omega
          · have := UptoLemmas.slice_le elems spare; rw [e]; omega
        have e2 : X.length + 1 ≤ Rows.uptoBulk z2.1 := by
          rcases l2 with l2 | ⟨elems, spare, e, l2⟩
          · have := UptoLemmas.bulk_pos z2.1; omega
          · have := UptoLemmas.slice_le elems spare; rw [e]; omega
        refine ⟨V, sa, S.length, sc, S, da, D.length, dc, D, xa, X.length, xc, X, rfl, ⟨s0, s1, s2⟩, ⟨rfl, rfl, rfl⟩, n1, n2, c1, c2, ?_⟩
        simp only [Rows.uptoBulk, Rows.uptoBulkAll]
        omega
end Go.Proofs.Ytodioefbfchckaa
