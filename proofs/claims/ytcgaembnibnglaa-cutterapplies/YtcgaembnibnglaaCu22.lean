
import Derived.Test.YtcgaembnibnglaaCu21
import Derived.Test.YtcgaembnibnglaaCu20
import Derived.Test.YtcgaembnibnglaaCu17
import Derived.Test.YtcgaembnibnglaaLend
import Derived.Test.YtcgaembnibnglaaOwnUse
namespace Go.Proofs.Ytcgaembnibnglaa
open Go.RowKit Go.Shelf
set_option linter.unusedVariables false

/-! CutterApplies: what is asked of Apply, in one form. -/
theorem w17_len {pos : Int} {S : List St16} {m k : Nat} {old size : Int} (h : W17 pos S m k old size) : S.length ≤ 65536 := by
  obtain ⟨_, hsa, hsc, hmk, _⟩ := w17_ok h
  have key : ∀ i, i ≤ S.length → i ≤ sa16 S i + sc16 S i := by
    intro i
    induction i with
    | zero => intro _; omega
    | succ i ih =>
      intro hi
      have := ih (by omega)
      obtain ⟨g1, g2, g3, _⟩ := h.2.2.1 i (by omega)
      simp only [sa16, sc16, ad16, cp16]
      omega
  have := key S.length (Nat.le_refl _)
  omega
open Classical in
noncomputable def al17 (z : List Int) (pos : Int) (S : List St16) (D X : List Int) (size : Int) : List Int := if W17 pos S D.length X.length (z.length : Int) size then aw17 z pos S D X else []
/-- What Apply answers. -/
def ArQ17 (w : World) (L : List Int) (er : Int) (e : Ending) (w' : World) : Prop := ∃ ra rc, e = .returned (.tuple #[.slice ra L.length rc, .int .i64 er]) ∧ w'.ownsRow w.heap.size 5 1 (.slice ra L.length rc) L.length (L.map (Value.int .u8)) ∧ Below w.heap.size w w'
theorem papl17_all (pos size : Int) {za : Option Addr} {zc : Nat} {z : List Int} {sa : Option Addr} {sc : Nat} {da : Option Addr} {dc : Nat} {xa : Option Addr} {xc : Nat} {S : List St16} {D X : List Int} (w : World) (h : Ed17 w sa S.length S da D.length D xa X.length X) (hz : Seg w za z) (hzl : z.length ≤ 140737488351232) (hdc : D.length ≤ dc) (hxc : X.length ≤ xc) :
    Calls Try.prog 22 #[.slice za z.length zc, wn17 pos sa S.length sc da D.length dc xa X.length xc, .int .i64 size] w (ArQ17 w (al17 z pos S D X size) (cc17 pos S D.length X.length (z.length : Int) size)) := by
  by_cases hW : W17 pos S D.length X.length (z.length : Int) size
  · have e1 : al17 z pos S D X size = aw17 z pos S D X := by unfold al17; rw [if_pos hW]
    have hl := w17_len hW
    obtain ⟨_, _, _, hmk, _⟩ := w17_ok hW
    obtain ⟨sz, hsz⟩ : ∃ sz : Nat, (sz : Int) = size := ⟨size.toNat, by have := hW.1; omega⟩
    subst hsz
    rw [e1, cc17_ok hW]
    exact papl17 pos sz w ⟨h.ss, h.sd, h.sx, rfl, rfl, rfl, by omega, by omega, by omega⟩ hz rfl hdc hxc hW
  · have e1 : al17 z pos S D X size = [] := by unfold al17; rw [if_neg hW]
    rw [e1, cc17_no hW]
    refine (papl17_no pos size w h.ss rfl (by have := h.ln; omega) (by have := h.lm; omega) (by have := h.lk; omega) (by omega) hW).mono ?_
    rintro e w' ⟨rfl, hb⟩
    exact ⟨none, 0, rfl, ⟨by simp, .inl ⟨rfl, rfl⟩⟩, hb⟩
theorem rapl17_all (pos size : Int) {za : Option Addr} {zc : Nat} {z : List Int} {sa : Option Addr} {sc : Nat} {da : Option Addr} {dc : Nat} {xa : Option Addr} {xc : Nat} {S : List St16} {D X : List Int} (w : World) (h : Ed17 w sa S.length S da D.length D xa X.length X) (hz : Seg w za z) (hxc : X.length ≤ xc) (nk : xa = none → xc = 0) :
    Calls Try.prog 23 #[.slice za z.length zc, wn17 pos sa S.length sc da D.length dc xa X.length xc, .int .i64 size] w (ArQ17 w (al17 z pos S D X size) (cc17 pos S D.length X.length (z.length : Int) size)) := by
  by_cases hW : W17 pos S D.length X.length (z.length : Int) size
  · have e1 : al17 z pos S D X size = aw17 z pos S D X := by unfold al17; rw [if_pos hW]
    have hl := w17_len hW
    obtain ⟨_, _, _, hmk, _⟩ := w17_ok hW
    obtain ⟨sz, hsz⟩ : ∃ sz : Nat, (sz : Int) = size := ⟨size.toNat, by have := hW.1; omega⟩
    subst hsz
    rw [e1, cc17_ok hW]
    exact rapl17 pos sz w ⟨h.ss, h.sd, h.sx, rfl, rfl, rfl, by omega, by omega, by omega⟩ hz rfl hxc nk hW
  · have e1 : al17 z pos S D X size = [] := by unfold al17; rw [if_neg hW]
    rw [e1, cc17_no hW]
    refine (rapl17_no pos size w h.ss rfl (by have := h.ln; omega) (by have := h.lm; omega) (by have := h.lk; omega) hW).mono ?_
    rintro e w' ⟨rfl, hb⟩
    exact ⟨none, 0, rfl, ⟨by simp, .inl ⟨rfl, rfl⟩⟩, hb⟩
/-- The window that was faced, in memory. -/
theorem wn17_ed {base : Nat} {v1 v2 v3 : Value} {S : List St16} {D X : List Int} {w : World} (h : Wn17 base (v1, v2, v3) (pt17 S D X) w) (hf : ∀ t ∈ S, Fit16 t) (hd : ∀ t ∈ D, 0 ≤ t ∧ t ≤ 255) (hx : ∀ t ∈ X, 0 ≤ t ∧ t ≤ 255) (l1 : S.length ≤ 5864062014804) (l2 : D.length ≤ 140737488351232) (l3 : X.length ≤ 140737488351232) : ∃ sa sc da dc xa xc, v1 = .slice sa S.length sc ∧ v2 = .slice da D.length dc ∧ v3 = .slice xa X.length xc ∧ Ed17 w sa S.length S da D.length D xa X.length X ∧ D.length ≤ dc ∧ X.length ≤ xc := by
  obtain ⟨sa, sc, da, dc, xa, xc, e1, e2, e3, hs⟩ := wn17_seg h hf
  have h2 := h.oD
  have h3 := h.oX
  simp only at h2 h3
  rw [e2] at h2
  rw [e3] at h3
  obtain ⟨-, a2, c2, hv2, s2, -, k2, -⟩ := own_seg h2 (M := 255) (by decide) hd
  obtain ⟨-, a3, c3, hv3, s3, -, k3, -⟩ := own_seg h3 (M := 255) (by decide) hx
  injection hv2 with q1 q2 q3
  injection hv3 with r1 r2 r3
  subst q1; subst q3; subst r1; subst r3
  exact ⟨sa, sc, da, dc, xa, xc, e1, e2, e3, ⟨hs, s2, s3, rfl, rfl, rfl, l1, l2, l3⟩, k2, k3⟩
end Go.Proofs.Ytcgaembnibnglaa
