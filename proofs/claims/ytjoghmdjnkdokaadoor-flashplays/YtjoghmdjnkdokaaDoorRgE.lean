
import Derived.Test.YtjoghmdjnkdokaaDoorRgD
import Derived.Test.YtjoghmdjnkdokaaDoorPgF
namespace Go.Proofs.YtjoghmdjnkdokaaDoor
open Go.RowKit Go.Shelf
set_option linter.unusedVariables false
set_option linter.unusedSimpArgs false

/-! The document's page writer: End. -/
section
variable {w w' : World} {u b : Nat} {G H : Nat → Prop} {ha : Option Addr} {hc : Nat} {S S' : Fs21} {P P' : Pw22}
theorem Rw22.setO (h : Rw22 w u b ha hc P) (h0 : P.cl = 0) : Rw22 (w.setCell ⟨u, 6, none⟩ (.bool true)) u b ha hc { P with cl := 221 } := by
  refine ⟨?_, own_tr22 h.ow (fun r hr => set_other22 w _ (h.ne r hr)), h.ne, h.bd⟩
  have q := (seven_set22 h.hu (.bool true)).2.2.2
  have e1 : (if P.cl = 221 then 0 else P.cl) = 0 := by rw [h0]; rfl
  rw [e1] at q
  exact q
theorem Rh22.over (h : Rh22 w u b G H ha hc S P) (h0 : P.cl = 0) : Ren22 w (w.setCell ⟨u, 6, none⟩ (.bool true)) u b H S { P with cl := 221 } := by
  have hk : Kp H w (w.setCell ⟨u, 6, none⟩ (.bool true)) := Kp.set h.uH _
  refine ⟨H, ⟨G, ha, hc, ⟨h.fl.kp (fun k e => set_other22 w _ (fun q => h.nu (q ▸ e))) hk.size, h.wr.setO h0, h.nu, h.nh, h.gH, h.uH, h.hH, fun k e => Nat.lt_of_lt_of_le (h.lt k e) hk.size⟩⟩, fun _ e => .inl e, hk⟩
theorem Rh22.same (h : Rh22 w u b G H ha hc S P) : Ren22 w w u b H S P := ⟨H, ⟨G, ha, hc, h⟩, fun _ e => .inl e, Kp.refl _ _⟩
end
end Go.Proofs.YtjoghmdjnkdokaaDoor
