import Derived.Test.YtmjlpfmacblcpaaDoorPa
import Derived.Test.YtmjlpfmacblcpaaDoorPt
import Derived.WalkKit
import Derived.ProofKit
import Derived.OpenShut
import Derived.SizedLaws
import Derived.Deep.Slices
import Derived.Lib.SmallJoins
import Derived.Test.YtmjlpfmacblcpaaDoorProg
import Derived.Test.YtmjlpfmacblcpaaDoorPn
import Derived.WalkSpells
import Derived.WalkLawsBesides
import Derived.Deep.QuietTactic
import Derived.BigQuiet
import Derived.Test.YtmjlpfmacblcpaaDoorPq
import Derived.Test.YtmjlpfmacblcpaaDoorPr
import Derived.Test.YtmjlpfmacblcpaaDoorPs
import Derived.Test.YtmjlpfmacblcpaaDoorPh
import Derived.Test.YtmjlpfmacblcpaaDoorPo
import Derived.Test.YtmjlpfmacblcpaaDoorPl
import Derived.Test.YtmjlpfmacblcpaaDoorPp
import Derived.Test.YtmjlpfmacblcpaaDoorPk
namespace Go.Proofs.YtmjlpfmacblcpaaDoor
open Go.ChangeShapes Go.WideShapes Go.ChangeAt Go.RowKit Go.Deep
set_option linter.unusedVariables false
set_option maxRecDepth 100000
structure Oq21 where
  c : Int
  a : Int
  p : Int
  n : Int
  ba : Option Addr
  b : List Int
  bc : Nat
theorem cells_op21 : Tryd.prog.cellsOf 39 = 5 := by kernel_rfl
theorem cells_in21 : Tryd.prog.cellsOf 3 = 1 := by kernel_rfl
theorem cells_sl21 : Tryd.prog.cellsOf 22 = 1 := by kernel_rfl
theorem cells_u821 : Tryd.prog.cellsOf 5 = 1 := by kernel_rfl
structure Of21 (W : World) (o : Oq21) : Prop where
  sg : Seg W o.ba o.b
  cap : o.b.length ≤ o.bc
  nil : o.ba = none → o.bc = 0
  c : In21 o.c
  a : In21 o.a
  p : In21 o.p
  n : In21 o.n
theorem slc21 {H : Type} {enc : TypeId × Value → H} {W : World} {k : Nat} {v : Value} {y : DataW H × List MemPlace} (g : DataW.trod enc Tryd.prog W 0 (fun _ => true) true k 22 [v] = some y) :
    ∃ (ba : Option Addr) (p : List Int) (bc : Nat), v = .slice ba p.length bc ∧ Seg W ba p ∧ p.length ≤ bc ∧ (ba = none → bc = 0) ∧ ((y.1 = .nil ∧ p.length = 0) ∨ ∃ elems spare, y.1 = .slice elems spare ∧ elems.length = p.length) := by
  obtain ⟨ba, bl, bc, rfl⟩ : ∃ ba bl bc, v = .slice ba bl bc := by
    rcases open_ints Tryd.underlying22 Tryd.underlying5 cells_u821 g with ⟨hcs, _⟩ | ⟨x, l, c, zs, hcs, _⟩
    · simp at hcs; exact ⟨_, _, _, hcs⟩
    · simp at hcs; exact ⟨_, _, _, hcs⟩
  have ht : DataW.Trod enc Tryd.prog W 0 (fun _ => true) true 22 (.slice ba bl bc) y.1 y.2 := ⟨k, by simpa [Value.cells] using g⟩
  obtain ⟨p, hp, hseg, hcap, hnil, hd⟩ := open_seg (k := .u8) (M := 255) Tryd.underlying22 Tryd.underlying5 cells_u821 (by decide) (fun n hn => bounds_u8 hn) ht
  subst hp
  exact ⟨ba, p, bc, rfl, hseg, hcap, hnil, hd⟩
/-- A script in memory. -/
structure Ss21 (W : World) (a : Option Addr) (len : Nat) (O : Nat → Oq21) : Prop where
  at_ : ∀ i, i < len → ∃ g off, a = some ⟨g, off, none⟩ ∧ W.cell? ⟨g, off + i * 5, none⟩ = some (.int .i64 (O i).c) ∧ W.cell? ⟨g, off + i * 5 + 1, none⟩ = some (.int .i64 (O i).a) ∧ W.cell? ⟨g, off + i * 5 + 2, none⟩ = some (.int .i64 (O i).p) ∧ W.cell? ⟨g, off + i * 5 + 3, none⟩ = some (.int .i64 (O i).n) ∧ W.cell? ⟨g, off + i * 5 + 4, none⟩ = some (.slice (O i).ba (O i).b.length (O i).bc)
  of : ∀ i, i < len → Of21 W (O i)
end Go.Proofs.YtmjlpfmacblcpaaDoor

namespace Go.Proofs.YtmjlpfmacblcpaaDoor
open Go.RowKit
set_option linter.unusedVariables false
theorem info_u8' : (Tryd.prog.info? 5).map (fun i => (i.zero, i.size, i.bytes)) = some (some (.int .u8 0), 1, 1) := by kernel_rfl
def lentL (zs : List Int) : List Int := zs ++ [171, 172, 173, 174, 175]

theorem seg_five (w : World) : Seg (w.alloc (.cells #[.int .u8 171, .int .u8 172, .int .u8 173, .int .u8 174, .int .u8 175] 5)) (some ⟨w.heap.size, 0, none⟩) [171, 172, 173, 174, 175] := by
  refine ⟨fun i hi => ⟨w.heap.size, 0, rfl, ?_⟩, by decide, ?_⟩
  · simp only [List.length_cons, List.length_nil] at hi
    match i, hi with
    | 0, _ => simp
    | 1, _ => simp
    | 2, _ => simp
    | 3, _ => simp
    | 4, _ => simp
  · exact getD_bd (by decide) (by intro z hz; simp at hz; omega)

set_option maxRecDepth 100000 in
set_option maxHeartbeats 400000 in
theorem lend_any (a : Option Addr) (zs : List Int) (cap : Nat) (w : World) (hs : Seg w a zs) (hnil : a = none → cap = 0) (hl : zs.length ≤ 140737488351232) :
    Calls Tryd.prog 7 #[.slice a zs.length cap] w fun e w' => ∃ g cap', e = .returned (.tuple #[.slice (some ⟨g, 0, none⟩) (zs.length + 5) cap', .slice (some ⟨g, 0, none⟩) zs.length cap']) ∧
      w'.ownsRow w.heap.size 5 1 (.slice (some ⟨g, 0, none⟩) (zs.length + 5) cap') (zs.length + 5) ((lentL zs).map (Value.int .u8)) ∧ Below w.heap.size w w' := by
  obtain ⟨i0, hi, hz0, hz1, hz2⟩ := info_parts info_u8'
  go_enter Tryd.func7, Tryd.ntmps7
  have hm0 : (w.alloc (.cells #[] 5)).ownsRow w.heap.size 5 1 (.slice (some ⟨w.heap.size, 0, none⟩) 0 0) 0 [] := World.ownsRow_made w #[] 0 (Nat.le_refl _) (by decide) rfl
  have hb0 : Below w.heap.size w (w.alloc (.cells #[] 5)) := (Below.refl _ _).alloc (Nat.le_refl _) _
  go_wp2_with (first
    | (at_builtin; refine wpList_append_seg rfl (.tmp 5) (.tmp 6) 22 rfl w.heap.size 5 i0 (.int .u8 0) 1 Tryd.underlying22 hi hz0 hz1 hz2 rfl hm0 (hs.alloc _) hnil rfl rfl (by omega) (by omega) (by simp) ?_; intro v1 w1 hown1 hg1 hb1)
    | (at_builtin; refine wpList_append_seg rfl (.tmp 7) (.tmp 8) 22 rfl w.heap.size 5 i0 (.int .u8 0) 1 Tryd.underlying22 hi hz0 hz1 hz2 rfl (hown1.alloc _) (seg_five w1) (by intro h; cases h) rfl rfl (by simp; omega) (by simp; omega) (by have := hb1.size; simp at this ⊢; omega) ?_; intro v2 w2 hown2 hg2 hb2))
  obtain ⟨g, cap', rfl, hc2, hg, hgs⟩ := own_shape hown2 (by simp)
  have hcc : (zs.length : Int) ≤ (cap' : Int) := by simp at hc2; omega
  have hs1 := hb1.size
  have hbb : Below w.heap.size w w2 := hb0.trans (hb1.trans (((Below.refl _ _).alloc (by simp at hs1; omega) _).trans hb2))
  have hown3 : w2.ownsRow w.heap.size 5 1 (.slice (some ⟨g, 0, none⟩) (zs.length + 5) cap') (zs.length + 5) ((lentL zs).map (Value.int .u8)) := by
    have := hown2
    simp only [List.nil_append, Nat.zero_add, ← List.map_append] at this
    exact this
  clear hown2 hown1 hg1 hg2 hb1 hb2
  have e5 : 0 + zs.length + ([171, 172, 173, 174, 175] : List Int).length = zs.length + 5 := by simp
  rw [e5]
  clear e5 hc2
  go_region
  go_wp2
  go_ret2
  exact ⟨g, cap', rfl, hown3, hbb.drew⟩

theorem lent_bd {zs : List Int} (h : ∀ z ∈ zs, 0 ≤ z ∧ z ≤ 255) : ∀ z ∈ lentL zs, 0 ≤ z ∧ z ≤ 255 := by
  intro z hz
  unfold lentL at hz
  rw [List.mem_append] at hz
  rcases hz with hz | hz
  · exact h z hz
  · simp at hz; omega

set_option maxRecDepth 100000 in
/-- The longer list is as Lend made it. -/
theorem kept_any (a b : Option Addr) (xs zs : List Int) (ca cap : Nat) (w : World) (hx : Seg w b xs) (hs : Seg w a zs) (hnil : a = none → cap = 0) (hl : zs.length ≤ 140737488351232) :
    Calls Tryd.prog 10 #[.slice b xs.length ca, .slice a zs.length cap] w fun e w' => e = .returned (.bool (xs == lentL zs)) ∧ Below w.heap.size w w' := by
  go_enter Tryd.func10, Tryd.ntmps10
  go_wp2_with fail
  refine (lend_any a zs cap _ hs hnil hl).mono ?_
  rintro e w1 ⟨g, cap', rfl, hown, hb⟩
  obtain ⟨hn, a', c', hv, hseg, _, _, _⟩ := own_seg hown (M := 255) (by decide) (lent_bd hs.mem)
  have ha : a' = some ⟨g, 0, none⟩ := by simp at hv; exact hv.1.symm
  subst ha
  clear hv
  have hx1 := hx.old hb
  go_wp2_with fail
  refine (bsame_any b (some ⟨g, 0, none⟩) xs (lentL zs) ca cap' _ hx1 hseg).mono ?_
  rintro e w2 ⟨rfl, hw2⟩
  subst w2
  go_wp2
  go_ret
  exact ⟨rfl, hb⟩
end Go.Proofs.YtmjlpfmacblcpaaDoor

namespace Go.Proofs.YtmjlpfmacblcpaaDoor
open Go.RowKit Go.Shelf
set_option linter.unusedVariables false
set_option linter.unusedSimpArgs false
structure Dv21 (B V : World) (f b : Nat) (F G F' G' : Nat → Prop) (S S2 : Fs21) : Prop where
  p : Fl21 V f F' S
  d : Rl21d V b G' S2
  dj : ∀ k, F' k → ¬ G' k
  fF : ∀ k, F' k → F k ∨ B.heap.size ≤ k
  gG : ∀ k, G' k → G k ∨ B.heap.size ≤ k
  kk : Kp (fun k => F k ∨ G k) B V
section
variable {B V V' : World} {f b : Nat} {F G F' G' : Nat → Prop} {S S2 S' : Fs21}
theorem Dv21.below (h : Dv21 B V f b F G F' G' S S2) (hb : Below V.heap.size V V') : Dv21 B V' f b F G F' G' S S2 :=
  ⟨h.p.old hb, h.d.old hb, h.dj, h.fF, h.gG, h.kk.trans (Kp.of_below hb) (fun _ _ e => e)⟩
theorem Dv21.prog (h : Dv21 B V f b F G F' G' S S2) (hn : Fn21 V V' f F' S') : ∃ F'', Dv21 B V' f b F G F'' G' S' S2 := by
  obtain ⟨F'', h1, h2, h3⟩ := hn
  refine ⟨F'', h1, h.d.kp (fun k e => h3.block k (h.d.lts k e) (fun q => h.dj k q e)) h3.size, fun k e q => ?_, fun k e => ?_, h.gG, h.kk.trans h3 (fun i hi e => ?_)⟩
  · rcases h2 k e with e | e
    · exact h.dj k e q
    · have := h.d.lts k q; omega
  · rcases h2 k e with e | e
    · exact h.fF k e
    · exact .inr (Nat.le_trans h.kk.size e)
  · rcases h.fF i e with e | e
    · exact .inl e
    · omega
theorem Dv21.doc (h : Dv21 B V f b F G F' G' S S2) (hn : Rn21 V V' b G' S') : ∃ G'', Dv21 B V' f b F G F' G'' S S' := by
  obtain ⟨G'', h1, h2, h3⟩ := hn
  have hlt : ∀ k, F' k → k < V.heap.size := by
    obtain ⟨m, c, f, ta, tc, la, lc, W, _, _, _, _, _, h6⟩ := h.p
    exact h6
  refine ⟨G'', h.p.kp (fun k e => h3.block k (hlt k e) (fun q => h.dj k e q)) h3.size, h1, fun k e q => ?_, h.fF, fun k e => ?_, h.kk.trans h3 (fun i hi e => ?_)⟩
  · rcases h2 k q with q | q
    · exact h.dj k e q
    · have := hlt k e; omega
  · rcases h2 k e with e | e
    · exact h.gG k e
    · exact .inr (Nat.le_trans h.kk.size e)
  · rcases h.gG i e with e | e
    · exact .inr e
    · omega
theorem Dv21.blk (h : Dv21 B V f b F G F' G' S S2) {k : Nat} (hk : k < B.heap.size) (h1 : ¬ F k) (h2 : ¬ G k) : V.heap[k]? = B.heap[k]? :=
  h.kk.block k hk (fun e => e.elim h1 h2)
/-- A block that is none of theirs is written. -/
theorem Dv21.set (h : Dv21 B V f b F G F' G' S S2) {g : Nat} (hk : Kp (fun k => k = g) V V') (hf : ¬ F' g) (hg : ¬ G' g) (hlt : B.heap.size ≤ g ∨ F g ∨ G g) : Dv21 B V' f b F G F' G' S S2 := by
  have hltF : ∀ k, F' k → k < V.heap.size := by
    obtain ⟨m, c, f, ta, tc, la, lc, W, _, _, _, _, _, h6⟩ := h.p
    exact h6
  refine ⟨h.p.kp (fun k e => hk.block k (hltF k e) (fun q => hf (q ▸ e))) hk.size, h.d.kp (fun k e => hk.block k (h.d.lts k e) (fun q => hg (q ▸ e))) hk.size, h.dj, h.fF, h.gG, h.kk.trans hk (fun i hi e => ?_)⟩
  subst e
  rcases hlt with e | e | e
  · omega
  · exact .inl e
  · exact .inr e
end
def ds21 (S : Fs21) (c a p n : Int) (L : List Int) : Fs21 := if c = 1 then erS21 S a p else if c = 2 then pgS21 S a p L else if c = 4 then cuS21 S n L else if c = 5 then { S with on := true } else if c = 6 then tuS21 S else if c = 7 then liS21 S n else S
def lgl21 (S S' : Fs21) : Prop := S'.lg.length ≤ S.lg.length + 1 ∧ S'.pg = S.pg ∧ S'.ps = S.ps
theorem lgl21_rn (S : Fs21) (kd x y : Int) (s : Sh21) : lgl21 S (rn21 S kd x y s) := by
  unfold rn21 cu21 go21 lgl21
  split <;> simp
theorem ok21_tu' {S : Fs21} (h : Ok21 S) : Ok21 (tuS21 S) := by
  unfold tuS21
  split
  · exact ⟨h.pg, h.ps, by have := h.ac; show 1 - S.ac = 0 ∨ 1 - S.ac = 1; omega, h.lm, h.lf, h.tn, h.sh⟩
  · exact h
theorem ok21_li {S : Fs21} (h : Ok21 S) (n : Int) : Ok21 (liS21 S n) := by
  unfold liS21
  split
  · exact h
  · exact ⟨h.pg, h.ps, h.ac, by show 0 ≤ n ∧ n ≤ 1099511627776; omega, h.lf, h.tn, h.sh⟩
theorem ok21_cu' {S : Fs21} (h : Ok21 S) (n : Int) (hn : In21 n) (L : List Int) : Ok21 (cuS21 S n L) := by
  unfold cuS21
  split
  · exact h
  · split
    · exact h
    · exact ⟨h.pg, h.ps, h.ac, h.lm, by unfold In21 at hn; show 0 ≤ n ∧ n ≤ 9223372036854775807; omega, by show (if 0 < n then L else []).length ≤ S.pg; (split <;> (first | omega | simp)), h.sh⟩
theorem ok21_ds {S : Fs21} (h : Ok21 S) (c a p n : Int) (hn : In21 n) (L : List Int) : Ok21 (ds21 S c a p n L) := by
  unfold ds21
  split
  · exact ok21_er h a p
  · split
    · exact ok21_pg h a p L
    · split
      · exact ok21_cu' h n hn L
      · split
        · exact ⟨h.pg, h.ps, h.ac, h.lm, h.lf, h.tn, h.sh⟩
        · split
          · exact ok21_tu' h
          · split
            · exact ok21_li h n
            · exact h
theorem lgl21_ds (S : Fs21) (c a p n : Int) (L : List Int) : lgl21 S (ds21 S c a p n L) := by
  have h0 : lgl21 S S := ⟨by omega, rfl, rfl⟩
  unfold ds21
  split
  · unfold erS21; split
    · exact h0
    · split
      · exact h0
      · exact lgl21_rn S _ _ _ _
  · split
    · unfold pgS21; split
      · exact h0
      · split
        · exact h0
        · split
          · exact h0
          · exact lgl21_rn S _ _ _ _
    · split
      · unfold cuS21; split
        · exact h0
        · split
          · exact h0
          · exact h0
      · split
        · exact h0
        · split
          · unfold tuS21; split <;> exact h0
          · split
            · unfold liS21; split <;> exact h0
            · exact h0
theorem ox_rw21 {w : World} {g n base : Nat} {zs : List Int} (h : Rw21 w g zs) (hn : zs.length = n) (hb : base ≤ g) (hl : n ≤ 140737488355328) : RowX 5 w base (.slice (some ⟨g, 0, none⟩) n n) zs := by
  obtain ⟨X, hX⟩ := h
  subst hn
  refine ⟨by simp, .inr ⟨g, zs.length, _, rfl, hb, hX, Nat.le_refl _, by unfold maxLen; omega, by simp, ?_⟩⟩
  simp
end Go.Proofs.YtmjlpfmacblcpaaDoor

namespace Go.Proofs.YtmjlpfmacblcpaaDoor
open Go.RowKit Go.Shelf
set_option linter.unusedVariables false
set_option linter.unusedSimpArgs false
def Sq24 (S S' : Fs21) (x y : Int) : Prop := (sh21 S' x y).er = (sh21 S x y).er ∧ (sh21 S' x y).wr = (sh21 S x y).wr ∧ fb21 S' x y = fb21 S x y
structure Tw24 (S S' : Fs21) : Prop where
  pg : S'.pg = S.pg
  ps : S'.ps = S.ps
  ac : S'.ac = S.ac
  on : S'.on = S.on
  lm : S'.lm = S.lm
  lf : S'.lf = S.lf
  tn : S'.tn = S.tn
  sh : ∀ x y, 0 ≤ y → y < pn21 S.ps x → Sq24 S S' x y
theorem fb_getD24 (S : Fs21) (x y : Int) (i : Nat) : (fb21 S x y).getD i 255 = (sh21 S x y).b.getD i 255 := by
  unfold fb21
  by_cases h : i < (sh21 S x y).b.length
  · simp [List.getD, List.getElem?_append, h]
  · rw [List.getD_eq_getElem?_getD, List.getD_eq_getElem?_getD, List.getElem?_append_right (by omega), List.getElem?_eq_none (show (sh21 S x y).b.length ≤ i by omega)]
    by_cases h2 : i - (sh21 S x y).b.length < S.pg - (sh21 S x y).b.length
    · simp [List.getElem?_replicate, h2]
    · simp [List.getElem?_replicate, h2]
section
variable {S S' : Fs21}
theorem Tw24.rf (h : Tw24 S S') (x y : Int) : rf21 S'.on S'.ps x y = rf21 S.on S.ps x y := by rw [h.on, h.ps]
theorem rf_ok24 {on : Bool} {ps : Nat} {x y : Int} (h : rf21 on ps x y = 0) : 0 ≤ y ∧ y < pn21 ps x := by
  unfold rf21 at h
  split at h
  · unfold ms21 at h
    split at h
    · omega
    · omega
  · omega
theorem Tw24.shv (h : Tw24 S S') {x y : Int} (hr : rf21 S.on S.ps x y = 0) : Sq24 S S' x y := h.sh x y (rf_ok24 hr).1 (rf_ok24 hr).2
theorem Tw24.rc (h : Tw24 S S') : rc21 S' = rc21 S := by unfold rc21; rw [h.lf]
theorem Tw24.wo (h : Tw24 S S') {x y : Int} (hr : rf21 S.on S.ps x y = 0) : wo21 S' x y = wo21 S x y := by unfold wo21; rw [(h.shv hr).2.1, h.lm]
theorem sh_up24 (S : Fs21) (pa : Int → Int → Option Sh21) (x y : Int) (s : Sh21) (lg : List (Int × Int × Int)) (on : Bool) (lf : Int) (tn : List Int) (x' y' : Int) : sh21 ⟨S.pg, S.ps, S.ac, on, S.lm, up21 S.pa x y s, lf, tn, lg⟩ x' y' = if x' = x ∧ y' = y then s else sh21 S x' y' := by
  show ((up21 S.pa x y s) x' y').getD _ = _
  unfold up21
  split
  · rfl
  · rfl
theorem Tw24.rn (h : Tw24 S S') (hO : Ok21 S) (hO' : Ok21 S') (kd x y : Int) (hv : Sq24 S S' x y) (nn nn' : Sh21) (hn : nn' = nn) : Tw24 (rn21 S kd x y nn) (rn21 S' kd x y nn') := by
  subst hn
  unfold rn21
  rw [h.lf]
  by_cases hl : S.lf = 1
  · rw [if_pos hl, if_pos hl]
    have hla : la21 S'.pg S'.tn (sh21 S' x y).b = la21 S.pg S.tn (sh21 S x y).b := by
      rw [← la21_fb hO', ← la21_fb hO, hv.2.2, h.tn]
    refine ⟨h.pg, h.ps, h.ac, rfl, h.lm, rfl, rfl, fun x' y' h0 h1 => ?_⟩
    have e1 : sh21 (cu21 S kd x y nn') x' y' = if x' = x ∧ y' = y then (⟨la21 S.pg S.tn (sh21 S x y).b, false, nn'.wr⟩ : Sh21) else sh21 S x' y' := sh_up24 S S.pa _ _ _ _ _ _ _ _ _
    have e2 : sh21 (cu21 S' kd x y nn') x' y' = if x' = x ∧ y' = y then (⟨la21 S'.pg S'.tn (sh21 S' x y).b, false, nn'.wr⟩ : Sh21) else sh21 S' x' y' := sh_up24 S' S'.pa _ _ _ _ _ _ _ _ _
    have hp : (cu21 S' kd x y nn').pg = (cu21 S kd x y nn').pg := h.pg
    unfold Sq24 fb21
    rw [hp, e1, e2, hla]
    by_cases hc : x' = x ∧ y' = y
    · rw [if_pos hc, if_pos hc]; exact ⟨rfl, rfl, rfl⟩
    · rw [if_neg hc, if_neg hc]
      have := h.sh x' y' h0 h1
      unfold Sq24 fb21 at this
      rw [h.pg] at this
      exact this
  · rw [if_neg hl, if_neg hl]
    refine ⟨h.pg, h.ps, h.ac, h.on, h.lm, by show max 0 (S'.lf - 1) = max 0 (S.lf - 1); rw [h.lf], h.tn, fun x' y' h0 h1 => ?_⟩
    have e1 : sh21 (go21 S kd x y nn') x' y' = if x' = x ∧ y' = y then nn' else sh21 S x' y' := sh_up24 S S.pa _ _ _ _ _ _ _ _ _
    have e2 : sh21 (go21 S' kd x y nn') x' y' = if x' = x ∧ y' = y then nn' else sh21 S' x' y' := sh_up24 S' S'.pa _ _ _ _ _ _ _ _ _
    have hp : (go21 S' kd x y nn').pg = (go21 S kd x y nn').pg := h.pg
    unfold Sq24 fb21
    rw [hp, e1, e2]
    by_cases hc : x' = x ∧ y' = y
    · rw [if_pos hc, if_pos hc]; exact ⟨rfl, rfl, rfl⟩
    · rw [if_neg hc, if_neg hc]
      have := h.sh x' y' h0 h1
      unfold Sq24 fb21 at this
      rw [h.pg] at this
      exact this
theorem Tw24.erE (h : Tw24 S S') (x y : Int) : erE21 S' x y = erE21 S x y := by
  unfold erE21
  rw [h.rf]
  by_cases hr : rf21 S.on S.ps x y = 0
  · rw [h.wo hr, h.rc]
  · rw [if_pos hr, if_pos hr]
theorem Tw24.pgE (h : Tw24 S S') (x y : Int) (n : Nat) : pgE21 S' x y n = pgE21 S x y n := by
  unfold pgE21
  rw [h.rf]
  by_cases hr : rf21 S.on S.ps x y = 0
  · rw [h.pg, (h.shv hr).1, h.rc]
  · rw [if_pos hr, if_pos hr]
theorem Tw24.erV (h : Tw24 S S') (x y : Int) : erV21 S' x y = erV21 S x y := by
  unfold erV21
  rw [h.rf]
  by_cases hr : rf21 S.on S.ps x y = 0
  · rw [(h.shv hr).1]
  · rw [if_pos hr, if_pos hr]
theorem Tw24.weV (h : Tw24 S S') (x y : Int) : weV21 S' x y = weV21 S x y := by
  unfold weV21
  rw [h.ps]
  by_cases hr : ms21 S.ps x y = 0
  · have : 0 ≤ y ∧ y < pn21 S.ps x := by
      unfold ms21 at hr
      split at hr
      · omega
      · omega
    rw [(h.sh x y this.1 this.2).2.1]
  · rw [if_pos hr, if_pos hr]
theorem Tw24.cuE (h : Tw24 S S') (n : Int) (l : Nat) : cuE21 S' n l = cuE21 S n l := by unfold cuE21; rw [h.on, h.pg]
theorem Tw24.rdE (h : Tw24 S S') (x a n : Int) : rdE21 S' x a n = rdE21 S x a n := by unfold rdE21 sz21; rw [h.on, h.pg, h.ps]
theorem Tw24.rb (h : Tw24 S S') (hO : Ok21 S) (x a n : Int) (hr : rdE21 S x a n = 0) : rb21 S' x a.toNat n.toNat = rb21 S x a.toNat n.toNat := by
  unfold rb21
  rw [h.pg]
  refine List.map_congr_left fun i hi => ?_
  have hi' := List.mem_range.1 hi
  have hb : 0 ≤ a ∧ 0 ≤ n ∧ a + n ≤ pn21 S.ps x * (S.pg : Int) := by
    unfold rdE21 sz21 at hr
    split at hr
    · omega
    · split at hr
      · omega
      · omega
  have hp := hO.pg
  have hpb := pn21_bd S.ps x hO.ps.2
  unfold pb21
  rw [← fb_getD24, ← fb_getD24]
  have hlt : (((a.toNat + i) / S.pg : Nat) : Int) < pn21 S.ps x := by
    obtain ⟨N, hN⟩ := Int.eq_ofNat_of_zero_le hpb.1
    rw [hN] at hb ⊢
    have h2 : a.toNat + i < N * S.pg := by
      have h3 : ((a.toNat + i : Nat) : Int) < ((N * S.pg : Nat) : Int) := by
        have : ((N * S.pg : Nat) : Int) = (N : Int) * (S.pg : Int) := by simp
        rw [this]
        have h5 := hb.2.2
        have : ((a.toNat + i : Nat) : Int) < a + n := by omega
        exact Int.lt_of_lt_of_le this h5
      exact Int.ofNat_lt.1 h3
    have := (Nat.div_lt_iff_lt_mul (show 0 < S.pg by omega)).2 h2
    exact Int.ofNat_lt.2 this
  rw [(h.sh x _ (Int.natCast_nonneg _) hlt).2.2]
theorem Tw24.ds (h : Tw24 S S') (hO : Ok21 S) (hO' : Ok21 S') (c a p n : Int) (L : List Int) : Tw24 (ds21 S c a p n L) (ds21 S' c a p n L) := by
  unfold ds21
  by_cases h1 : c = 1
  · rw [if_pos h1, if_pos h1]
    unfold erS21
    rw [h.rf]
    by_cases hr : rf21 S.on S.ps a p = 0
    · rw [h.wo hr]
      have hv := h.shv hr
      split
      · exact h
      · split
        · exact h
        · exact h.rn hO hO' _ _ _ hv _ _ (by rw [hv.2.1])
    · rw [if_pos hr, if_pos hr]; exact h
  · rw [if_neg h1, if_neg h1]
    by_cases h2 : c = 2
    · rw [if_pos h2, if_pos h2]
      unfold pgS21
      rw [h.rf]
      by_cases hr : rf21 S.on S.ps a p = 0
      · have hv := h.shv hr
        rw [h.pg, hv.1]
        split
        · exact h
        · split
          · exact h
          · split
            · exact h
            · exact h.rn hO hO' _ _ _ hv _ _ (by rw [hv.2.1])
      · rw [if_pos hr, if_pos hr]; exact h
    · rw [if_neg h2, if_neg h2]
      by_cases h4 : c = 4
      · rw [if_pos h4, if_pos h4]
        unfold cuS21
        rw [h.on, h.pg]
        split
        · exact h
        · split
          · exact h
          · exact ⟨by first | rfl | exact h.pg, h.ps, h.ac, by first | rfl | exact h.on, h.lm, rfl, rfl, fun x y h0 h1 => by have := h.sh x y h0 h1; unfold Sq24 fb21 at this ⊢; rw [h.pg] at this; exact this⟩
      · rw [if_neg h4, if_neg h4]
        by_cases h5 : c = 5
        · rw [if_pos h5, if_pos h5]
          exact ⟨h.pg, h.ps, h.ac, rfl, h.lm, h.lf, h.tn, h.sh⟩
        · rw [if_neg h5, if_neg h5]
          by_cases h6 : c = 6
          · rw [if_pos h6, if_pos h6]
            unfold tuS21
            rw [h.on]
            split
            · exact ⟨h.pg, h.ps, by show 1 - S'.ac = 1 - S.ac; rw [h.ac], by first | rfl | exact h.on, h.lm, h.lf, h.tn, h.sh⟩
            · exact h
          · rw [if_neg h6, if_neg h6]
            by_cases h7 : c = 7
            · rw [if_pos h7, if_pos h7]
              unfold liS21
              split
              · exact h
              · exact ⟨h.pg, h.ps, h.ac, h.on, rfl, h.lf, h.tn, h.sh⟩
            · rw [if_neg h7, if_neg h7]; exact h
theorem svp24_eq (pg : Nat) (s s' : Sh21) (h1 : s'.er = s.er) (h2 : s'.wr = s.wr) (h3 : s'.b ++ List.replicate (pg - s'.b.length) 255 = s.b ++ List.replicate (pg - s.b.length) 255) : svp21 pg s' = svp21 pg s := by
  unfold svp21
  rw [h1, h2, h3]
theorem Tw24.sav (h : Tw24 S S') (hO : Ok21 S) : sav21 S' = sav21 S := by
  have hpgl : ∀ (x : Int) (n : Nat), (n : Int) ≤ pn21 S.ps x → pgl21 S' x n = pgl21 S x n := by
    intro x n
    induction n with
    | zero => intro _; rfl
    | succ n ih =>
      intro hn
      rw [pgl21_succ, pgl21_succ, ih (by omega), h.pg]
      have hv := h.sh x (n : Int) (by omega) (by omega)
      have h3 := hv.2.2
      unfold fb21 at h3
      rw [h.pg] at h3
      rw [svp24_eq S.pg _ _ hv.1 hv.2.1 h3]
  have harl : ∀ n, arl21 S' n = arl21 S n := by
    intro n
    induction n with
    | zero => rfl
    | succ n ih =>
      have hp := pn21_bd S.ps (n : Int) hO.ps.2
      rw [arl21_succ, arl21_succ, ih, h.ps, hpgl (n : Int) _ (by omega)]
  have hsvb : svb21 S' = svb21 S := by
    unfold svb21 hdb21 nm21
    rw [harl, h.pg, h.ps, h.ac, h.lm]
  unfold sav21
  rw [hsvb]
end
end Go.Proofs.YtmjlpfmacblcpaaDoor

namespace Go.Proofs.YtmjlpfmacblcpaaDoor
open Go.RowKit
set_option linter.unusedVariables false
/-- The number that bytes are. -/
def valL : List Int → Int
  | [] => 0
  | z :: r => z % 128 + 128 * valL r
theorem valL_pos : ∀ zs : List Int, 0 ≤ valL zs
  | [] => by simp [valL]
  | z :: r => by have := valL_pos r; simp only [valL]; omega
theorem valL_snoc : ∀ (l : List Int) (x : Int), valL (l ++ [x]) = valL l + x % 128 * 128 ^ l.length
  | [], x => by simp [valL]
  | z :: r, x => by
    simp only [List.cons_append, valL, valL_snoc r x, List.length_cons, Int.pow_succ]
    have e : x % 128 * (128 ^ r.length * 128) = 128 * (x % 128 * 128 ^ r.length) := by rw [← Int.mul_assoc, Int.mul_comm]
    rw [e]
    omega
theorem valL_lt : ∀ l : List Int, valL l < 128 ^ l.length
  | [] => by simp [valL]
  | z :: r => by
    have := valL_lt r
    simp only [valL, List.length_cons, Int.pow_succ]
    omega
theorem valL_take (zs : List Int) (k : Nat) (h : k < zs.length) : valL (zs.take (k + 1)) = tkVal (valL (zs.take k)) k (zs.getD k 0) := by
  rw [List.take_succ_eq_append_getElem h, valL_snoc]
  unfold tkVal
  simp [List.getD, h, Nat.min_eq_left (Nat.le_of_lt h)]
theorem valL_drop_le : ∀ (zs : List Int) (k : Nat), valL (zs.drop k) ≤ valL zs
  | zs, 0 => by simp
  | [], k + 1 => by simp
  | z :: r, k + 1 => by
    have h1 := valL_drop_le r k
    have h2 := valL_pos r
    simp only [List.drop_succ_cons, valL]
    omega
end Go.Proofs.YtmjlpfmacblcpaaDoor

namespace Go.Proofs.YtmjlpfmacblcpaaDoor
open Go.RowKit
set_option linter.unusedVariables false
set_option maxRecDepth 100000 in
theorem wrong_any (b off n cap : Nat) (x : Int) (w : World) (hc : w.cell? ⟨b, off + n, none⟩ = some (.int .u8 x)) (hx : 0 ≤ x) (hn : n ≤ 140737488355328) :
    Calls Tryd.prog 86 #[.slice (some ⟨b, off, none⟩) (n + 1) cap] w fun e w' => e = .returned (.int .i64 (tkErr n x)) ∧ w' = w := by
  have hlt : (n : Int) < (n : Int) + 1 := by omega
  by_cases a1 : n = 9
  · subst a1
    by_cases a2 : 1 < x
    · go_enter Tryd.func86, Tryd.ntmps86
      go_wp2
      go_ret
      exact ⟨by simp [tkErr, a2], rfl⟩
    · by_cases a3 : x = 0
      · subst a3
        go_enter Tryd.func86, Tryd.ntmps86
        go_wp2
        go_ret
        exact ⟨by simp [tkErr], rfl⟩
      · have a4 : (x == 0) = false := by simp [a3]
        go_enter Tryd.func86, Tryd.ntmps86
        go_wp2
        go_ret
        exact ⟨by have : ¬ 1 < x := by omega
                  simp [tkErr, this, a3], rfl⟩
  · have a0 : ((n : Int) == 9) = false := by simp; omega
    by_cases a2 : 0 < n
    · have a5 : (0 : Int) < (n : Int) := by omega
      by_cases a3 : x = 0
      · subst a3
        go_enter Tryd.func86, Tryd.ntmps86
        go_wp2
        go_ret
        exact ⟨by simp [tkErr, a1, a2], rfl⟩
      · have a4 : (x == 0) = false := by simp [a3]
        go_enter Tryd.func86, Tryd.ntmps86
        go_wp2
        go_ret
        exact ⟨by simp [tkErr, a1, a3], rfl⟩
    · have a6 : n = 0 := by omega
      subst a6
      go_enter Tryd.func86, Tryd.ntmps86
      go_wp2
      go_ret
      exact ⟨by simp [tkErr], rfl⟩

set_option maxRecDepth 100000 in
set_option maxHeartbeats 400000 in
theorem value_any (a : Option Addr) (zs : List Int) (cap : Nat) (w : World) (hs : Seg w a zs) (hl : zs.length ≤ 140737488355328) (hv : valL zs ≤ 18446744073709551615) :
    Calls Tryd.prog 87 #[.slice a zs.length cap] w fun e w' => e = .returned (.int .u64 (valL zs)) ∧ w' = w := by
  go_enter Tryd.func87, Tryd.ntmps87
  go_wp2
  go_loop [3, 4] (fun t i => ∃ k : Nat, k ≤ zs.length ∧ i = .int .i64 ((k : Int) - 1) ∧ t = .int .u64 (valL (zs.drop k))) (fun _ i => (intOf i + 1).toNat)
  case atStart => exact ⟨zs.length, Nat.le_refl _, rfl, by simp [valL]⟩
  case round =>
    obtain ⟨k, hk, rfl, rfl⟩ := hrel
    by_cases hlt : 0 < k
    · obtain ⟨k, rfl⟩ : ∃ j, k = j + 1 := ⟨k - 1, by omega⟩
      obtain ⟨b, off, rfl, hcell⟩ := hs.at_ k (by omega)
      have hx := hs.bd k
      have h1 := valL_pos (zs.drop (k + 1))
      have h2 := valL_drop_le zs k
      have HD : Hid (valL (zs.drop k) = zs.getD k 0 % 128 + 128 * valL (zs.drop (k + 1))) := by show valL _ = _; rw [drop_cons (by omega)]; rfl
      rw [HD.out] at h2
      have hi : ((k + 1 : Nat) : Int) - 1 = (k : Int) := by omega
      rw [hi]
      generalize zs.getD k 0 = x at *
      generalize valL (zs.drop (k + 1)) = V at *
      have hkl : (k : Int) < (zs.length : Int) := by omega
      go_wp2
      go_round
      case rel => exact ⟨k, by omega, by go_num, by rw [HD.out]; go_num⟩
      case measure => simp [intOf]
    · obtain rfl : k = 0 := by omega
      go_wp2
      go_ret
      exact ⟨rfl, rfl⟩
theorem value_at (a : Option Addr) (zs : List Int) (n cap : Nat) (w : World) (hs : Seg w a zs) (hn : zs.length = n) (hl : n ≤ 140737488355328) (hv : valL zs ≤ 18446744073709551615) :
    Calls Tryd.prog 87 #[.slice a n cap] w fun e w' => e = .returned (.int .u64 (valL zs)) ∧ w' = w := by
  subst hn
  exact value_any a zs cap w hs hl hv

end Go.Proofs.YtmjlpfmacblcpaaDoor

namespace Go.Proofs.YtmjlpfmacblcpaaDoor
open Go.RowKit
set_option linter.unusedVariables false
set_option maxRecDepth 100000 in
set_option maxHeartbeats 400000 in
theorem read_any (a : Option Addr) (zs : List Int) (cap : Nat) (w : World) (hs : Seg w a zs) (hl : zs.length ≤ 140737488355328) (hcap : zs.length ≤ cap) :
    Calls Tryd.prog 42 #[.slice a zs.length cap] w fun e w' => e = .returned (.tuple #[.int .u64 (decL 0 0 zs).1, .int .i64 (decL 0 0 zs).2.1, .int .i64 (decL 0 0 zs).2.2]) ∧ w' = w := by
  go_enter Tryd.func42, Tryd.ntmps42
  go_wp2
  go_loop [5] (fun i => ∃ k : Nat, k ≤ zs.length ∧ i = .int .i64 k ∧ k ≤ 9 ∧ decL 0 0 zs = decL (valL (zs.take k)) k (zs.drop k)) (fun i => zs.length - (intOf i).toNat)
  case atStart => exact ⟨0, Nat.zero_le _, rfl, by omega, by simp [valL]⟩
  case round =>
    obtain ⟨k, hk, rfl, hk9, hd⟩ := hrel
    by_cases hlt : k < zs.length
    · obtain ⟨b, off, rfl, hcell⟩ := hs.at_ k hlt
      have hx := hs.bd k
      have hv1 := valL_lt (zs.take k)
      have hv0 := valL_pos (zs.take k)
      have ht : (zs.take k).length = k := by simp; omega
      rw [ht] at hv1
      have hst := hs.take (k + 1)
      have ht1 : (zs.take (k + 1)).length = k + 1 := by simp; omega
      have HV : Hid (valL (zs.take (k + 1)) = tkVal (valL (zs.take k)) k (zs.getD k 0)) := valL_take zs k hlt
      rw [drop_cons hlt] at hd
      generalize zs.getD k 0 = x at *
      have hki : (k : Int) + 1 ≤ (cap : Int) := by omega
      by_cases he : tkErr k x = 0
      · have hne : (tkErr k x != 0) = false := by simp [he]
        have hbd := tkVal_bd (valL (zs.take k)) k x hv0 hv1 (by omega)
        by_cases h7 : x < 128
        · have HD : Hid (decL 0 0 zs = (tkVal (valL (zs.take k)) k x, (k : Int) + 1, 0)) := by rw [hd]; show decL _ k _ = _; simp [decL, he, h7]
          have hfit : valL (zs.take (k + 1)) ≤ 18446744073709551615 := by
            rw [HV.out]
            have := tk_fits k x hk9 (by omega) (tkErr_nine he)
            unfold tkVal
            omega
          clear hd hbd hv1 hv0
          go_wp2_with (first
            | (go_at_call 86; refine (wrong_any b off k cap x _ hcell (by omega) (by omega)).mono ?_; rintro e w' ⟨rfl, hw'⟩; subst w')
            | (go_at_call 87; refine (value_at _ (zs.take (k + 1)) _ cap _ hst ht1 (by omega) hfit).mono ?_; rintro e w' ⟨rfl, hw'⟩; subst w'))
          go_ret3
          rw [HD.out, HV.out]
          exact ⟨rfl, rfl⟩
        · have HD : Hid (decL 0 0 zs = decL (valL (zs.take (k + 1))) (k + 1) (zs.drop (k + 1))) := by rw [hd, HV.out]; show decL _ k _ = _; simp [decL, he, h7]
          have hk8 := tk_more_le hk9 he (by omega)
          clear hd hbd hv1 hv0
          go_wp2_with (first
            | (go_at_call 86; refine (wrong_any b off k cap x _ hcell (by omega) (by omega)).mono ?_; rintro e w' ⟨rfl, hw'⟩; subst w'))
          go_round
          case rel => exact ⟨k + 1, by omega, by go_num, by omega, HD.out⟩
          case measure => simp [intOf]; omega
      · have HD : Hid (decL 0 0 zs = (0, 0, tkErr k x)) := by rw [hd]; show decL _ k _ = _; simp [decL, he]
        have hne : (tkErr k x != 0) = true := by simp [he]
        clear hd
        go_wp2_with (first
            | (go_at_call 86; refine (wrong_any b off k cap x _ hcell (by omega) (by omega)).mono ?_; rintro e w' ⟨rfl, hw'⟩; subst w'))
        go_ret3
        rw [HD.out]
        exact ⟨rfl, rfl⟩
    · have HD : Hid (decL 0 0 zs = (0, 0, 11)) := by rw [hd, List.drop_of_length_le (by omega)]; rfl
      clear hd
      have hge : (zs.length : Int) ≤ (k : Int) := by omega
      go_wp2
      go_ret3
      rw [HD.out]
      exact ⟨rfl, rfl⟩
end Go.Proofs.YtmjlpfmacblcpaaDoor

namespace Go.Proofs.YtmjlpfmacblcpaaDoor
open Go.RowKit Go.Shelf
set_option linter.unusedVariables false
set_option linter.unusedSimpArgs false
theorem hdr_at24 (S : Fs21) (i : Nat) (hi : i < 4) : ∃ rest, sav21 S = (mg21 ++ encA ((nm21 S).take i)) ++ (encI ((nm21 S).getD i 0) ++ rest) := by
  have h : ∃ r, encA (nm21 S) = encA ((nm21 S).take i) ++ (encI ((nm21 S).getD i 0) ++ r) := by
    rcases (show i = 0 ∨ i = 1 ∨ i = 2 ∨ i = 3 by omega) with rfl | rfl | rfl | rfl
    · exact ⟨_, by simp [nm21, encA]; rfl⟩
    · exact ⟨_, by simp [nm21, encA]; rfl⟩
    · exact ⟨_, by simp [nm21, encA]; rfl⟩
    · exact ⟨_, by simp [nm21, encA]; rfl⟩
  obtain ⟨r, hr⟩ := h
  refine ⟨r ++ (arl21 S 3 ++ sm21 (svb21 S)), ?_⟩
  unfold sav21
  rw [show svb21 S ++ sm21 (svb21 S) = ((mg21 ++ encA (nm21 S)) ++ arl21 S 3) ++ sm21 (svb21 S) from rfl, hr]
  simp only [List.append_assoc]
theorem nm_most24 {S : Fs21} (h : Ok21 S) (i : Nat) (hi : i < 4) : 0 ≤ (nm21 S).getD i 0 ∧ (nm21 S).getD i 0 ≤ 1099511627776 := by
  have h1 := h.pg; have h2 := h.ps; have h3 := h.ac; have h4 := h.lm
  rcases (show i = 0 ∨ i = 1 ∨ i = 2 ∨ i = 3 by omega) with rfl | rfl | rfl | rfl <;> simp [nm21] <;> omega
def RLQ24 (w : World) (B : List Int) (e : Ending) (w' : World) : Prop := Below w.heap.size w w' ∧ ((ld24 B = false ∧ e = .returned (.tuple #[.pointer none, .int .i64 215])) ∨ (ld24 B = true ∧ ∃ b G, e = .returned (.tuple #[.pointer (some ⟨b, 0, none⟩), .int .i64 0]) ∧ Rl21d w' b G (ls24 (hd24 B)) ∧ ∀ k, G k → w.heap.size ≤ k))
/-- The numbers ahead of the pages. -/
structure Hv24 (w V : World) (g : Nat) (B : List Int) (S0 : Fs21) (i at_ : Nat) (vf : Nat → Int) : Prop where
  bl : Below w.heap.size w V
  ge : w.heap.size ≤ g
  hb : V.heap[g]? = some (.cells #[.int .u64 (vf 0), .int .u64 (vf 1), .int .u64 (vf 2), .int .u64 (vf 3)] 100 (0, 0))
  al : at_ ≤ B.length
  vb : ∀ j, 0 ≤ vf j ∧ vf j ≤ 1099511627776
  sp : ld24 B = true → at_ = (mg21 ++ encA ((nm21 S0).take i)).length ∧ ∀ j, j < i → vf j = (nm21 S0).getD j 0
theorem dec_at24 {L P R : List Int} {v : Int} (hL : L = P ++ (encI v ++ R)) (h0 : 0 ≤ v) (h1 : v ≤ 18446744073709551615) : decL 0 0 (L.drop P.length) = (v, ((encI v).length : Int), 0) := by
  rw [hL, List.drop_left]
  exact dec_encI v R h0 h1
theorem Hv24.next {w V V' : World} {g i at_ m : Nat} {B : List Int} {S0 : Fs21} {vf : Nat → Int} (h : Hv24 w V g B S0 i at_ vf) (hi : i < 4) (hS : ld24 B = true → Ok21 S0 ∧ B = sav21 S0) {dv : Int} (hd : decL 0 0 (B.drop at_) = (dv, (m : Int), 0)) (hm : m ≤ B.length - at_) (h0 : 0 ≤ dv) (h1 : dv ≤ 1099511627776)
    (hV : V' = V.setCell ⟨g, i, none⟩ (.int .u64 dv)) : Hv24 w V' g B S0 (i + 1) (at_ + m) (fun j => if j = i then dv else vf j) := by
  subst hV
  have hk : Kp (fun k => k = g) V (V.setCell ⟨g, i, none⟩ (.int .u64 dv)) := Kp.set (S := fun k => k = g) rfl _
  refine ⟨h.bl.trans (hk.below (fun k e => by rw [e]; exact h.ge) h.bl.size), h.ge, ?_, by have := h.al; omega, fun j => ?_, fun hl => ?_⟩
  · rcases (show i = 0 ∨ i = 1 ∨ i = 2 ∨ i = 3 by omega) with rfl | rfl | rfl | rfl <;> simp [World.setCell, Array.getElem?_modify, h.hb]
  · show 0 ≤ (if j = i then dv else vf j) ∧ _
    split
    · exact ⟨h0, h1⟩
    · exact h.vb j
  · obtain ⟨hO, hB⟩ := hS hl
    obtain ⟨e1, e2⟩ := h.sp hl
    obtain ⟨r, hr⟩ := hdr_at24 S0 i hi
    have hn := nm_most24 hO i hi
    have := dec_at24 (hB.trans hr) hn.1 (by omega)
    rw [← e1, hd] at this
    injection this with t1 t2
    injection t2 with t2 _
    have t2' : m = (encI ((nm21 S0).getD i 0)).length := by omega
    refine ⟨?_, fun j hj => ?_⟩
    · rw [encA_take _ _ (show i < (nm21 S0).length from hi), e1, t2']
      simp only [List.length_append]
      omega
    · show (if j = i then dv else vf j) = _
      by_cases hji : j = i
      · subst hji; rw [if_pos rfl]; exact t1
      · rw [if_neg hji]; exact e2 j (by omega)
theorem ld_at24 {B : List Int} {S0 : Fs21} (hS : ld24 B = true → Ok21 S0 ∧ B = sav21 S0) {w V : World} {g i at_ : Nat} {vf : Nat → Int} (h : Hv24 w V g B S0 i at_ vf) (hi : i < 4) {dv dn de : Int} (hd : decL 0 0 (B.drop at_) = (dv, dn, de)) (hbad : de ≠ 0 ∨ 1099511627776 < dv) : ld24 B = false := by
  cases hl : ld24 B
  · rfl
  · exfalso
    obtain ⟨hO, hB⟩ := hS hl
    obtain ⟨e1, e2⟩ := h.sp hl
    obtain ⟨r, hr⟩ := hdr_at24 S0 i hi
    have hn := nm_most24 hO i hi
    have := dec_at24 (hB.trans hr) hn.1 (by omega)
    rw [← e1, hd] at this
    injection this with t1 t2
    injection t2 with _ t3
    omega
end Go.Proofs.YtmjlpfmacblcpaaDoor

namespace Go.Proofs.YtmjlpfmacblcpaaDoor
open Go.RowKit Go.Shelf
set_option linter.unusedVariables false
set_option linter.unusedSimpArgs false
structure Pv24 (w V : World) (b : Nat) (G : Nat → Prop) (B : List Int) (S0 S : Fs21) (a i at_ : Nat) : Prop where
  bl : Below w.heap.size w V
  rl : Rl21d V b G S
  gw : ∀ k, G k → w.heap.size ≤ k
  ok : Ok21 S
  byt : By21 S
  on : S.on = true
  lf : S.lf = 0
  tn : S.tn = []
  lg : S.lg = []
  al : at_ ≤ B.length
  sp : ld24 B = true → S.pg = S0.pg ∧ S.ps = S0.ps ∧ S.ac = S0.ac ∧ S.lm = S0.lm ∧ at_ = (hdb21 S0 ++ (arl21 S0 a ++ pgl21 S0 (a : Int) i)).length ∧
    ∀ x y : Int, 0 ≤ x → 0 ≤ y → y < pn21 S0.ps x → (x < (a : Int) ∨ x = (a : Int) ∧ y < (i : Int)) → ((sh21 S x y).er = (sh21 S0 x y).er ∧ (sh21 S x y).wr = (sh21 S0 x y).wr ∧ fb21 S x y = fb21 S0 x y)
section
variable {w V V' : World} {b : Nat} {G G' : Nat → Prop} {B : List Int} {S0 S : Fs21} {a i at_ : Nat}
/-- What is read at a page of bytes that Load takes. -/
theorem Pv24.here (h : Pv24 w V b G B S0 S a i at_) (hS : ld24 B = true → Ok21 S0 ∧ B = sav21 S0) (hl : ld24 B = true) (ha : a < 3) (hi : (i : Int) < pn21 S.ps (a : Int)) :
    ∃ rest, B.drop at_ = encI (sh21 S0 (a : Int) (i : Int)).wr ++ ((if (sh21 S0 (a : Int) (i : Int)).er then [1] else 0 :: fb21 S0 (a : Int) (i : Int)) ++ rest) ∧ decL 0 0 (B.drop at_) = ((sh21 S0 (a : Int) (i : Int)).wr, ((encI (sh21 S0 (a : Int) (i : Int)).wr).length : Int), 0) := by
  obtain ⟨hO, hB⟩ := hS hl
  obtain ⟨e1, e2, e3, e4, e5, e6⟩ := h.sp hl
  rw [e2] at hi
  obtain ⟨r, hr⟩ := sav_at24 S0 a i ha hi
  have hd : B.drop at_ = svp21 S0.pg (sh21 S0 (a : Int) (i : Int)) ++ r := by rw [hB, hr, e5, List.drop_left]
  have hs := sh21_ok hO (a : Int) (i : Int)
  refine ⟨r, ?_, ?_⟩
  · rw [hd]
    unfold svp21 fb21
    rw [List.append_assoc]
  · rw [hd]
    unfold svp21
    rw [List.append_assoc]
    exact dec_encI _ _ hs.2.1 (by omega)
/-- The area is over. -/
theorem Pv24.area (h : Pv24 w V b G B S0 S a i at_) (hi : (i : Int) = pn21 S.ps (a : Int)) : Pv24 w V b G B S0 S (a + 1) 0 at_ := by
  refine ⟨h.bl, h.rl, h.gw, h.ok, h.byt, h.on, h.lf, h.tn, h.lg, h.al, fun hl => ?_⟩
  obtain ⟨e1, e2, e3, e4, e5, e6⟩ := h.sp hl
  refine ⟨e1, e2, e3, e4, ?_, fun x y h0 h1 h2 h3 => e6 x y h0 h1 h2 ?_⟩
  · rw [e5, arl21_succ]
    have : (pn21 S0.ps (a : Int)).toNat = i := by rw [← e2]; omega
    rw [this]
    have h0 : pgl21 S0 ((a + 1 : Nat) : Int) 0 = [] := rfl
    rw [h0, List.append_nil]
  · by_cases hx : x = (a : Int)
    · refine .inr ⟨hx, ?_⟩
      subst hx
      rw [e2] at hi
      omega
    · omega
/-- A page is laid. -/
theorem Pv24.page (h : Pv24 w V b G B S0 S a i at_) (hS : ld24 B = true → Ok21 S0 ∧ B = sav21 S0) (ha : a < 3) (hi : (i : Int) < pn21 S.ps (a : Int)) (s : Sh21) (m : Nat) (hb : Below w.heap.size w V') (hr : Rl21d V' b G' { S with pa := up21 S.pa (a : Int) (i : Int) s }) (hg : ∀ k, G' k → w.heap.size ≤ k)
    (hm : at_ + m ≤ B.length) (hs1 : s.b.length ≤ S.pg) (hs2 : 0 ≤ s.wr ∧ s.wr ≤ 1099511627776) (hs3 : s.er = true → s.b = []) (hs4 : ∀ z ∈ s.b, 0 ≤ z ∧ z ≤ 255)
    (hsp : ld24 B = true → s.er = (sh21 S0 (a : Int) (i : Int)).er ∧ s.wr = (sh21 S0 (a : Int) (i : Int)).wr ∧ s.b ++ List.replicate (S0.pg - s.b.length) 255 = fb21 S0 (a : Int) (i : Int) ∧ m = (svp21 S0.pg (sh21 S0 (a : Int) (i : Int))).length) : Pv24 w V' b G' B S0 { S with pa := up21 S.pa (a : Int) (i : Int) s } a (i + 1) (at_ + m) := by
  have hsh := sh21_up S (a : Int) (i : Int) s
  refine ⟨hb, hr, hg, ⟨h.ok.pg, h.ok.ps, h.ok.ac, h.ok.lm, h.ok.lf, h.ok.tn, fun x y t ht => ?_⟩, fun x y z hz => ?_, h.on, h.lf, h.tn, h.lg, hm, fun hl => ?_⟩
  · have ht' : up21 S.pa (a : Int) (i : Int) s x y = some t := ht
    unfold up21 at ht'
    split at ht'
    · injection ht' with e
      subst e
      exact ⟨hs1, hs2.1, hs2.2, hs3⟩
    · exact h.ok.sh x y t ht'
  · rw [hsh] at hz
    split at hz
    · exact hs4 z hz
    · exact h.byt x y z hz
  · obtain ⟨e1, e2, e3, e4, e5, e6⟩ := h.sp hl
    obtain ⟨f1, f2, f3, f4⟩ := hsp hl
    refine ⟨e1, e2, e3, e4, ?_, fun x y h0 h1 h2 h3 => ?_⟩
    · rw [pgl21_succ, e5, f4]
      simp only [List.length_append]
      omega
    · unfold fb21
      rw [hsh]
      by_cases hc : x = (a : Int) ∧ y = (i : Int)
      · rw [if_pos hc]
        obtain ⟨rfl, rfl⟩ := hc
        refine ⟨f1, f2, ?_⟩
        show s.b ++ List.replicate (S.pg - s.b.length) 255 = _
        rw [e1]
        exact f3
      · rw [if_neg hc]
        exact e6 x y h0 h1 h2 (by omega)
/-- All pages are laid: the device is the one that Load makes. -/
theorem Pv24.fin (h : Pv24 w V b G B S0 S 3 0 at_) (hl : ld24 B = true) (h1 : S0.on = true) (h2 : S0.lf = 0) (h3 : S0.tn = []) (h4 : S0.lg = []) : Rl21d V b G S0 := by
  obtain ⟨e1, e2, e3, e4, e5, e6⟩ := h.sp hl
  refine h.rl.congr24 e1.symm e2.symm e3.symm (by rw [h1, h.on]) (by rw [h2, h.lf]) (by rw [h3, h.tn]) e4.symm (by rw [h4, h.lg]) fun x y h0 h1 => ?_
  rw [e2] at h1
  have hx : 0 ≤ x ∧ x < 3 := by
    unfold pn21 at h1
    split at h1
    · omega
    · omega
  obtain ⟨q1, q2, q3⟩ := e6 x y hx.1 h0 h1 (.inl hx.2)
  exact ⟨q1.symm, q2.symm, q3.symm⟩
end
end Go.Proofs.YtmjlpfmacblcpaaDoor

namespace Go.Proofs.YtmjlpfmacblcpaaDoor
open Go.RowKit Go.Shelf
set_option linter.unusedVariables false
set_option linter.unusedSimpArgs false
theorem Rl21d.pg24 {w : World} {b : Nat} {G : Nat → Prop} {S : Fs21} (h : Rl21d w b G S) : w.cell? ⟨b, 0, none⟩ = some (.int .i64 (S.pg : Int)) := by
  obtain ⟨g, c, A, tn, ta, tc, la, lc, V, h1, _⟩ := h
  exact h1.cel (i := 0) rfl
theorem sh21_er24 {S : Fs21} (h : Ok21 S) {x y : Int} (he : (sh21 S x y).er = true) : (sh21 S x y).b = [] := by
  unfold sh21 at he ⊢
  cases e : S.pa x y with
  | none => rfl
  | some s => rw [e] at he; exact (h.sh x y s e).2.2.2 he
theorem fb21_len24 {S : Fs21} (h : Ok21 S) (x y : Int) : (fb21 S x y).length = S.pg := by
  have := (sh21_ok h x y).1
  unfold fb21
  rw [List.length_append, List.length_replicate]
  omega
section
variable {w V : World} {b : Nat} {G : Nat → Prop} {B : List Int} {S0 S : Fs21} {a i at_ : Nat}
theorem Pv24.read (h : Pv24 w V b G B S0 S a i at_) (hS : ld24 B = true → Ok21 S0 ∧ B = sav21 S0) (ha : a < 3) (hi : (i : Int) < pn21 S.ps (a : Int)) {dv dn de : Int} (hd : decL 0 0 (B.drop at_) = (dv, dn, de)) (hl : ld24 B = true) :
    de = 0 ∧ dv = (sh21 S0 (a : Int) (i : Int)).wr ∧ dv ≤ 1099511627776 ∧ dn = ((encI dv).length : Int) ∧ at_ + (encI dv).length < B.length ∧ S.pg = S0.pg ∧
    (((sh21 S0 (a : Int) (i : Int)).er = true ∧ B.getD (at_ + (encI dv).length) 0 = 1 ∧ fb21 S0 (a : Int) (i : Int) = List.replicate S0.pg 255 ∧ (svp21 S0.pg (sh21 S0 (a : Int) (i : Int))).length = (encI dv).length + 1) ∨
     ((sh21 S0 (a : Int) (i : Int)).er = false ∧ B.getD (at_ + (encI dv).length) 0 = 0 ∧ at_ + (encI dv).length + 1 + S0.pg ≤ B.length ∧ (B.drop (at_ + (encI dv).length + 1)).take S0.pg = fb21 S0 (a : Int) (i : Int) ∧ (svp21 S0.pg (sh21 S0 (a : Int) (i : Int))).length = (encI dv).length + 1 + S0.pg)) := by
  obtain ⟨rest, h1, h2⟩ := h.here hS hl ha hi
  obtain ⟨hO, hB⟩ := hS hl
  have hs := sh21_ok hO (a : Int) (i : Int)
  rw [hd] at h2
  injection h2 with t1 t2
  injection t2 with t2 t3
  rw [← t1] at h1 t2 hs
  have hfl := fb21_len24 hO (a : Int) (i : Int)
  have hsv : svp21 S0.pg (sh21 S0 (a : Int) (i : Int)) = encI dv ++ (if (sh21 S0 (a : Int) (i : Int)).er then [1] else 0 :: fb21 S0 (a : Int) (i : Int)) := by rw [t1]; rfl
  have hlen := congrArg List.length h1
  simp only [List.length_drop, List.length_append] at hlen
  have hget : ∀ j, B.getD (at_ + j) 0 = (B.drop at_).getD j 0 := fun j => by simp [List.getD, List.getElem?_drop]
  cases he : (sh21 S0 (a : Int) (i : Int)).er
  · rw [he] at h1 hlen hsv
    simp only [Bool.false_eq_true, if_false, List.length_cons] at h1 hlen hsv
    refine ⟨t3, t1, hs.2.2, t2, by omega, (h.sp hl).1, .inr ⟨rfl, ?_, by omega, ?_, by rw [hsv, List.length_append, List.length_cons, hfl]; omega⟩⟩
    · rw [hget, h1]
      simp [List.getD]
    · rw [show at_ + (encI dv).length + 1 = at_ + ((encI dv).length + 1) by omega, ← List.drop_drop, h1, ← List.drop_drop, List.drop_left]
      show ((fb21 S0 (a : Int) (i : Int)) ++ rest).take S0.pg = _
      rw [← hfl, List.take_left]
  · rw [he] at h1 hlen hsv
    simp only [if_true, List.length_cons, List.length_nil] at h1 hlen hsv
    refine ⟨t3, t1, hs.2.2, t2, by omega, (h.sp hl).1, .inl ⟨rfl, ?_, ?_, by rw [hsv, List.length_append]; rfl⟩⟩
    · rw [hget, h1]
      simp [List.getD]
    · unfold fb21
      rw [sh21_er24 hO he]
      simp
/-- A page that was read, ahead of its being laid. -/
structure Ly24 (w wc : World) (b : Nat) (G : Nat → Prop) (B : List Int) (S0 S : Fs21) (a i at_ gp p2 k0 cc : Nat) (s : Sh21) : Prop where
  bl : Below w.heap.size w wc
  rl : Rl21d wc b G S
  hgp : wc.heap[gp]? = some (.cells #[.slice (some ⟨k0, 0, none⟩) S.pg cc, .bool s.er, .int .i64 s.wr] 110 (0, 0))
  sg : Seg wc (some ⟨k0, 0, none⟩) (s.b ++ List.replicate (S.pg - s.b.length) 255)
  hcc : S.pg ≤ cc
  ng : ¬ G k0
  np : ¬ G gp
  lt : k0 < wc.heap.size
  ge : w.heap.size ≤ k0
  al : at_ ≤ p2 ∧ p2 ≤ B.length
  s1 : s.b.length ≤ S.pg
  s2 : 0 ≤ s.wr ∧ s.wr ≤ 1099511627776
  s3 : s.er = true → s.b = []
  s4 : ∀ z ∈ s.b, 0 ≤ z ∧ z ≤ 255
  sp : ld24 B = true → s.er = (sh21 S0 (a : Int) (i : Int)).er ∧ s.wr = (sh21 S0 (a : Int) (i : Int)).wr ∧ s.b ++ List.replicate (S0.pg - s.b.length) 255 = fb21 S0 (a : Int) (i : Int) ∧ p2 - at_ = (svp21 S0.pg (sh21 S0 (a : Int) (i : Int))).length
theorem Ly24.old {wc wd : World} {gp p2 k0 cc : Nat} {s : Sh21} (h : Ly24 w wc b G B S0 S a i at_ gp p2 k0 cc s) (hb : Below wc.heap.size wc wd) : Ly24 w wd b G B S0 S a i at_ gp p2 k0 cc s :=
  ⟨h.bl.trans (hb.mono h.bl.size), h.rl.old hb, (hb.block gp (Array.getElem?_eq_some_iff.1 h.hgp).1).trans h.hgp, h.sg.old hb, h.hcc, h.ng, h.np, by have := hb.size; have := h.lt; omega, h.ge, h.al, h.s1, h.s2, h.s3, h.s4, h.sp⟩
/-- It is laid. -/
theorem Ly24.lay {wc : World} {gp p2 k0 cc : Nat} {s : Sh21} (L : Ly24 w wc b G B S0 S a i at_ gp p2 k0 cc s) (h : Pv24 w V b G B S0 S a i at_) (hS : ld24 B = true → Ok21 S0 ∧ B = sav21 S0) (ha : a < 3) (hi : (i : Int) < pn21 S.ps (a : Int)) :
    ∃ q len cap, wc.cell? ⟨b, 3 + a, none⟩ = some (.slice (some ⟨q, 0, none⟩) len cap) ∧ i < len ∧ (len : Int) = pn21 S.ps (a : Int) ∧ wc.there q (i * 3) 3 ∧
      ∃ G' S', S'.ps = S.ps ∧ Pv24 w (wc.setCells q (i * 3) [.slice (some ⟨k0, 0, none⟩) S.pg cc, .bool s.er, .int .i64 s.wr]) b G' B S0 S' a (i + 1) p2 := by
  obtain ⟨q, len, cap, c1, c2, c3, c4, c5, c6, c7, c8, c9⟩ := L.rl.lay24 a i ha hi
  have hz : (s.b ++ List.replicate (S.pg - s.b.length) 255).length = S.pg := by
    have := L.s1
    rw [List.length_append, List.length_replicate]
    omega
  obtain ⟨hr, hk⟩ := c9 k0 cc _ s L.sg rfl (by rw [hz]; exact L.hcc) L.ng L.lt
  rw [hz] at hr hk
  refine ⟨q, len, cap, c1, c3, c2, fun j hj => ?_, (fun k => G k ∨ k = k0), { S with pa := up21 S.pa (a : Int) (i : Int) s }, rfl, ?_⟩
  · obtain ⟨v, hv⟩ := c8 j hj
    exact ⟨by rw [hv]; rfl, c7 _⟩
  · have hq : w.heap.size ≤ q := h.gw q c5
    have := h.page hS ha hi s (p2 - at_) (V' := wc.setCells q (i * 3) [.slice (some ⟨k0, 0, none⟩) S.pg cc, .bool s.er, .int .i64 s.wr]) (G' := fun k => G k ∨ k = k0)
      (L.bl.trans (hk.below (fun k e => by subst e; exact hq) L.bl.size)) hr (fun k e => by rcases e with e | e; (exact h.gw k e); (rw [e]; exact L.ge))
      (by have := L.al; omega) L.s1 L.s2 L.s3 L.s4 L.sp
    rw [show at_ + (p2 - at_) = p2 by have := L.al; omega] at this
    exact this
end
end Go.Proofs.YtmjlpfmacblcpaaDoor
