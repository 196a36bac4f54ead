import Derived.Test.YtaipfcfmhdigfaaProg
import Derived.Test.YtaipfcfmhdigfaaPaa
import Derived.Test.YtaipfcfmhdigfaaPal
import Derived.WalkKit
import Derived.WalkSpells
import Derived.WalkLawsBesides
import Derived.Deep.QuietTactic
import Derived.BigQuiet
import Derived.Laws.Rows
namespace Go.Proofs.Ytaipfcfmhdigfaa
open Go.RowKit
set_option linter.unusedVariables false

theorem info_u8' : (Try.prog.info? 5).map (fun i => (i.zero, i.size, i.bytes)) = some (some (.int .u8 0), 1, 1) := by kernel_rfl
def lentL (zs : List Int) : List Int := zs ++ [171, 172, 173, 174, 175]

theorem seg_five (w : World) : Seg (w.alloc (.cells #[.int .u8 171, .int .u8 172, .int .u8 173, .int .u8 174, .int .u8 175] 5)) (some ⟨w.heap.size, 0, none⟩) [171, 172, 173, 174, 175] := by
  refine ⟨fun i hi => ⟨w.heap.size, 0, rfl, ?_⟩, by decide, ?_⟩
  · simp only [List.length_cons, List.length_nil] at hi
    match i, hi with
    | 0, _ => simp
    | 1, _ => simp
    | 2, _ => simp
    | 3, _ => simp
    | 4, _ => simp
  · exact getD_bd (by decide) (by intro z hz; simp at hz; omega)

set_option maxRecDepth 100000 in
set_option maxHeartbeats 400000 in
theorem lend_any (a : Option Addr) (zs : List Int) (cap : Nat) (w : World) (hs : Seg w a zs) (hnil : a = none → cap = 0) (hl : zs.length ≤ 140737488351232) :
    Calls Try.prog 20 #[.slice a zs.length cap] w fun e w' => ∃ g cap', e = .returned (.tuple #[.slice (some ⟨g, 0, none⟩) (zs.length + 5) cap', .slice (some ⟨g, 0, none⟩) zs.length cap']) ∧
      w'.ownsRow w.heap.size 5 1 (.slice (some ⟨g, 0, none⟩) (zs.length + 5) cap') (zs.length + 5) ((lentL zs).map (Value.int .u8)) ∧ Below w.heap.size w w' := by
  obtain ⟨i0, hi, hz0, hz1, hz2⟩ := info_parts info_u8'
  go_enter Try.func20, Try.ntmps20
  have hm0 : (w.alloc (.cells #[] 5)).ownsRow w.heap.size 5 1 (.slice (some ⟨w.heap.size, 0, none⟩) 0 0) 0 [] := World.ownsRow_made w #[] 0 (Nat.le_refl _) (by decide) rfl
  have hb0 : Below w.heap.size w (w.alloc (.cells #[] 5)) := (Below.refl _ _).alloc (Nat.le_refl _) _
  go_wp2_with (first
    | (at_builtin; refine wpList_append_seg rfl (.tmp 5) (.tmp 6) 32 rfl w.heap.size 5 i0 (.int .u8 0) 1 Try.underlying32 hi hz0 hz1 hz2 rfl hm0 (hs.alloc _) hnil rfl rfl (by omega) (by omega) (by simp) ?_; intro v1 w1 hown1 hg1 hb1)
    | (at_builtin; refine wpList_append_seg rfl (.tmp 7) (.tmp 8) 32 rfl w.heap.size 5 i0 (.int .u8 0) 1 Try.underlying32 hi hz0 hz1 hz2 rfl (hown1.alloc _) (seg_five w1) (by intro h; cases h) rfl rfl (by simp; omega) (by simp; omega) (by have := hb1.size; simp at this ⊢; omega) ?_; intro v2 w2 hown2 hg2 hb2))
  obtain ⟨g, cap', rfl, hc2, hg, hgs⟩ := own_shape hown2 (by simp)
  have hcc : (zs.length : Int) ≤ (cap' : Int) := by simp at hc2; omega
  have hs1 := hb1.size
  have hbb : Below w.heap.size w w2 := hb0.trans (hb1.trans (((Below.refl _ _).alloc (by simp at hs1; omega) _).trans hb2))
  have hown3 : w2.ownsRow w.heap.size 5 1 (.slice (some ⟨g, 0, none⟩) (zs.length + 5) cap') (zs.length + 5) ((lentL zs).map (Value.int .u8)) := by
    have := hown2
    simp only [List.nil_append, Nat.zero_add, ← List.map_append] at this
    exact this
  clear hown2 hown1 hg1 hg2 hb1 hb2
  have e5 : 0 + zs.length + ([171, 172, 173, 174, 175] : List Int).length = zs.length + 5 := by simp
  rw [e5]
  clear e5 hc2
  go_region
  go_wp2
  go_ret2
  exact ⟨g, cap', rfl, hown3, hbb.drew⟩

theorem lent_bd {zs : List Int} (h : ∀ z ∈ zs, 0 ≤ z ∧ z ≤ 255) : ∀ z ∈ lentL zs, 0 ≤ z ∧ z ≤ 255 := by
  intro z hz
  unfold lentL at hz
  rw [List.mem_append] at hz
  rcases hz with hz | hz
  · exact h z hz
  · simp at hz; omega

set_option maxRecDepth 100000 in
/-- The longer list is as Lend made it. -/
theorem kept_any (a b : Option Addr) (xs zs : List Int) (ca cap : Nat) (w : World) (hx : Seg w b xs) (hs : Seg w a zs) (hnil : a = none → cap = 0) (hl : zs.length ≤ 140737488351232) :
    Calls Try.prog 27 #[.slice b xs.length ca, .slice a zs.length cap] w fun e w' => e = .returned (.bool (xs == lentL zs)) ∧ Below w.heap.size w w' := by
  go_enter Try.func27, Try.ntmps27
  go_wp2_with fail
  refine (lend_any a zs cap _ hs hnil hl).mono ?_
  rintro e w1 ⟨g, cap', rfl, hown, hb⟩
  obtain ⟨hn, a', c', hv, hseg, _, _, _⟩ := own_seg hown (M := 255) (by decide) (lent_bd hs.mem)
  have ha : a' = some ⟨g, 0, none⟩ := by simp at hv; exact hv.1.symm
  subst ha
  clear hv
  have hx1 := hx.old hb
  go_wp2_with fail
  refine (bsame_any b (some ⟨g, 0, none⟩) xs (lentL zs) ca cap' _ hx1 hseg).mono ?_
  rintro e w2 ⟨rfl, hw2⟩
  subst w2
  go_wp2
  go_ret
  exact ⟨rfl, hb⟩
end Go.Proofs.Ytaipfcfmhdigfaa

namespace Go.Proofs.Ytaipfcfmhdigfaa
open Go.RowKit
set_option linter.unusedVariables false

set_option maxRecDepth 100000 in
set_option maxHeartbeats 1000000 in
theorem look7_any (win chain : Int) (lazy : Bool) (w : World) : Calls Try.prog 22 #[look7 win chain lazy] w fun e w' => e = .returned (look7 win chain lazy) ∧ Below w.heap.size w w' := by
  unfold look7
  go_enter Try.func22, Try.ntmps22
  go_wp2_with fail
  have hg : ((w.alloc (.cells #[.int .i64 win, .int .i64 chain, .bool lazy] 44)).alloc (.cells #[.int .i64 win, .int .i64 chain, .bool lazy] 49)).heap[w.heap.size + 1]? = some (.cells #[.int .i64 win, .int .i64 chain, .bool lazy] 49 (0, 0)) := by
    have := heap_alloc_new (w.alloc (.cells #[.int .i64 win, .int .i64 chain, .bool lazy] 44)) (.cells #[.int .i64 win, .int .i64 chain, .bool lazy] 49)
    rw [show (w.alloc (.cells #[.int .i64 win, .int .i64 chain, .bool lazy] 44)).heap.size = w.heap.size + 1 by simp] at this
    exact this
  refine bodyPost_ret (v := .agg #[.int .i64 win, .int .i64 chain, .bool lazy]) (results_cell_row (fn := Try.f22) (p := 2) (ty := 49) rfl _ _ (w.heap.size + 1) _ _ _ _ rfl hg Try.underlying49 rfl (by kernel_rfl)) rfl ?_
  refine ⟨rfl, ?_⟩
  have b1 : Below w.heap.size w (w.alloc (.cells #[.int .i64 win, .int .i64 chain, .bool lazy] 44)) := below_box _ _
  exact b1.alloc b1.size _
set_option maxRecDepth 100000 in
set_option maxHeartbeats 1000000 in
theorem price7_any (c : Pr7) (w : World) : Calls Try.prog 31 #[.agg #[.int .i64 c.lit, .int .i64 c.mat, .int .i64 c.far]] w fun e w' => e = .returned (.agg #[.int .i64 c.lit, .int .i64 c.mat, .int .i64 c.far]) ∧ Below w.heap.size w w' := by
  obtain ⟨x, y, z⟩ := c
  simp only
  go_enter Try.func31, Try.ntmps31
  go_wp2_with fail
  have hg : ((w.alloc (.cells #[.int .i64 x, .int .i64 y, .int .i64 z] 64)).alloc (.cells #[.int .i64 x, .int .i64 y, .int .i64 z] 67)).heap[w.heap.size + 1]? = some (.cells #[.int .i64 x, .int .i64 y, .int .i64 z] 67 (0, 0)) := by
    have := heap_alloc_new (w.alloc (.cells #[.int .i64 x, .int .i64 y, .int .i64 z] 64)) (.cells #[.int .i64 x, .int .i64 y, .int .i64 z] 67)
    rw [show (w.alloc (.cells #[.int .i64 x, .int .i64 y, .int .i64 z] 64)).heap.size = w.heap.size + 1 by simp] at this
    exact this
  refine bodyPost_ret (v := .agg #[.int .i64 x, .int .i64 y, .int .i64 z]) (results_cell_row (fn := Try.f31) (p := 2) (ty := 67) rfl _ _ (w.heap.size + 1) _ _ _ _ rfl hg Try.underlying67 rfl (by kernel_rfl)) rfl ?_
  refine ⟨rfl, ?_⟩
  have b1 : Below w.heap.size w (w.alloc (.cells #[.int .i64 x, .int .i64 y, .int .i64 z] 64)) := below_box _ _
  exact b1.alloc b1.size _
set_option maxRecDepth 100000 in
theorem lzNames_walk (w : World) : Calls Try.prog 3 #[] w fun e w' => e = .returned (.bool true) ∧ Below w.heap.size w w' := by
  have CL := lives7 w
  go_enter Try.func3, Try.ntmps3
  go_wp2_with fail
  refine CL.mono ?_
  rintro e w1 ⟨rfl, b1⟩
  go_wp2_with fail
  go_ret
  exact ⟨rfl, b1⟩
theorem lent_take (zs : List Int) : (lentL zs).take zs.length = zs := by simp [lentL]
set_option maxRecDepth 100000 in
set_option maxHeartbeats 2000000 in
theorem lzBests_in (w : World) (a : Option Addr) (n cap : Nat) (D : List Int) (hn : D.length = n) (hs : Seg w a D) (hnil : a = none → cap = 0) (hl : n ≤ 1073741824) (p : Int) (hp : -9223372036854775808 ≤ p ∧ p ≤ 9223372036854775807) (win chain : Int) (lazy : Bool) :
    Calls Try.prog 6 #[.slice a n cap, .int .i64 p, look7 win chain lazy] w fun e w' => e = .returned (.bool true) ∧ Below w.heap.size w w' := by
  obtain ⟨wA, hwA⟩ : ∃ wA, wA = w.alloc (.cells #[.int .i64 win, .int .i64 chain, .bool lazy] 44) := ⟨_, rfl⟩
  have bA : Below w.heap.size w wA := by rw [hwA]; exact below_box _ _
  have lA : LkAt wA w.heap.size win chain lazy := boxL hwA
  have HWA : Hid (wA = w.alloc (.cells #[.int .i64 win, .int .i64 chain, .bool lazy] 44)) := hwA
  obtain ⟨ob, hob⟩ : ∃ ob, ob = w.heap.size := ⟨_, rfl⟩
  have HOB : Hid (ob = w.heap.size) := hob
  rw [← hob] at lA
  have hol := lA.lt
  have HLA : Hid (∀ W, Below wA.heap.size wA W → LkAt W ob win chain lazy) := fun W hW => lA.of_block (hW.block ob hol)
  have HSA : Hid (∀ W, Below wA.heap.size wA W → Seg W a D) := fun W hW => (hs.old bA).old hW
  subst hn
  have CL := lend_any a D cap wA (hs.old bA) hnil (by omega)
  have CK : Hid (∀ W, Calls Try.prog 22 #[look7 win chain lazy] W fun e w' => e = .returned (look7 win chain lazy) ∧ Below W.heap.size W w') := look7_any win chain lazy
  clear hwA hob lA hs
  have HLK : Hid (look7 win chain lazy = .agg #[.int .i64 win, .int .i64 chain, .bool lazy]) := rfl
  rw [HLK.out]
  go_enter Try.func6, Try.ntmps6
  go_wp2_with fail
  rw [← HWA.out, ← HOB.out]
  refine CL.mono ?_
  rintro e w1 ⟨g, cp, rfl, O1, b1⟩
  obtain ⟨k0, k1, k2⟩ := HLA.out w1 b1
  obtain ⟨_, a', cc, hv, sl, hx, hcp, _⟩ := own_seg O1 (M := 255) (by decide) (lent_bd (HSA.out w1 b1).mem)
  cases hv
  have s1 : Seg w1 (some ⟨g, 0, none⟩) D := by have := SegK.take sl D.length; rwa [lent_take] at this
  go_wp2_with fail
  refine (CK.out w1).mono ?_
  rintro e w2 ⟨rfl, b2⟩
  have B2 : Below wA.heap.size wA w2 := b1.trans (b2.mono b1.size)
  obtain ⟨m0, m1, m2⟩ := HLA.out w2 B2
  have CB := pbest7 D (some ⟨g, 0, none⟩) D.length cp p win chain lazy rfl w2 (s1.old b2) (by omega) (by intro h; cases h) hl hp
  go_wp2_with fail
  refine CB.mono ?_
  rintro e w3 ⟨rfl, b3⟩
  have B3 : Below wA.heap.size wA w3 := B2.trans (b3.mono B2.size)
  obtain ⟨n0, n1, n2⟩ := HLA.out w3 B3
  have CR := rbest7 D a D.length cap p win chain lazy rfl w3 (HSA.out w3 B3) (by omega)
  rw [HLK.out] at CR
  clear k0 k1 k2 m0 m1 m2 CB
  go_wp2_with fail
  refine CR.mono ?_
  rintro e w4 ⟨rfl, b4⟩
  have B4 : Below wA.heap.size wA w4 := B3.trans (b4.mono B3.size)
  have b14 : Below w1.heap.size w1 w4 := (b2.trans (b3.mono b2.size)).trans (b4.mono (Nat.le_trans b2.size b3.size))
  have CT := kept_any a (some ⟨g, 0, none⟩) (lentL D) D cp cap w4 (sl.old b14) (HSA.out w4 B4) hnil (by omega)
  rw [beq_self_eq_true] at CT
  clear CR n0 n1 n2
  go_wp2_with fail
  refine CT.mono ?_
  rintro e w5 ⟨rfl, b5⟩
  have B5 : Below wA.heap.size wA w5 := B4.trans (b5.mono B4.size)
  go_wp2_with fail
  refine (lives7 w5).mono ?_
  rintro e w6 ⟨rfl, b6⟩
  have B6 : Below wA.heap.size wA w6 := B5.trans (b6.mono B5.size)
  go_wp2_with fail
  go_ret
  exact ⟨rfl, bA.trans (B6.mono bA.size)⟩
end Go.Proofs.Ytaipfcfmhdigfaa

namespace Go.Proofs.Ytaipfcfmhdigfaa
open Go.RowKit
set_option linter.unusedVariables false
set_option linter.unusedSimpArgs false

/-! The law's own helpers over tokens: face, same, kept. -/
theorem info_tokA : (Try.prog.info? 56).map (fun i => (i.zero, i.size, i.bytes)) = some (some (.agg #[.int .u8 0, .int .i64 0, .int .i64 0]), 3, 24) := by kernel_rfl
/-- Two tokens behind a row of the call's own. -/
theorem wpList_appT2 {P : Program} {ops : Array Oper} {rest : List Oper} {o : Oper} {a : Act} {Q : Exit → Act → World → Prop} (hgd : o.guard = none) (s x : Operand) (t : TypeId)
    (ho : o.op = .call { callee := .builtin .append, args := #[s, x], argTypes := #[t, t] })
    (base : Nat) (e : TypeId) (i : TypeInfo) (z : Value) (bytes : Nat) (ht : P.underlying t = some (.slice e)) (hi : P.info? e = some i) (hz : i.zero = some z)
    (hsize : i.size = 3) (hby : i.bytes = bytes) (hzs : z.cells.size = 3) (w0 : World) (y y' : Tok7)
    {ra : Option Addr} {n rc : Nat} {l : List Tok7} (hown : w0.ownsRow base e 3 (.slice ra n rc) n (flatT l)) (hs : a.eval s = .slice ra n rc) (hx : a.eval x = .slice (some ⟨w0.heap.size, 0, none⟩) 2 2)
    (h63 : n + 2 ≤ 140737488355328) (hbytes : (n + 2) * bytes ≤ 140737488355328) (hbase : base ≤ w0.heap.size)
    (h : ∀ (g c : Nat) (w' : World), w'.ownsRow base e 3 (.slice (some ⟨g, 0, none⟩) (n + 2) c) (n + 2) (flatT (l ++ [y, y'])) → Below base w0 w' → wpList P ops Q rest (a.put o.dst (.slice (some ⟨g, 0, none⟩) (n + 2) c)) w') : wpList P ops Q (o :: rest) a (w0.alloc (.cells #[.int .u8 y.lit, .int .i64 y.len, .int .i64 y.dist, .int .u8 y'.lit, .int .i64 y'.len, .int .i64 y'.dist] e)) := by
  have hnew : ∀ j u, ([.int .u8 y.lit, .int .i64 y.len, .int .i64 y.dist, .int .u8 y'.lit, .int .i64 y'.len, .int .i64 y'.dist] : List Value)[j]? = some u → (w0.alloc (.cells #[.int .u8 y.lit, .int .i64 y.len, .int .i64 y.dist, .int .u8 y'.lit, .int .i64 y'.len, .int .i64 y'.dist] e)).cell? ((⟨w0.heap.size, 0, none⟩ : Addr).add j) = some u := by
    intro j u hu
    have hadd : (⟨w0.heap.size, 0, none⟩ : Addr).add j = ⟨w0.heap.size, j, none⟩ := by unfold Addr.add; split <;> simp_all
    rw [hadd]
    have hh := heap_alloc_new w0 (.cells #[.int .u8 y.lit, .int .i64 y.len, .int .i64 y.dist, .int .u8 y'.lit, .int .i64 y'.len, .int .i64 y'.dist] e)
    simp only [World.cell?, hh]
    simpa using hu
  refine wpList_append_own _ hgd s x t ho base e i z 3 bytes ht hi hz hsize hby hzs (by decide) _ n (flatT l) hs (hown.alloc _) ⟨w0.heap.size, 0, none⟩ 2 2 [.int .u8 y.lit, .int .i64 y.len, .int .i64 y.dist, .int .u8 y'.lit, .int .i64 y'.len, .int .i64 y'.dist] hx rfl hnew (by intro u hu; simp only [List.mem_cons, List.not_mem_nil, or_false] at hu; rcases hu with rfl | rfl | rfl | rfl | rfl | rfl <;> rfl) (by unfold maxLen; omega) hbytes (by simp; omega) ?_
  intro v' w' h1 h2 _
  obtain ⟨g, c, hv, _⟩ := own_shapeT h1 (by omega)
  subst hv
  refine h g c w' (by rw [flatT_app]; exact h1) ?_
  have b1 : Below base w0 (w0.alloc (.cells #[.int .u8 y.lit, .int .i64 y.len, .int .i64 y.dist, .int .u8 y'.lit, .int .i64 y'.len, .int .i64 y'.dist] e)) := (Below.refl _ _).alloc hbase _
  exact b1.trans ((Below.refl _ _).grown h2 (Nat.le_trans hbase b1.size) (fun k hk => (hown.lt k hk).1))
def faceL (l : List Tok7) : List Tok7 := l ++ [⟨0, 77, 0⟩, ⟨0, 78, 0⟩]
theorem faceL_fit {l : List Tok7} (h : ∀ t ∈ l, t.Fit) : ∀ t ∈ faceL l, t.Fit := by
  intro t ht
  unfold faceL at ht
  rcases List.mem_append.1 ht with ht | ht
  · exact h t ht
  · simp at ht
    rcases ht with rfl | rfl <;> (unfold Tok7.Fit; decide)
def FaceQ (w : World) (l : List Tok7) (n : Nat) (e : Ending) (w' : World) : Prop := ∃ g c, e = .returned (.tuple #[.slice (some ⟨g, 0, none⟩) (n + 2) c, .slice (some ⟨g, 0, none⟩) n c]) ∧ w'.ownsRow w.heap.size 56 3 (.slice (some ⟨g, 0, none⟩) (n + 2) c) (n + 2) (flatT (faceL l)) ∧ Below w.heap.size w w'
set_option maxRecDepth 100000 in
set_option maxHeartbeats 2000000 in
theorem face7 (l : List Tok7) (a : Option Addr) (n cap : Nat) (hn : Hid (l.length = n)) (w : World) (hs : SegT w a l) (hl : n ≤ 1073741824) : Calls Try.prog 10 #[.slice a n cap] w (FaceQ w l n) := by
  obtain ⟨i0, hi, hz0, hz1, hz2⟩ := info_parts info_tokA
  go_enter Try.func10, Try.ntmps10
  go_wp2_with fail
  go_loopw [4, 9] (fun tl ti wr => ∃ (i oc : Nat) (oa : Option Addr), i ≤ n ∧ ti = .int .i64 (i : Int) ∧ tl = .slice oa i oc ∧ wr.ownsRow w.heap.size 56 3 (.slice oa i oc) i (flatT (l.take i)) ∧ Below w.heap.size w wr) (fun _ ti _ => n - (intOf ti).toNat)
  case atStart => exact ⟨0, 0, none, by omega, rfl, rfl, by rw [List.take_zero]; exact World.ownsRow_nil _ _ _ _, Below.refl _ _⟩
  case round =>
    obtain ⟨i, oc, oa, hi0, rfl, rfl, OO, BR⟩ := hrel
    have hsr := BR.size
    by_cases hin : i < n
    · have hii : (i : Int) < (n : Int) := by omega
      have hil : i < l.length := by rw [hn.out]; exact hin
      obtain ⟨b, off, rfl, hT⟩ := (hs.old BR).at_ i hil
      have HT : Hid (l.take (i + 1) = l.take i ++ [l.getD i tk0]) := takeT hil
      generalize l.getD i tk0 = t at *
      obtain ⟨wA, hwA⟩ : ∃ wA, wA = wr.alloc (.cells #[.int .u8 t.lit, .int .i64 t.len, .int .i64 t.dist] 73) := ⟨_, rfl⟩
      have bA : Below wr.heap.size wr wA := by rw [hwA]; exact below_box _ _
      have HWA : Hid (wA = wr.alloc (.cells #[.int .u8 t.lit, .int .i64 t.len, .int .i64 t.dist] 73)) := hwA
      have HSZ : Hid (wr.heap.size + 1 = wA.heap.size) := by show _ = _; rw [hwA]; simp
      have BA : Below w.heap.size w wA := BR.trans (bA.mono BR.size)
      have OA := own_belowT OO bA
      have hsA := BA.size
      have hc0 := hT.c0
      have hc1 := hT.c1
      have hc2 := hT.c2
      clear hwA hT OO
      obtain ⟨z, ln, ds⟩ := t
      simp only at hc0 hc1 hc2 HWA
      go_wp2_with (first | (at_builtin; rw [HSZ.out, ← HWA.out]; refine wpList_appT rfl (.tmp 13) (.tmp 21) 24 rfl w.heap.size 56 i0 _ 24 Try.underlying24 hi hz0 hz1 hz2 rfl wA ⟨z, ln, ds⟩ OA rfl rfl (by omega) (by omega) hsA ?_; intro ga gc w3 own3 b3))
      have B3 : Below w.heap.size w w3 := BA.trans b3
      go_roundw
      case rel => exact ⟨i + 1, gc, ga, by omega, by go_num, rfl, by rw [HT.out]; exact own3, B3⟩
      case measure => simp [intOf]; omega
    · have hge : ¬ (i : Int) < (n : Int) := by omega
      obtain rfl : i = n := by omega
      have HW : Hid (l.take i = l) := List.take_of_length_le (by rw [hn.out]; omega)
      rw [HW.out] at OO
      have hie : (i : Int) ≤ ((i + 2 : Nat) : Int) := by omega
      have hi0' : (0 : Int) ≤ (i : Int) := by omega
      clear HW hi0
      go_wp2_with (first | (at_builtin; refine wpList_appT2 rfl (.tmp 24) (.tmp 27) 24 rfl w.heap.size 56 i0 _ 24 Try.underlying24 hi hz0 hz1 hz2 rfl wr ⟨0, 77, 0⟩ ⟨0, 78, 0⟩ OO rfl rfl (by omega) (by omega) hsr ?_; intro g gc w3 own3 b3; have hc3 := (own_factsT own3).1; have hci : (i : Int) ≤ (gc : Int) := by omega))
      have B3 : Below w.heap.size w w3 := BR.trans b3
      go_quiet (fail)
      go_wp2
      go_ret2
      refine ⟨g, gc, rfl, ?_, ⟨B3.os, B3.tape, B3.output, B3.size, B3.block⟩⟩
      unfold faceL
      exact own_belowT own3 ⟨rfl, rfl, rfl, Nat.le_refl _, fun _ _ => rfl⟩
set_option maxRecDepth 100000 in
set_option maxHeartbeats 2000000 in
/-- The same tokens are the same. -/
theorem same7 (l : List Tok7) (a b : Option Addr) (n ca cb : Nat) (hn : Hid (l.length = n)) (w : World) (ha : SegT w a l) (hb : SegT w b l) (hl : n ≤ 1073741824) : Calls Try.prog 26 #[.slice a n ca, .slice b n cb] w fun e w' => e = .returned (.bool true) ∧ Below w.heap.size w w' := by
  go_enter Try.func26, Try.ntmps26
  go_wp2_with fail
  go_loopw [14] (fun ti wr => ∃ i : Nat, i ≤ n ∧ ti = .int .i64 (i : Int) ∧ Below w.heap.size w wr) (fun ti _ => n - (intOf ti).toNat)
  case atStart => exact ⟨0, by omega, rfl, Below.refl _ _⟩
  case round =>
    obtain ⟨i, hi0, rfl, BR⟩ := hrel
    by_cases hin : i < n
    · have hii : (i : Int) < (n : Int) := by omega
      have hil : i < l.length := by rw [hn.out]; exact hin
      obtain ⟨g, off, rfl, hT⟩ := (ha.old BR).at_ i hil
      obtain ⟨g2, off2, rfl, hT2⟩ := (hb.old BR).at_ i hil
      generalize l.getD i tk0 = t at *
      obtain ⟨wA, hwA⟩ : ∃ wA, wA = wr.alloc (.cells #[.int .u8 t.lit, .int .i64 t.len, .int .i64 t.dist] 56) := ⟨_, rfl⟩
      have bA : Below wr.heap.size wr wA := by rw [hwA]; exact below_box _ _
      have tA : TkAt wA wr.heap.size 0 t := by
        have h : wA.heap[wr.heap.size]? = some (.cells #[.int .u8 t.lit, .int .i64 t.len, .int .i64 t.dist] 56 (0, 0)) := by rw [hwA]; exact heap_alloc_new wr _
        refine ⟨?_, ?_, ?_⟩ <;> simp [World.cell?, h]
      have HWA : Hid (wA = wr.alloc (.cells #[.int .u8 t.lit, .int .i64 t.len, .int .i64 t.dist] 56)) := hwA
      have BA : Below w.heap.size w wA := BR.trans (bA.mono BR.size)
      have tB := hT2.of_block (bA.block g2 hT2.lt)
      obtain ⟨ob, hob⟩ : ∃ ob, ob = wr.heap.size := ⟨_, rfl⟩
      have HOB : Hid (ob = wr.heap.size) := hob
      rw [← hob] at tA
      obtain ⟨a0, a1, a2⟩ := tA
      obtain ⟨b0, b1, b2⟩ := tB
      obtain ⟨h0, h1, h2⟩ := hT
      clear hwA hob hT2
      obtain ⟨z, ln, ds⟩ := t
      simp only at h0 h1 h2 a0 a1 a2 b0 b1 b2 HWA
      go_wp2_with fail
      rw [← HWA.out, ← HOB.out]
      go_quiet (fail)
      go_wp2
      go_roundw
      case rel => exact ⟨i + 1, by omega, by go_num, ⟨BA.os, BA.tape, BA.output, BA.size, BA.block⟩⟩
      case measure => simp [intOf]; omega
    · have hge : ¬ (i : Int) < (n : Int) := by omega
      go_wp2_with fail
      go_ret
      exact ⟨rfl, BR⟩
set_option maxRecDepth 100000 in
set_option maxHeartbeats 2000000 in
theorem kept7 (l : List Tok7) (a b : Option Addr) (n ca cb : Nat) (hn : Hid (l.length = n)) (w : World) (ha : SegT w a (faceL l)) (hb : SegT w b l) (hc : n + 2 ≤ ca) (hl : n ≤ 1073741824) : Calls Try.prog 18 #[.slice a (n + 2) ca, .slice b n cb] w fun e w' => e = .returned (.bool true) ∧ Below w.heap.size w w' := by
  have hfl : (faceL l).length = n + 2 := by unfold faceL; rw [List.length_append, hn.out]; rfl
  obtain ⟨g, off, rfl, hT⟩ := ha.at_ n (by omega)
  obtain ⟨g', off', hgg, hT2⟩ := ha.at_ (n + 1) (by omega)
  cases hgg
  have e1 : (faceL l).getD n tk0 = ⟨0, 77, 0⟩ := by have := hn.out; simp [faceL, List.getD, ← this]
  have e2 : (faceL l).getD (n + 1) tk0 = ⟨0, 78, 0⟩ := by have := hn.out; simp [faceL, List.getD, ← this]
  rw [e1] at hT
  rw [e2] at hT2
  have st : SegT w (some ⟨g, off, none⟩) l := by
    have := ha.take n
    rwa [show (faceL l).take n = l by unfold faceL; rw [← hn.out]; simp] at this
  have CS := same7 l (some ⟨g, off, none⟩) b n ca cb hn w st hb hl
  have HT1 : Hid (∀ W, Below w.heap.size w W → TkAt W g (off + n * 3) ⟨0, 77, 0⟩ ∧ TkAt W g (off + (n + 1) * 3) ⟨0, 78, 0⟩) := fun W hW => ⟨hT.of_block (hW.block g hT.lt), hT2.of_block (hW.block g hT.lt)⟩
  obtain ⟨k, hk⟩ : ∃ k, k = n + 1 := ⟨_, rfl⟩
  obtain ⟨k2, hk2⟩ : ∃ k2, k2 = n + 2 := ⟨_, rfl⟩
  have hw1 : IntKind.i64.wrap ((n : Int) + 1) = (k : Int) := by rw [IntWalk.i64_in _ (by omega)]; omega
  have hw2 : IntKind.i64.wrap ((n : Int) + 2) = (k2 : Int) := by rw [IntWalk.i64_in _ (by omega)]; omega
  have hi1 : (n : Int) + 1 = (k : Int) := by omega
  have hi2 : (n : Int) + 2 = (k2 : Int) := by omega
  rw [← hk] at HT1
  rw [← hk2]
  rw [← hk2] at hc
  have h1 : (n : Int) < (k2 : Int) := by omega
  have h2 : (k : Int) < (k2 : Int) := by omega
  have h3 : (n : Int) ≤ (ca : Int) := by omega
  have h4 : (0 : Int) ≤ (n : Int) := by omega
  clear hk hk2 hT hT2 hfl e1 e2 st ha
  go_enter Try.func18, Try.ntmps18
  go_wp2_with fail
  refine CS.mono ?_
  rintro e w1 ⟨rfl, b1⟩
  obtain ⟨⟨c0, c1, c2⟩, ⟨d0, d1, d2⟩⟩ := HT1.out w1 b1
  simp only at c1 d1
  go_wp2_with fail
  go_ret
  exact ⟨rfl, b1⟩
end Go.Proofs.Ytaipfcfmhdigfaa

namespace Go.Proofs.Ytaipfcfmhdigfaa
open Go.RowKit
set_option linter.unusedVariables false

theorem own_less {w : World} {base n g cap : Nat} {e : TypeId} {xs : List Value} {y : Value} (h : w.ownsRow base e 1 (.slice (some ⟨g, 0, none⟩) (n + 1) cap) (n + 1) (xs ++ [y])) : w.ownsRow base e 1 (.slice (some ⟨g, 0, none⟩) n cap) n xs := by
  have hl : xs.length = n := by have := h.1; simp at this; omega
  refine ⟨by omega, ?_⟩
  rcases h.2 with ⟨h0, _⟩ | ⟨g', cap', cur, hv, hb, hg, hc, hm, hs, ht⟩
  · cases h0
  · simp only [Value.slice.injEq, Option.some.injEq, Addr.mk.injEq, and_true, true_and] at hv
    obtain ⟨rfl, rfl⟩ := hv
    refine .inr ⟨g, cap, cur, rfl, hb, hg, by omega, hm, hs, ?_⟩
    have h2 := congrArg (List.take n) ht
    rw [List.take_take, List.take_append_of_le_length (by omega), List.take_of_length_le (by omega : xs.length ≤ n)] at h2
    rw [Nat.mul_one] at h2 ⊢
    rw [Nat.min_eq_left (by omega)] at h2
    exact h2

theorem own_take {w : World} {base m l g cap : Nat} {e : TypeId} {xs : List Value} (h : w.ownsRow base e 1 (.slice (some ⟨g, 0, none⟩) m cap) m xs) (hl : l ≤ m) : w.ownsRow base e 1 (.slice (some ⟨g, 0, none⟩) l cap) l (xs.take l) := by
  have hx : xs.length = m := by have := h.1; simp at this; omega
  refine ⟨by simp; omega, ?_⟩
  rcases h.2 with ⟨h0, _⟩ | ⟨g', cap', cur, hv, hb, hg, hc, hm, hs, ht⟩
  · cases h0
  · simp only [Value.slice.injEq, Option.some.injEq, Addr.mk.injEq, and_true, true_and] at hv
    obtain ⟨rfl, rfl⟩ := hv
    refine .inr ⟨g, cap, cur, rfl, hb, hg, by omega, hm, hs, ?_⟩
    rw [← ht, List.take_take, Nat.mul_one, Nat.mul_one, Nat.min_eq_left hl]

/-- An append of one cell onto a row of the call's own: the row itself stays; the new one is at its place, or in a new block. -/
theorem run_push_st {P : Program} (t ty : TypeId) (base : Nat) (e : TypeId) (i : TypeInfo) (z : Value) (bytes : Nat) (ht : P.underlying t = some (.slice e)) (hi : P.info? e = some i) (hz : i.zero = some z)
    (hsize : i.size = 1) (hby : i.bytes = bytes) (hzs : z.cells.size = 1)
    (w0 : World) (y : Value) (hy : y.oneCell' = true) {v : Value} {n : Nat} {xs : List Value} (hown : w0.ownsRow base e 1 v n xs)
    (h63 : n + 1 ≤ 140737488355328) (hbytes : (n + 1) * bytes ≤ 140737488355328) (hbase : base ≤ w0.heap.size) :
    ∃ v' w', (Builtin.append_ #[t, t] ty #[v, .slice (some ⟨w0.heap.size, 0, none⟩) 1 1]).run P (w0.alloc (.cells #[y] e)) = .ok v' w' ∧ w'.ownsRow base e 1 v' (n + 1) (xs ++ [y]) ∧ w0.grownBy w' v.ownBlock ∧
      w'.ownsRow base e 1 v n xs ∧ ((∃ g c, v = .slice (some ⟨g, 0, none⟩) n c ∧ v' = .slice (some ⟨g, 0, none⟩) (n + 1) c) ∨ ∃ g, v'.ownBlock = some g ∧ w0.heap.size ≤ g) := by
  have hown1 := hown.alloc (.cells #[y] e)
  have hcell := cell_one_new w0 y e
  have h1c : ∀ u ∈ [y], u.oneCell' = true := by intro u hu; simp at hu; subst hu; exact hy
  obtain ⟨v', w', hr, h1, h2, _⟩ := run_append_own (P := P) (w0.alloc (.cells #[y] e)) base t ty e i z 1 bytes ht hi hz hsize hby hzs (by decide) v n xs hown1 ⟨w0.heap.size, 0, none⟩ 1 1 [y] rfl hcell h1c (by unfold maxLen; omega) hbytes (by simp; omega)
  refine ⟨v', w', hr, h1, grownBy_trans (World.grownBy_alloc w0 _ _) h2, ?_⟩
  subst hby
  rcases hown.2 with ⟨rfl, rfl⟩ | ⟨g, cap, cur, rfl, hbg, hg, hnc, hcm, hcs, htake⟩
  · have hx : xs = [] := List.eq_nil_of_length_eq_zero (by simpa using hown.1)
    subst hx
    have hr2 := run_append_nil (P := P) (w0.alloc (.cells #[y] e)) t ty e i z ht hi hz ⟨w0.heap.size, 0, none⟩ 1 1 [y] (by rw [hsize]; rfl) hcell (by decide) (by decide) (by simp only [Nat.zero_add] at hbytes; omega)
    rw [hr] at hr2
    simp only [Result.ok.injEq] at hr2
    obtain ⟨rfl, rfl⟩ := hr2
    exact ⟨World.ownsRow_nil _ _ _ _, .inr ⟨_, rfl, by simp⟩⟩
  · by_cases hroom : n + 1 ≤ cap
    · have hg1 : (w0.alloc (.cells #[y] e)).heap[g]? = some (.cells cur e (0, 0)) := by
        rw [Below.heap_alloc _ _ _ (Array.getElem?_eq_some_iff.1 hg).1]; exact hg
      have hr2 := run_append_room (P := P) (w0.alloc (.cells #[y] e)) t ty e i ht hi g n cap cur hg1 ⟨w0.heap.size, 0, none⟩ 1 1 [y] (by rw [hsize]; rfl) hcell h1c hroom (by rw [hsize]; simp; omega)
      rw [hr] at hr2
      simp only [Result.ok.injEq] at hr2
      obtain ⟨rfl, rfl⟩ := hr2
      exact ⟨own_less h1, .inl ⟨g, cap, rfl, rfl⟩⟩
    · have hr2 := run_append_grow (P := P) (w0.alloc (.cells #[y] e)) t ty e i z ht hi hz ⟨g, 0, none⟩ n cap xs (by rw [hsize]; exact hown.1) (hown1.cells (g := g) rfl) ⟨w0.heap.size, 0, none⟩ 1 1 [y] (by rw [hsize]; rfl) hcell (by omega) (by omega) (growslice_fits (by omega) hbytes)
      rw [hr] at hr2
      simp only [Result.ok.injEq] at hr2
      obtain ⟨rfl, rfl⟩ := hr2
      refine ⟨?_, .inr ⟨_, rfl, by simp⟩⟩
      exact World.ownsRow.alloc (w := (w0.alloc (.cells #[y] e)).drew) hown1 _

theorem wpList_push_st {P : Program} {ops : Array Oper} {rest : List Oper} {o : Oper} {a : Act} {Q : Exit → Act → World → Prop} (hgd : o.guard = none) (s x : Operand) (t : TypeId)
    (ho : o.op = .call { callee := .builtin .append, args := #[s, x], argTypes := #[t, t] })
    (base : Nat) (e : TypeId) (i : TypeInfo) (z : Value) (bytes : Nat) (ht : P.underlying t = some (.slice e)) (hi : P.info? e = some i) (hz : i.zero = some z)
    (hsize : i.size = 1) (hby : i.bytes = bytes) (hzs : z.cells.size = 1)
    (w0 : World) (y : Value) (hy : y.oneCell' = true) {v : Value} {n : Nat} {xs : List Value} (hown : w0.ownsRow base e 1 v n xs) (hs : a.eval s = v) (hx : a.eval x = .slice (some ⟨w0.heap.size, 0, none⟩) 1 1)
    (h63 : n + 1 ≤ 140737488355328) (hbytes : (n + 1) * bytes ≤ 140737488355328) (hbase : base ≤ w0.heap.size)
    (h : ∀ (g c : Nat) (w' : World), w'.ownsRow base e 1 (.slice (some ⟨g, 0, none⟩) (n + 1) c) (n + 1) (xs ++ [y]) → w0.grownBy w' v.ownBlock → w'.ownsRow base e 1 v n xs → (v = .slice (some ⟨g, 0, none⟩) n c ∨ w0.heap.size ≤ g) → wpList P ops Q rest (a.put o.dst (.slice (some ⟨g, 0, none⟩) (n + 1) c)) w') : wpList P ops Q (o :: rest) a (w0.alloc (.cells #[y] e)) := by
  obtain ⟨v', w', hr, h2, h3, h4, h5⟩ := run_push_st (P := P) t o.type base e i z bytes ht hi hz hsize hby hzs w0 y hy hown h63 hbytes hbase
  obtain ⟨g, c, rfl, _⟩ := own_shape h2 (by omega)
  refine wpList_plain hgd fun K hK => ?_
  unfold Oper.wp execOp
  simp only [ho, resolve, invoke, builtin, Sem.run_bind, Sem.run_pure, Result.andThen_ok, List.map_toArray, List.map_cons, List.map_nil, hs, hx, hr]
  refine hK _ _ (h g c w' h2 h3 h4 ?_)
  rcases h5 with ⟨g', c', e1, e2⟩ | ⟨g', e1, e2⟩
  · cases e2; exact .inl e1
  · cases e1; exact .inr e2
end Go.Proofs.Ytaipfcfmhdigfaa
