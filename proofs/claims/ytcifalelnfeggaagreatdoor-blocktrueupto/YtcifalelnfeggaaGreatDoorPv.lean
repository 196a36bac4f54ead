import Derived.Test.YtcifalelnfeggaaGreatDoorPu
import Derived.Test.YtcifalelnfeggaaGreatDoorPr
import Derived.Test.YtcifalelnfeggaaGreatDoorPg
import Derived.Test.YtcifalelnfeggaaGreatDoorPb
import Derived.Test.YtcifalelnfeggaaGreatDoorPt
import Derived.Test.YtcifalelnfeggaaGreatDoorPo
import Derived.Test.YtcifalelnfeggaaGreatDoorPa
import Derived.Test.YtcifalelnfeggaaGreatDoorPq
import Derived.WalkKit
import Derived.ProofKit
import Derived.OpenShut
import Derived.SizedLaws
import Derived.Deep.Slices
import Derived.Lib.SmallJoins
namespace Go.Proofs.YtcifalelnfeggaaGreatDoor
open Go.RowKit
set_option linter.unusedVariables false

/-! The landed block: Write, whatever it is given. -/
theorem pwr9_ok (bw B : Nat) (v : Value) (L : List Bool) (last : Bool) (data : List Int) (xa : Option Addr) (nx xc : Nat) (hdl : Hid (data.length = nx)) (l : List Tok7) (a : Option Addr) (n cap : Nat) (hn : Hid (l.length = n)) (k : Nat) (hk : k < 3) (w : World) (hw : WrL w bw B v L) (hL : L.length ≤ 900000000000) (hs : SegT w a l) (hm : mer9 l = 0) (hx : siz7 l = nx) (hsz : (tal9 l).getD 0 0 ≤ mst9 k) (hsd : Seg w xa data) (hnil : xa = none → xc = 0) (fx : ∀ g o, xa = some ⟨g, o, none⟩ → 0 < data.length → ¬ WS bw v g ∧ g < w.heap.size) (fa : ∀ g o, a = some ⟨g, o, none⟩ → 0 < n → ¬ WS bw v g) (T : TabS w) (O : TabO w) (hbw : 2 ≤ bw) (hB : 2 ≤ B) :
    Calls Tryz.prog 34 #[.pointer (some ⟨bw, 0, none⟩), .int .i64 (k : Int), .bool last, .slice xa nx xc, .slice a n cap] w fun e w' => e = .returned (.int .i64 0) ∧ WrI w w' bw B v (L ++ blk9 k (L.length % 8) last data l) := by
  obtain rfl | rfl | rfl : k = 0 ∨ k = 1 ∨ k = 2 := by omega
  · cases last
    · exact pwr9_0f bw B v L data xa nx xc hdl l a n cap hn w hw hL hs hm hx hsz hsd hnil fx fa T O hbw hB
    · exact pwr9_0t bw B v L data xa nx xc hdl l a n cap hn w hw hL hs hm hx hsz hsd hnil fx fa T O hbw hB
  · cases last
    · exact pwr9_1f bw B v L data xa nx xc hdl l a n cap hn w hw hL hs hm hx hsz hsd hnil fx fa T O hbw hB
    · exact pwr9_1t bw B v L data xa nx xc hdl l a n cap hn w hw hL hs hm hx hsz hsd hnil fx fa T O hbw hB
  · cases last
    · exact pwr9_2f bw B v L data xa nx xc hdl l a n cap hn w hw hL hs hm hx hsz hsd hnil fx fa T O hbw hB
    · exact pwr9_2t bw B v L data xa nx xc hdl l a n cap hn w hw hL hs hm hx hsz hsd hnil fx fa T O hbw hB
set_option maxRecDepth 100000 in
set_option maxHeartbeats 4000000 in
theorem pwr9_no (bw B : Nat) (v : Value) (L : List Bool) (lv xv : Value) (l : List Tok7) (a : Option Addr) (n cap : Nat) (hn : Hid (l.length = n)) (k : Int) (w : World) (hw : WrL w bw B v L) (hL : L.length ≤ 900000000000) (hs : SegT w a l) (he : ple9 k ((L.length % 8 : Nat) : Int) l ≠ 0) :
    Calls Tryz.prog 34 #[.pointer (some ⟨bw, 0, none⟩), .int .i64 k, lv, xv, .slice a n cap] w fun e w' => e = .returned (.int .i64 (ple9 k ((L.length % 8 : Nat) : Int) l)) ∧ WrI w w' bw B v L := by
  have CL := len_any bw B v L w hw (by omega)
  have HPL : Hid (∀ W, Below w.heap.size w W → ∀ x : Int, x = ((L.length % 8 : Nat) : Int) → Calls Tryz.prog 51 #[.int .i64 k, .int .i64 x, .slice a n cap] W (PnQ9 W (ple9 k ((L.length % 8 : Nat) : Int) l))) := fun W hW x hx => by
    subst hx
    exact pplan9_no l a n cap hn k _ W (hs.old hW) he
  obtain ⟨E, hE⟩ : ∃ E, E = ple9 k ((L.length % 8 : Nat) : Int) l := ⟨_, rfl⟩
  rw [← hE] at HPL he ⊢
  have hEb : (E == 0) = false := by rw [beq_eq_false_iff_ne]; exact he
  have HW : Hid (WrL w bw B v L) := hw
  clear hE hs hw
  go_enter Tryz.func34, Tryz.ntmps34
  go_wp2_with fail
  refine CL.mono ?_
  rintro e w0 ⟨rfl, b0⟩
  clear CL
  go_wp2_with fail
  refine (HPL.out w0 b0 _ (by first | omega | (rw [Int.tmod_eq_emod_of_nonneg (by omega)]; omega))).mono ?_
  rintro e w1 ⟨rfl, b1⟩
  have b01 := b0.trans (b1.mono b0.size)
  have B2 : Below w.heap.size w ((w1.alloc (.cells #[.int .i64 0, .nilFunc, .nilFunc, .nilFunc] 111)).setRow w1.heap.size z0f9) := b01.trans ((((Below.refl w1.heap.size w1).alloc (Nat.le_refl _) _).grown (grown_setRow _ _ _) (by simp) (fun j e => by cases e; exact Nat.le_refl _)).mono b01.size)
  have HB2 : Hid (Below w.heap.size w ((w1.alloc (.cells #[.int .i64 0, .nilFunc, .nilFunc, .nilFunc] 111)).setRow w1.heap.size z0f9)) := B2
  clear b0 b1 b01 B2 HPL
  go_wp2_with (refine wpList_store_row rfl 111 (.tmp 11) (.tmp 24) rfl w1.heap.size z0f9 rfl rfl _ _ (heap_alloc_new w1 _) z0f9_facts.1 z0f9_facts.2.1 z0f9_facts.2.2.1 ?_)
  go_ret
  exact ⟨rfl, WrI.up HB2.out (WrI.start (HW.out.below8 HB2.out))⟩
set_option maxRecDepth 100000 in
set_option maxHeartbeats 4000000 in
theorem pwr9_len (bw B : Nat) (v : Value) (L : List Bool) (lv : Value) (xa : Option Addr) (nx xc : Nat) (hnx : nx ≤ 9000000000000000000) (l : List Tok7) (a : Option Addr) (n cap : Nat) (hn : Hid (l.length = n)) (k : Nat) (hk : k < 3) (w : World) (hw : WrL w bw B v L) (hL : L.length ≤ 900000000000) (hs : SegT w a l) (hm : mer9 l = 0) (hx : siz7 l ≠ nx) (hsz : (tal9 l).getD 0 0 ≤ mst9 k) :
    Calls Tryz.prog 34 #[.pointer (some ⟨bw, 0, none⟩), .int .i64 (k : Int), lv, .slice xa nx xc, .slice a n cap] w fun e w' => e = .returned (.int .i64 1) ∧ WrI w w' bw B v L := by
  have CL := len_any bw B v L w hw (by omega)
  have hSZ : (tal9 l).getD 0 0 = (siz7 l : Int) := tal9_size hm hs.fit
  have HPL : Hid (∀ W, Below w.heap.size w W → ∀ x : Int, x = ((L.length % 8 : Nat) : Int) → Calls Tryz.prog 51 #[.int .i64 (k : Int), .int .i64 x, .slice a n cap] W fun e w' => ∃ b, W.heap.size ≤ b ∧ e = .returned (.tuple #[.agg (fk9 k), .pointer (some ⟨b, 0, none⟩), .int .i64 0]) ∧ Ta9 w' b (tal9 l) ∧ Below W.heap.size W w') := fun W hW x hx => by
    subst hx
    exact pplan9_ok l a n cap hn k hk _ (by omega) W (hs.old hW) (by have := (mer9_zero hm).1; rw [hn.out] at this; exact this) (mer9_zero hm).2 hsz
  obtain ⟨S, hS⟩ : ∃ S, S = siz7 l := ⟨_, rfl⟩
  rw [← hS] at hSZ hx
  have hne : ¬ (nx : Int) = (S : Int) := by omega
  have hneb : ((nx : Int) == (S : Int)) = false := by rw [beq_eq_false_iff_ne]; exact hne
  have HSZ : Hid ((tal9 l).getD 0 0 = (S : Int)) := hSZ
  have HW : Hid (WrL w bw B v L) := hw
  clear hw hs hm hx hsz hS hSZ
  go_enter Tryz.func34, Tryz.ntmps34
  go_wp2_with fail
  refine CL.mono ?_
  rintro e w1 ⟨rfl, b1⟩
  clear CL
  go_wp2_with fail
  refine (HPL.out w1 b1 _ (by first | omega | (rw [Int.tmod_eq_emod_of_nonneg (by omega)]; omega))).mono ?_
  rintro e w2 ⟨tb, htb, rfl, TA, b2⟩
  have B2 : Below w.heap.size w w2 := b1.trans (b2.mono b1.size)
  obtain ⟨fi, fs, fo, f0⟩ := fk9_facts k hk
  have b3 : Below w2.heap.size w2 ((w2.alloc (.cells #[.int .i64 0, .nilFunc, .nilFunc, .nilFunc] 111)).setRow w2.heap.size (fk9 k)) := ((Below.refl w2.heap.size w2).alloc (Nat.le_refl _) _).grown (grown_setRow _ _ _) (by simp) (fun j e => by cases e; exact Nat.le_refl _)
  have c0 := (TA.keep (b3.block tb TA.lt)).cell (i := 0) (by omega)
  rw [HSZ.out] at c0
  have HB3 : Hid (Below w.heap.size w ((w2.alloc (.cells #[.int .i64 0, .nilFunc, .nilFunc, .nilFunc] 111)).setRow w2.heap.size (fk9 k))) := B2.trans (b3.mono B2.size)
  clear b1 b2 b3 TA B2 htb HPL f0
  go_wp2_with (refine wpList_store_row rfl 111 (.tmp 11) (.tmp 24) rfl w2.heap.size (fk9 k) rfl rfl _ _ (heap_alloc_new w2 _) fi fs fo ?_)
  go_ret
  exact ⟨rfl, WrI.up HB3.out (WrI.start (HW.out.below8 HB3.out))⟩
set_option maxRecDepth 100000 in
set_option maxHeartbeats 1000000 in
theorem pwr9_nil (k : Int) (lv xv tv : Value) (w : World) :
    Calls Tryz.prog 34 #[.pointer none, .int .i64 k, lv, xv, tv] w fun e w' => e = .returned (.int .i64 2) ∧ w' = w := by
  go_enter Tryz.func34, Tryz.ntmps34
  go_wp2_with fail
  go_ret
  exact ⟨rfl, rfl⟩
/-- What Write answers. -/
def pwe9 (k : Int) (x : Nat) (nx : Nat) (l : List Tok7) : Int := if ple9 k (x : Int) l ≠ 0 then ple9 k (x : Int) l else if siz7 l ≠ nx then 1 else 0
theorem pwr9_any (bw B : Nat) (v : Value) (L : List Bool) (last : Bool) (data : List Int) (xa : Option Addr) (nx xc : Nat) (hdl : Hid (data.length = nx)) (hnx : nx ≤ 9000000000000000000) (l : List Tok7) (a : Option Addr) (n cap : Nat) (hn : Hid (l.length = n)) (k : Int) (w : World) (hw : WrL w bw B v L) (hL : L.length ≤ 900000000000) (hs : SegT w a l) (hsd : Seg w xa data) (hnil : xa = none → xc = 0) (fx : ∀ g o, xa = some ⟨g, o, none⟩ → 0 < data.length → ¬ WS bw v g ∧ g < w.heap.size) (fa : ∀ g o, a = some ⟨g, o, none⟩ → 0 < n → ¬ WS bw v g) (T : TabS w) (O : TabO w) (hbw : 2 ≤ bw) (hB : 2 ≤ B) :
    Calls Tryz.prog 34 #[.pointer (some ⟨bw, 0, none⟩), .int .i64 k, .bool last, .slice xa nx xc, .slice a n cap] w fun e w' => e = .returned (.int .i64 (pwe9 k (L.length % 8) nx l)) ∧ WrI w w' bw B v (L ++ if pwe9 k (L.length % 8) nx l = 0 then blk9 k.toNat (L.length % 8) last data l else []) := by
  by_cases h : ple9 k ((L.length % 8 : Nat) : Int) l = 0
  · obtain ⟨h1, h2, h3, h4⟩ := ple9_zero h
    obtain ⟨kk, rfl⟩ : ∃ kk : Nat, k = (kk : Int) := ⟨k.toNat, by omega⟩
    rw [Int.toNat_natCast] at h4
    by_cases hx : siz7 l = nx
    · have e : pwe9 (kk : Int) (L.length % 8) nx l = 0 := by unfold pwe9; rw [if_neg (fun q => q h), if_neg (fun q => q hx)]
      rw [e, if_pos rfl, Int.toNat_natCast]
      exact pwr9_ok bw B v L last data xa nx xc hdl l a n cap hn kk (by omega) w hw hL hs h3 hx h4 hsd hnil fx fa T O hbw hB
    · have e : pwe9 (kk : Int) (L.length % 8) nx l = 1 := by unfold pwe9; rw [if_neg (fun q => q h), if_pos hx]
      rw [e, if_neg (by omega), List.append_nil]
      exact pwr9_len bw B v L _ xa nx xc hnx l a n cap hn kk (by omega) w hw hL hs h3 hx h4
  · have e : pwe9 k (L.length % 8) nx l = ple9 k ((L.length % 8 : Nat) : Int) l := by unfold pwe9; rw [if_pos h]
    rw [e, if_neg h, List.append_nil]
    exact pwr9_no bw B v L _ _ l a n cap hn k w hw hL hs h
end Go.Proofs.YtcifalelnfeggaaGreatDoor

namespace Go.Proofs.YtcifalelnfeggaaGreatDoor
open Go.RowKit
set_option linter.unusedVariables false
set_option linter.unusedSimpArgs false

/-! The law's own helpers over tokens and numbers: face, same, kept. -/
theorem info_tokA : (Tryz.prog.info? 97).map (fun i => (i.zero, i.size, i.bytes)) = some (some (.agg #[.int .u8 0, .int .i64 0, .int .i64 0]), 3, 24) := by kernel_rfl
/-- Two tokens behind a row of the call's own. -/
theorem wpList_appT2 {P : Program} {ops : Array Oper} {rest : List Oper} {o : Oper} {a : Act} {Q : Exit → Act → World → Prop} (hgd : o.guard = none) (s x : Operand) (t : TypeId)
    (ho : o.op = .call { callee := .builtin .append, args := #[s, x], argTypes := #[t, t] })
    (base : Nat) (e : TypeId) (i : TypeInfo) (z : Value) (bytes : Nat) (ht : P.underlying t = some (.slice e)) (hi : P.info? e = some i) (hz : i.zero = some z)
    (hsize : i.size = 3) (hby : i.bytes = bytes) (hzs : z.cells.size = 3) (w0 : World) (y y' : Tok7)
    {ra : Option Addr} {n rc : Nat} {l : List Tok7} (hown : w0.ownsRow base e 3 (.slice ra n rc) n (flatT l)) (hs : a.eval s = .slice ra n rc) (hx : a.eval x = .slice (some ⟨w0.heap.size, 0, none⟩) 2 2)
    (h63 : n + 2 ≤ 140737488355328) (hbytes : (n + 2) * bytes ≤ 140737488355328) (hbase : base ≤ w0.heap.size)
    (h : ∀ (g c : Nat) (w' : World), w'.ownsRow base e 3 (.slice (some ⟨g, 0, none⟩) (n + 2) c) (n + 2) (flatT (l ++ [y, y'])) → Below base w0 w' → wpList P ops Q rest (a.put o.dst (.slice (some ⟨g, 0, none⟩) (n + 2) c)) w') : wpList P ops Q (o :: rest) a (w0.alloc (.cells #[.int .u8 y.lit, .int .i64 y.len, .int .i64 y.dist, .int .u8 y'.lit, .int .i64 y'.len, .int .i64 y'.dist] e)) := by
  have hnew : ∀ j u, ([.int .u8 y.lit, .int .i64 y.len, .int .i64 y.dist, .int .u8 y'.lit, .int .i64 y'.len, .int .i64 y'.dist] : List Value)[j]? = some u → (w0.alloc (.cells #[.int .u8 y.lit, .int .i64 y.len, .int .i64 y.dist, .int .u8 y'.lit, .int .i64 y'.len, .int .i64 y'.dist] e)).cell? ((⟨w0.heap.size, 0, none⟩ : Addr).add j) = some u := by
    intro j u hu
    have hadd : (⟨w0.heap.size, 0, none⟩ : Addr).add j = ⟨w0.heap.size, j, none⟩ := by unfold Addr.add; split <;> simp_all
    rw [hadd]
    have hh := heap_alloc_new w0 (.cells #[.int .u8 y.lit, .int .i64 y.len, .int .i64 y.dist, .int .u8 y'.lit, .int .i64 y'.len, .int .i64 y'.dist] e)
    simp only [World.cell?, hh]
    simpa using hu
  refine wpList_append_own _ hgd s x t ho base e i z 3 bytes ht hi hz hsize hby hzs (by decide) _ n (flatT l) hs (hown.alloc _) ⟨w0.heap.size, 0, none⟩ 2 2 [.int .u8 y.lit, .int .i64 y.len, .int .i64 y.dist, .int .u8 y'.lit, .int .i64 y'.len, .int .i64 y'.dist] hx rfl hnew (by intro u hu; simp only [List.mem_cons, List.not_mem_nil, or_false] at hu; rcases hu with rfl | rfl | rfl | rfl | rfl | rfl <;> rfl) (by unfold maxLen; omega) hbytes (by simp; omega) ?_
  intro v' w' h1 h2 _
  obtain ⟨g, c, hv, _⟩ := own_shapeT h1 (by omega)
  subst hv
  refine h g c w' (by rw [flatT_app]; exact h1) ?_
  have b1 : Below base w0 (w0.alloc (.cells #[.int .u8 y.lit, .int .i64 y.len, .int .i64 y.dist, .int .u8 y'.lit, .int .i64 y'.len, .int .i64 y'.dist] e)) := (Below.refl _ _).alloc hbase _
  exact b1.trans ((Below.refl _ _).grown h2 (Nat.le_trans hbase b1.size) (fun k hk => (hown.lt k hk).1))
def faceL (l : List Tok7) : List Tok7 := l ++ [⟨0, 77, 0⟩, ⟨0, 78, 0⟩]
theorem faceL_fit {l : List Tok7} (h : ∀ t ∈ l, t.Fit) : ∀ t ∈ faceL l, t.Fit := by
  intro t ht
  unfold faceL at ht
  rcases List.mem_append.1 ht with ht | ht
  · exact h t ht
  · simp at ht
    rcases ht with rfl | rfl <;> (unfold Tok7.Fit; decide)
def FaceQ (w : World) (l : List Tok7) (n : Nat) (e : Ending) (w' : World) : Prop := ∃ g c, e = .returned (.tuple #[.slice (some ⟨g, 0, none⟩) (n + 2) c, .slice (some ⟨g, 0, none⟩) n c]) ∧ w'.ownsRow w.heap.size 97 3 (.slice (some ⟨g, 0, none⟩) (n + 2) c) (n + 2) (flatT (faceL l)) ∧ Below w.heap.size w w'
set_option maxRecDepth 100000 in
set_option maxHeartbeats 2000000 in
theorem face9 (l : List Tok7) (a : Option Addr) (n cap : Nat) (hn : Hid (l.length = n)) (w : World) (hs : SegT w a l) (hl : n ≤ 5864062014634) : Calls Tryz.prog 18 #[.slice a n cap] w (FaceQ w l n) := by
  obtain ⟨i0, hi, hz0, hz1, hz2⟩ := info_parts info_tokA
  go_enter Tryz.func18, Tryz.ntmps18
  go_wp2_with fail
  go_loopw [4, 9] (fun tl ti wr => ∃ (i oc : Nat) (oa : Option Addr), i ≤ n ∧ ti = .int .i64 (i : Int) ∧ tl = .slice oa i oc ∧ wr.ownsRow w.heap.size 97 3 (.slice oa i oc) i (flatT (l.take i)) ∧ Below w.heap.size w wr) (fun _ ti _ => n - (intOf ti).toNat)
  case atStart => exact ⟨0, 0, none, by omega, rfl, rfl, by rw [List.take_zero]; exact World.ownsRow_nil _ _ _ _, Below.refl _ _⟩
  case round =>
    obtain ⟨i, oc, oa, hi0, rfl, rfl, OO, BR⟩ := hrel
    have hsr := BR.size
    by_cases hin : i < n
    · have hii : (i : Int) < (n : Int) := by omega
      have hil : i < l.length := by rw [hn.out]; exact hin
      obtain ⟨b, off, rfl, hT⟩ := (hs.old BR).at_ i hil
      have HT : Hid (l.take (i + 1) = l.take i ++ [l.getD i tk0]) := takeT7 hil
      generalize l.getD i tk0 = t at *
      obtain ⟨wA, hwA⟩ : ∃ wA, wA = wr.alloc (.cells #[.int .u8 t.lit, .int .i64 t.len, .int .i64 t.dist] 98) := ⟨_, rfl⟩
      have bA : Below wr.heap.size wr wA := by rw [hwA]; exact below_box _ _
      have HWA : Hid (wA = wr.alloc (.cells #[.int .u8 t.lit, .int .i64 t.len, .int .i64 t.dist] 98)) := hwA
      have HSZ : Hid (wr.heap.size + 1 = wA.heap.size) := by show _ = _; rw [hwA]; simp
      have BA : Below w.heap.size w wA := BR.trans (bA.mono BR.size)
      have OA := own_belowT OO bA
      have hsA := BA.size
      have hc0 := hT.c0
      have hc1 := hT.c1
      have hc2 := hT.c2
      clear hwA hT OO
      obtain ⟨z, ln, ds⟩ := t
      simp only at hc0 hc1 hc2 HWA
      go_wp2_with (first | (at_builtin; rw [HSZ.out, ← HWA.out]; refine wpList_appT rfl (.tmp 13) (.tmp 21) 36 rfl w.heap.size 97 i0 _ 24 Tryz.underlying36 hi hz0 hz1 hz2 rfl wA ⟨z, ln, ds⟩ OA rfl rfl (by omega) (by omega) hsA ?_; intro ga gc w3 own3 b3))
      have B3 : Below w.heap.size w w3 := BA.trans b3
      go_roundw
      case rel => exact ⟨i + 1, gc, ga, by omega, by go_num, rfl, by rw [HT.out]; exact own3, B3⟩
      case measure => simp [intOf]; omega
    · have hge : ¬ (i : Int) < (n : Int) := by omega
      obtain rfl : i = n := by omega
      have HW : Hid (l.take i = l) := List.take_of_length_le (by rw [hn.out]; omega)
      rw [HW.out] at OO
      have hie : (i : Int) ≤ ((i + 2 : Nat) : Int) := by omega
      have hi0' : (0 : Int) ≤ (i : Int) := by omega
      clear HW hi0
      go_wp2_with (first | (at_builtin; refine wpList_appT2 rfl (.tmp 24) (.tmp 27) 36 rfl w.heap.size 97 i0 _ 24 Tryz.underlying36 hi hz0 hz1 hz2 rfl wr ⟨0, 77, 0⟩ ⟨0, 78, 0⟩ OO rfl rfl (by omega) (by omega) hsr ?_; intro g gc w3 own3 b3; have hc3 := (own_factsT own3).1; have hci : (i : Int) ≤ (gc : Int) := by omega))
      have B3 : Below w.heap.size w w3 := BR.trans b3
      go_quiet (fail)
      go_wp2
      go_ret2
      refine ⟨g, gc, rfl, ?_, ⟨B3.os, B3.tape, B3.output, B3.size, B3.block⟩⟩
      unfold faceL
      exact own_belowT own3 ⟨rfl, rfl, rfl, Nat.le_refl _, fun _ _ => rfl⟩

set_option maxRecDepth 100000 in
set_option maxHeartbeats 2000000 in
theorem same9 (a b : Option Addr) (xs : List Int) (n ca cb : Nat) (hn : Hid (xs.length = n)) (w : World) (hx : SegZ w a xs) (hy : SegZ w b xs) (hl : n ≤ 1000000) :
    Calls Tryz.prog 21 #[.slice a n ca, .slice b n cb] w fun e w' => e = .returned (.bool true) ∧ Below w.heap.size w w' := by
  have HX : Hid (SegZ w a xs) := hx
  have HY : Hid (SegZ w b xs) := hy
  clear hx hy
  go_enter Tryz.func21, Tryz.ntmps21
  go_wp2_with fail
  go_loopw [13] (fun ti wr => ∃ k : Nat, k ≤ n ∧ ti = .int .i64 k ∧ Below w.heap.size w wr) (fun ti _ => n - (intOf ti).toNat)
  case atStart => exact ⟨0, Nat.zero_le _, rfl, Below.refl _ _⟩
  case round =>
    obtain ⟨k, hk, rfl, hb⟩ := hrel
    by_cases h1 : k < n
    · have h1i : (k : Int) < (n : Int) := by omega
      have h2 : k < xs.length := by rw [hn.out]; exact h1
      obtain ⟨b1, o1, rfl, c1⟩ := (HX.out.old hb).at_ k h2
      obtain ⟨b2, o2, rfl, c2⟩ := (HY.out.old hb).at_ k h2
      have bb := HX.out.bd k
      generalize xs.getD k 0 = z1 at *
      go_wp2_with fail
      go_region
      go_wp2
      go_roundw
      case rel => exact ⟨k + 1, by omega, by go_num, hb.drew⟩
      case measure => simp [intOf]; omega
    · have h1i : ¬ (k : Int) < (n : Int) := by omega
      go_wp2_with fail
      go_ret
      exact ⟨rfl, hb⟩
set_option maxRecDepth 100000 in
set_option maxHeartbeats 2000000 in
theorem kept9 (l : List Tok7) (a b : Option Addr) (n ca cb : Nat) (hn : Hid (l.length = n)) (w : World) (ha : SegT w a (faceL l)) (hb : SegT w b l) (hc : n + 2 ≤ ca) (hl : n ≤ 5864062014634) : Calls Tryz.prog 22 #[.slice a (n + 2) ca, .slice b n cb] w fun e w' => e = .returned (.bool true) ∧ Below w.heap.size w w' := by
  have hfl : (faceL l).length = n + 2 := by unfold faceL; rw [List.length_append, hn.out]; rfl
  obtain ⟨g, off, rfl, hT⟩ := ha.at_ n (by omega)
  obtain ⟨g', off', hgg, hT2⟩ := ha.at_ (n + 1) (by omega)
  cases hgg
  have e1 : (faceL l).getD n tk0 = ⟨0, 77, 0⟩ := by have := hn.out; simp [faceL, List.getD, ← this]
  have e2 : (faceL l).getD (n + 1) tk0 = ⟨0, 78, 0⟩ := by have := hn.out; simp [faceL, List.getD, ← this]
  rw [e1] at hT
  rw [e2] at hT2
  have st : SegT w (some ⟨g, off, none⟩) l := by
    have := ha.take n
    rwa [show (faceL l).take n = l by unfold faceL; rw [← hn.out]; simp] at this
  have HT1 : Hid (∀ W, Below w.heap.size w W → TkAt W g (off + n * 3) ⟨0, 77, 0⟩ ∧ TkAt W g (off + (n + 1) * 3) ⟨0, 78, 0⟩) := fun W hW => ⟨hT.of_block (hW.block g hT.lt), hT2.of_block (hW.block g hT.lt)⟩
  obtain ⟨k, hk⟩ : ∃ k, k = n + 1 := ⟨_, rfl⟩
  obtain ⟨k2, hk2⟩ : ∃ k2, k2 = n + 2 := ⟨_, rfl⟩
  have hw1 : IntKind.i64.wrap ((n : Int) + 1) = (k : Int) := by rw [IntWalk.i64_in _ (by omega)]; omega
  have hk12 : (k : Int) < (k2 : Int) := by omega
  have hnk2 : (n : Int) < (k2 : Int) := by omega
  rw [← hk] at HT1
  rw [← hk2]
  have HK : Hid (k = n + 1 ∧ k2 = n + 2) := ⟨hk, hk2⟩
  have HST : Hid (SegT w (some ⟨g, off, none⟩) l) := st
  have HHB : Hid (SegT w b l) := hb
  have hkn : k ≤ k2 ∧ n ≤ k2 := by omega
  clear hk hk2 ha hb hT hT2 e1 e2 st hfl hc
  go_enter Tryz.func22, Tryz.ntmps22
  go_wp2_with fail
  go_loopw [12] (fun ti wr => ∃ i : Nat, i ≤ n ∧ ti = .int .i64 (i : Int) ∧ Below w.heap.size w wr) (fun ti _ => n - (intOf ti).toNat)
  case atStart => exact ⟨0, by omega, rfl, Below.refl _ _⟩
  case round =>
    obtain ⟨i, hi0, rfl, BR⟩ := hrel
    by_cases hin : i < n
    · have hii : (i : Int) < (n : Int) := by omega
      have hii2 : (i : Int) < (k2 : Int) := by omega
      have hil : i < l.length := by rw [hn.out]; exact hin
      obtain ⟨g1, o1, hg1, hT⟩ := (HST.out.old BR).at_ i hil
      cases hg1
      obtain ⟨g2, off2, rfl, hT2⟩ := (HHB.out.old BR).at_ i hil
      generalize l.getD i tk0 = t at *
      obtain ⟨wA, hwA⟩ : ∃ wA, wA = wr.alloc (.cells #[.int .u8 t.lit, .int .i64 t.len, .int .i64 t.dist] 98) := ⟨_, rfl⟩
      have bA : Below wr.heap.size wr wA := by rw [hwA]; exact below_box8 _ _
      have tA : TkAt wA wr.heap.size 0 t := by
        have h : wA.heap[wr.heap.size]? = some (.cells #[.int .u8 t.lit, .int .i64 t.len, .int .i64 t.dist] 98 (0, 0)) := by rw [hwA]; exact heap_alloc_new wr _
        refine ⟨?_, ?_, ?_⟩ <;> simp [World.cell?, h]
      have HWA : Hid (wA = wr.alloc (.cells #[.int .u8 t.lit, .int .i64 t.len, .int .i64 t.dist] 98)) := hwA
      have BA : Below w.heap.size w wA := BR.trans (bA.mono BR.size)
      have tB := hT.of_block (bA.block g hT.lt)
      obtain ⟨ob, hob⟩ : ∃ ob, ob = wr.heap.size := ⟨_, rfl⟩
      have HOB : Hid (ob = wr.heap.size) := hob
      rw [← hob] at tA
      obtain ⟨a0, a1, a2⟩ := tA
      obtain ⟨b0, b1, b2⟩ := tB
      obtain ⟨h0, h1, h2⟩ := hT2
      clear hwA hob hT
      obtain ⟨z, ln, ds⟩ := t
      simp only at h0 h1 h2 a0 a1 a2 b0 b1 b2 HWA
      go_wp2_with fail
      rw [← HWA.out, ← HOB.out]
      go_quiet (fail)
      go_wp2
      go_roundw
      case rel => exact ⟨i + 1, by omega, by go_num, ⟨BA.os, BA.tape, BA.output, BA.size, BA.block⟩⟩
      case measure => simp [intOf]; omega
    · have hge : ¬ (i : Int) < (n : Int) := by omega
      obtain ⟨tA, tB⟩ := HT1.out wr BR
      obtain ⟨a0, a1, a2⟩ := tA
      obtain ⟨b0, b1, b2⟩ := tB
      simp only at a0 a1 a2 b0 b1 b2
      go_wp2_with fail
      go_ret
      exact ⟨rfl, BR⟩
end Go.Proofs.YtcifalelnfeggaaGreatDoor

namespace Go.Proofs.YtcifalelnfeggaaGreatDoor
open Go.RowKit
set_option linter.unusedVariables false

/-! BlockCosts. -/
def vc9 (k x : Int) (l : List Tok7) : Int := if ple9 k x l = 0 then cos9 k.toNat x.toNat (tal9 l) else 0
def vp9 (x : Int) (l : List Tok7) : Int := if (x < 0 ∨ 8 ≤ x) ∨ mer9 l ≠ 0 then 0 else (pk9 x.toNat (tal9 l) 3).1
def ep9 (x : Int) (l : List Tok7) : Int := if x < 0 ∨ 8 ≤ x then 1 else mer9 l
theorem pcst9_all (l : List Tok7) (a : Option Addr) (n cap : Nat) (hn : Hid (l.length = n)) (k x : Int) (w : World) (hs : SegT w a l) (T : TabS w) (O : TabO w) :
    Calls Tryz.prog 25 #[.int .i64 k, .int .i64 x, .slice a n cap] w (RcQ9 w (vc9 k x l) (ple9 k x l)) := by
  unfold vc9
  by_cases h : ple9 k x l = 0
  · obtain ⟨h1, h2, h3, h4⟩ := ple9_zero h
    rw [if_pos h, h]
    have := pcst9_ok l a n cap hn k.toNat x.toNat (by omega) (by omega) w hs h3 h4 T O
    rw [Int.toNat_of_nonneg h1.1, Int.toNat_of_nonneg h2.1] at this
    exact this
  · rw [if_neg h]
    exact pcst9_no l a n cap hn k x w hs h
theorem rcst9_all (l : List Tok7) (a : Option Addr) (n cap : Nat) (hn : Hid (l.length = n)) (k x : Int) (w : World) (hs : SegT w a l) (hl : n ≤ 5864062014634) :
    Calls Tryz.prog 26 #[.int .i64 k, .int .i64 x, .slice a n cap] w (RcQ9 w (vc9 k x l) (ple9 k x l)) := by
  by_cases h : k < 0 ∨ 2 < k ∨ x < 0 ∨ 7 < x
  · have e : ple9 k x l = 1 := by unfold ple9; rw [if_pos h]
    unfold vc9
    rw [e, if_neg (by omega)]
    exact rcst9_arg k x h _ w
  · have := rcst9_in l a n cap hn k.toNat x.toNat (by omega) (by omega) w hs hl
    rw [Int.toNat_of_nonneg (by omega), Int.toNat_of_nonneg (by omega)] at this
    exact this
theorem ppck9_all (l : List Tok7) (a : Option Addr) (n cap : Nat) (hn : Hid (l.length = n)) (x : Int) (w : World) (hs : SegT w a l) (T : TabS w) (O : TabO w) :
    Calls Tryz.prog 27 #[.int .i64 x, .slice a n cap] w (RcQ9 w (vp9 x l) (ep9 x l)) := by
  unfold vp9 ep9
  by_cases h : (x < 0 ∨ 8 ≤ x) ∨ mer9 l ≠ 0
  · rw [if_pos h]
    exact ppck9_no l a n cap hn x w hs h
  · rw [if_neg h, if_neg (fun q => h (.inl q))]
    have hm : mer9 l = 0 := Decidable.of_not_not (fun q => h (.inr q))
    rw [hm]
    have := ppck9_ok l a n cap hn x.toNat (by omega) w hs hm T O
    rw [Int.toNat_of_nonneg (by omega)] at this
    exact this
theorem rpck9_all (l : List Tok7) (a : Option Addr) (n cap : Nat) (hn : Hid (l.length = n)) (x : Int) (w : World) (hs : SegT w a l) (hl : n ≤ 5864062014634) :
    Calls Tryz.prog 28 #[.int .i64 x, .slice a n cap] w (RcQ9 w (vp9 x l) (ep9 x l)) := by
  unfold vp9 ep9
  by_cases h : (x < 0 ∨ 8 ≤ x) ∨ mer9 l ≠ 0
  · rw [if_pos h]
    exact rpck9_no l a n cap hn x w hs hl h
  · rw [if_neg h, if_neg (fun q => h (.inl q))]
    have hm : mer9 l = 0 := Decidable.of_not_not (fun q => h (.inr q))
    rw [hm]
    have := rpck9_ok l a n cap hn x.toNat (by omega) w hs hm
    rw [Int.toNat_of_nonneg (by omega)] at this
    exact this
set_option maxRecDepth 100000 in
set_option maxHeartbeats 16000000 in
theorem blockCosts_walk (w : World) (tab : TabS w ∧ TabO w) (k : Int) (k1 : -9223372036854775808 ≤ k) (k2 : k ≤ 9223372036854775807) (x : Int) (x1 : -9223372036854775808 ≤ x) (x2 : x ≤ 9223372036854775807) (a : Option Addr) (l : List Tok7) (cap : Nat) (hs : SegT w a l) (hl : l.length ≤ 5864062014634) :
    Calls Tryz.prog 6 #[.int .i64 k, .int .i64 x, .slice a l.length cap] w fun e w' => e = .returned (.bool true) ∧ Below w.heap.size w w' := by
  obtain ⟨n, hnn⟩ : ∃ n, n = l.length := ⟨_, rfl⟩
  have HN : Hid (l.length = n) := hnn.symm
  rw [← hnn] at hl ⊢
  clear hnn
  have CF := face9 l a n cap HN w hs hl
  obtain ⟨V, hV⟩ : ∃ V, V = vc9 k x l := ⟨_, rfl⟩
  obtain ⟨E, hE⟩ : ∃ E, E = ple9 k x l := ⟨_, rfl⟩
  obtain ⟨P, hP⟩ : ∃ P, P = vp9 x l := ⟨_, rfl⟩
  obtain ⟨G, hG⟩ : ∃ G, G = ep9 x l := ⟨_, rfl⟩
  have HPC : Hid (∀ W g c, SegT W (some ⟨g, 0, none⟩) l → Below w.heap.size w W → Calls Tryz.prog 25 #[.int .i64 k, .int .i64 x, .slice (some ⟨g, 0, none⟩) n c] W (RcQ9 W V E)) := fun W g c h hb => by
    rw [hV, hE]
    exact pcst9_all l _ n c HN k x W h (tab.1.old hb) (tab.2.old hb)
  have HRC : Hid (∀ W, Below w.heap.size w W → Calls Tryz.prog 26 #[.int .i64 k, .int .i64 x, .slice a n cap] W (RcQ9 W V E)) := fun W hb => by
    rw [hV, hE]
    exact rcst9_all l _ n cap HN k x W (hs.old hb) hl
  have HPP : Hid (∀ W g c, SegT W (some ⟨g, 0, none⟩) l → Below w.heap.size w W → Calls Tryz.prog 27 #[.int .i64 x, .slice (some ⟨g, 0, none⟩) n c] W (RcQ9 W P G)) := fun W g c h hb => by
    rw [hP, hG]
    exact ppck9_all l _ n c HN x W h (tab.1.old hb) (tab.2.old hb)
  have HRP : Hid (∀ W, Below w.heap.size w W → Calls Tryz.prog 28 #[.int .i64 x, .slice a n cap] W (RcQ9 W P G)) := fun W hb => by
    rw [hP, hG]
    exact rpck9_all l _ n cap HN x W (hs.old hb) hl
  clear tab hV hE hP hG
  go_enter Tryz.func6, Tryz.ntmps6
  go_wp2_with fail
  refine CF.mono ?_
  rintro e w1 ⟨g, c, rfl, OF, b1⟩
  have hfl : (faceL l).length = n + 2 := by unfold faceL; rw [List.length_append, HN.out]; rfl
  have SF : SegT w1 (some ⟨g, 0, none⟩) (faceL l) := own_segT OF hfl (faceL_fit hs.fit)
  have SP : SegT w1 (some ⟨g, 0, none⟩) l := by
    have := SF.take n
    rwa [show (faceL l).take n = l by unfold faceL; rw [← HN.out]; simp] at this
  have hc : n + 2 ≤ c := (own_factsT OF).1
  have HSF : Hid (SegT w1 (some ⟨g, 0, none⟩) (faceL l)) := SF
  have HHS : Hid (SegT w a l) := hs
  have CO := HPC.out w1 g c SP b1
  have HSP : Hid (SegT w1 (some ⟨g, 0, none⟩) l) := SP
  have HB1 : Hid (Below w.heap.size w w1) := b1
  clear CF OF hfl SF SP hs b1
  go_wp2_with fail
  refine CO.mono ?_
  rintro e w2 ⟨rfl, b2⟩
  have HB2 : Hid (Below w1.heap.size w1 w2) := b2
  have C2 := HRC.out w2 (HB1.out.trans (b2.mono HB1.out.size))
  clear CO b2
  go_wp2_with fail
  refine C2.mono ?_
  rintro e w3 ⟨rfl, b3⟩
  have HB3 : Hid (Below w1.heap.size w1 w3) := HB2.out.trans (b3.mono HB2.out.size)
  have C3 := HPP.out w3 g c (HSP.out.old HB3.out) (HB1.out.trans (HB3.out.mono HB1.out.size))
  clear C2 b3 HB2
  go_wp2_with fail
  refine C3.mono ?_
  rintro e w4 ⟨rfl, b4⟩
  have HB4 : Hid (Below w1.heap.size w1 w4) := HB3.out.trans (b4.mono HB3.out.size)
  have C4 := HRP.out w4 (HB1.out.trans (HB4.out.mono HB1.out.size))
  clear C3 b4 HB3
  go_wp2_with fail
  refine C4.mono ?_
  rintro e w5 ⟨rfl, b5⟩
  have HB5 : Hid (Below w1.heap.size w1 w5) := HB4.out.trans (b5.mono HB4.out.size)
  have B5 : Below w.heap.size w w5 := HB1.out.trans (HB5.out.mono HB1.out.size)
  have CK := kept9 l (some ⟨g, 0, none⟩) a n c cap HN w5 (HSF.out.old HB5.out) (HHS.out.old B5) hc hl
  have HB6 : Hid (Below w.heap.size w w5) := B5
  clear C4 b5 HB4 B5
  go_wp2_with fail
  refine CK.mono ?_
  rintro e w6 ⟨rfl, b6⟩
  have HB7 : Hid (Below w.heap.size w w6) := HB6.out.trans (b6.mono HB6.out.size)
  clear CK b6 HB6
  go_wp2_with fail
  refine (plives9 w6).mono ?_
  rintro e w7 ⟨rfl, b7⟩
  have B8 : Below w.heap.size w w7 := HB7.out.trans (b7.mono HB7.out.size)
  clear b7
  go_wp2_with fail
  go_ret
  exact ⟨rfl, B8⟩
end Go.Proofs.YtcifalelnfeggaaGreatDoor

namespace Go.Proofs.YtcifalelnfeggaaGreatDoor
open Go.RowKit
set_option linter.unusedVariables false

/-! BlockTrue. -/
theorem blk9_le {k x : Nat} (hk : k < 3) {last : Bool} {data : List Int} {l : List Tok7} (hm : mer9 l = 0) (hf : ∀ t ∈ l, t.Fit) (hd : data.length = siz7 l) : (blk9 k x last data l).length ≤ 200000000 := by
  obtain ⟨e1, e2, ht⟩ := own_told9 hm hf
  have hl6 := (mer9_zero hm).1
  have hs := siz7_le l
  have f1 := flat_le9 pln_ok9.1 pln_ok9.2 l
  have f2 := flat_le9 e1 e2 l
  have p1 := putB_le pln_ok9.1 256
  have p2 := putB_le e1 256
  have hc := cst8_bd9 ht
  have hh := hd8_len ht
  unfold blk9
  obtain rfl | rfl | rfl : k = 0 ∨ k = 1 ∨ k = 2 := by omega
  · rw [if_pos rfl]
    simp only [List.length_append, List.length_cons, List.length_nil, List.length_replicate, bN_len, bB_len]
    omega
  · rw [if_neg (by omega), if_pos rfl]
    unfold bdy9
    simp only [List.length_append, List.length_cons, List.length_nil]
    omega
  · rw [if_neg (by omega), if_neg (by omega)]
    unfold bdy9
    simp only [List.length_append, List.length_cons, List.length_nil]
    omega
theorem cos9_sm9 {k x : Nat} (hk : k < 3) {l : List Tok7} (hm : mer9 l = 0) (hf : ∀ t ∈ l, t.Fit) : cos9 k x (tal9 l) ≤ 200000000 := by
  have h1 := blk9_len (x := x) hk (last := false) (data := List.replicate (siz7 l) (0 : Int)) hm hf (by rw [List.length_replicate, tal9_size hm hf])
  have h2 := blk9_le (x := x) hk (last := false) (data := List.replicate (siz7 l) (0 : Int)) hm hf List.length_replicate
  omega
/-- One kind: its cost, and what it is written as. -/
def TrK9 (w : World) (x nx : Nat) (l : List Tok7) (g n c da : Nat) : Prop :=
  ∀ (i : Nat), i < 3 → ple9 (i : Int) (x : Int) l = 0 → ∀ (W : World), Below w.heap.size w W → ∀ (W2 : World), W2 = W.alloc (.cells #[.slice none 0 0, .int .u64 0, .int .i64 0] 64) →
    Calls Tryz.prog 29 #[.pointer (some ⟨W.heap.size, 0, none⟩), .int .u64 0, .int .i64 (x : Int)] W2 fun e W3 => e = .returned (.int .i64 0) ∧ Below w.heap.size w W3 ∧
      Calls Tryz.prog 34 #[.pointer (some ⟨W.heap.size, 0, none⟩), .int .i64 (i : Int), .bool false, .slice (some ⟨da, 0, none⟩) nx nx, .slice (some ⟨g, 0, none⟩) n c] W3 fun e W4 => e = .returned (.int .i64 0) ∧ Below w.heap.size w W4 ∧
        Calls Tryz.prog 36 #[.pointer (some ⟨W.heap.size, 0, none⟩)] W4 fun e W5 => e = .returned (.int .i64 ((x : Int) + cos9 i x (tal9 l))) ∧ Below w.heap.size w W5
theorem trK9 (w : World) (x nx : Nat) (hx : x < 8) (l : List Tok7) (g n c da : Nat) (hn : Hid (l.length = n)) (hs : SegT w (some ⟨g, 0, none⟩) l) (hsd : Seg w (some ⟨da, 0, none⟩) (List.replicate nx (0 : Int))) (hm : mer9 l = 0) (hnx : siz7 l = nx) (T : TabS w) (O : TabO w) (h2 : 2 ≤ w.heap.size) (hda : da < w.heap.size) : TrK9 w x nx l g n c da := by
  intro i hi hp W hW W2 hW2
  obtain ⟨_, _, _, hsz⟩ := ple9_zero hp
  rw [Int.toNat_natCast] at hsz
  have hWs := hW.size
  have s2 : W2.heap.size = W.heap.size + 1 := by rw [hW2]; simp
  have B2 : Below w.heap.size w W2 := by rw [hW2]; exact hW.trans ((below_box8 W _).mono hWs)
  have WN : WrL W2 W.heap.size W.heap.size (.slice none 0 0) [] := WrL.new (by rw [hW2]; exact heap_alloc_new W _) (by omega)
  refine (put_ok W.heap.size W.heap.size (.slice none 0 0) [] 0 x W2 WN (by exact Nat.two_pow_pos x) (by omega) (by simp)).mono ?_
  rintro e W3 ⟨rfl, v3, W3w, K3, F3⟩
  rw [List.nil_append] at W3w
  have hw3 : ∀ k, WS W.heap.size (.slice none 0 0) k → w.heap.size ≤ k := fun k e => by
    rcases e with e | e
    · omega
    · simp [Value.ownBlock] at e
  have B3 : Below w.heap.size w W3 := B2.trans (K3.below hw3 B2.size)
  refine ⟨rfl, B3, ?_⟩
  have hbn : (bN 0 x).length = x := bN_len _ _
  have hfr : ∀ k, k < w.heap.size → ¬ WS W.heap.size v3 k := fun k hk => by
    rintro (e | e)
    · omega
    · have := (W3w.own_lt k e).1; omega
  have hlt := hs.lt
  have hsiz := siz7_le l
  have hl6 := (mer9_zero hm).1
  refine (pwr9_ok W.heap.size W.heap.size v3 (bN 0 x) false (List.replicate nx (0 : Int)) (some ⟨da, 0, none⟩) nx nx List.length_replicate l (some ⟨g, 0, none⟩) n c hn i hi W3 W3w (by rw [hbn]; omega) (hs.old B3) hm hnx hsz (hsd.old B3) (fun h => by cases h) (fun g' o e h => ?_) (fun g' o e h => ?_) (T.old B3) (O.old B3) (by omega) (by omega)).mono ?_
  · have e2 : g' = da := by cases e; rfl
    subst e2
    exact ⟨hfr g' hda, by have := B3.size; omega⟩
  · exact hfr g' (hlt g' o e (by have := hn.out; omega))
  · rintro e W4 ⟨rfl, v4, W4w, K4, F4⟩
    have B4 : Below w.heap.size w W4 := B3.trans (K4.below (fun k e => by
      rcases Nat.lt_or_ge k w.heap.size with q | q
      · exact absurd e (hfr k q)
      · exact q) B3.size)
    refine ⟨rfl, B4, ?_⟩
    rw [hbn, Nat.mod_eq_of_lt hx] at W4w
    have hb := blk9_len (x := x) hi (last := false) (data := List.replicate nx (0 : Int)) hm hs.fit (by rw [List.length_replicate, tal9_size hm hs.fit, hnx])
    have hcb := cos9_bd (k := i) (x := x) (tal9_ct hm hs.fit)
    have hlen : ((bN 0 x ++ blk9 i x false (List.replicate nx (0 : Int)) l).length : Int) = (x : Int) + cos9 i x (tal9 l) := by
      rw [List.length_append, hbn]
      push_cast
      omega
    have hle : (bN 0 x ++ blk9 i x false (List.replicate nx (0 : Int)) l).length ≤ 1125899906842624 := by
      have hc2 := cos9_sm9 (k := i) (x := x) hi hm hs.fit
      omega
    refine (len_any W.heap.size W.heap.size v4 _ W4 W4w hle).mono ?_
    rintro e W5 ⟨rfl, b5⟩
    rw [hlen]
    exact ⟨rfl, B4.trans (b5.mono B4.size)⟩
end Go.Proofs.YtcifalelnfeggaaGreatDoor

namespace Go.Proofs.YtcifalelnfeggaaGreatDoor
open Go.RowKit
set_option linter.unusedVariables false

/-! BlockTrue. -/
set_option maxRecDepth 100000 in
set_option maxHeartbeats 32000000 in
theorem blockTrue_walk (w : World) (tab : TabS w ∧ TabO w) (b : Int) (b1 : -9223372036854775808 ≤ b) (b2 : b ≤ 9223372036854775807) (a : Option Addr) (l : List Tok7) (cap : Nat) (hs : SegT w a l) (hl : l.length ≤ 1073741824) :
    Calls Tryz.prog 8 #[.int .i64 b, .slice a l.length cap] w fun e w' => e = .returned (.bool true) ∧ Below w.heap.size w w' := by
  obtain ⟨n, hnn⟩ : ∃ n, n = l.length := ⟨_, rfl⟩
  have HN : Hid (l.length = n) := hnn.symm
  rw [← hnn] at hl ⊢
  clear hnn
  have CF := face9 l a n cap HN w hs (by omega)
  have hszb := siz7_le l
  obtain ⟨nx, hnx⟩ : ∃ nx, nx = siz7 l := ⟨_, rfl⟩
  have HNX : Hid (siz7 l = nx) := hnx.symm
  rw [HN.out, ← hnx] at hszb
  have HSZ : Hid (∀ W, Below w.heap.size w W → Calls Tryz.prog 32 #[.slice a n cap] W fun e w' => e = .returned (.int .i64 (nx : Int)) ∧ Below W.heap.size W w') := fun W hW => by
    have := rsize7 l a n cap HN W (hs.old hW) (by omega)
    rw [← hnx] at this
    exact this
  have hmk := run_make_arr9 nx (by omega)
  have HTAB : Hid (TabS w ∧ TabO w) := tab
  have HHS : Hid (SegT w a l) := hs
  have h2w : 2 ≤ w.heap.size := by
    have : 1 < w.heap.size := by simpa using World.block_lt_of_cell? w _ (tab.2.at8 0 (by omega))
    omega
  have hr : b.tmod 8 = b.tmod 8 := rfl
  have hr1 : -7 ≤ b.tmod 8 ∧ b.tmod 8 ≤ 7 := by
    have h1 := Int.tmod_lt_of_pos b (show (0 : Int) < 8 by omega)
    have h2 := Int.lt_tmod_of_pos b (show (0 : Int) < 8 by omega)
    omega
  clear hnx tab hs hr
  by_cases hneg : b.tmod 8 < 0
  · obtain ⟨x, hx⟩ : ∃ x : Nat, b.tmod 8 = -(x : Int) := ⟨(-(b.tmod 8)).toNat, by omega⟩
    have hx8 : x < 8 := by omega
    have hxn : -(x : Int) < 0 := by omega
    have iwx : IntKind.i64.wrap (- -(x : Int)) = (x : Int) := by rw [Int.neg_neg]; exact IntWalk.i64_in _ (by omega)
    clear hr1 hneg
    have HPK : Hid (∀ W g c, SegT W (some ⟨g, 0, none⟩) l → Below w.heap.size w W → Calls Tryz.prog 27 #[.int .i64 (x : Int), .slice (some ⟨g, 0, none⟩) n c] W (RcQ9 W (vp9 (x : Int) l) (ep9 (x : Int) l))) := fun W g c h hb => ppck9_all l _ n c HN (x : Int) W h (HTAB.out.1.old hb) (HTAB.out.2.old hb)
    have HPC : Hid (∀ W g c (k : Int), SegT W (some ⟨g, 0, none⟩) l → Below w.heap.size w W → Calls Tryz.prog 25 #[.int .i64 k, .int .i64 (x : Int), .slice (some ⟨g, 0, none⟩) n c] W (RcQ9 W (vc9 k (x : Int) l) (ple9 k (x : Int) l))) := fun W g c k h hb => pcst9_all l _ n c HN k (x : Int) W h (HTAB.out.1.old hb) (HTAB.out.2.old hb)
    go_enter Tryz.func8, Tryz.ntmps8
    go_wp2_with fail
    refine CF.mono ?_
    rintro e w1 ⟨g, c, rfl, OF, b1⟩
    have hfl : (faceL l).length = n + 2 := by unfold faceL; rw [List.length_append, HN.out]; rfl
    have SF : SegT w1 (some ⟨g, 0, none⟩) (faceL l) := own_segT OF hfl (faceL_fit HHS.out.fit)
    have HSP : Hid (SegT w1 (some ⟨g, 0, none⟩) l) := by
      have := SF.take n
      rwa [show (faceL l).take n = l by unfold faceL; rw [← HN.out]; simp] at this
    have hc : n + 2 ≤ c := (own_factsT OF).1
    have HB1 : Hid (Below w.heap.size w w1) := b1
    clear CF OF hfl SF
    go_wp2_with fail
    refine (HSZ.out w1 b1).mono ?_
    rintro e w2 ⟨rfl, b2⟩
    have HB2 : Hid (Below w1.heap.size w1 w2) := b2
    clear b1 b2
    go_wp2_with fail
    obtain ⟨w3, hw3⟩ : ∃ w3, w3 = w2.alloc (.cells (Array.replicate nx (Value.int .u8 0)) 5) := ⟨_, rfl⟩
    have HW3 : Hid (w2.alloc (.cells (Array.replicate nx (Value.int .u8 0)) 5) = w3) := hw3.symm
    have s3 : w3.heap.size = w2.heap.size + 1 := by rw [hw3]; simp
    have b3 : Below w2.heap.size w2 w3 := by rw [hw3]; exact below_box8 w2 _
    have HB3 : Hid (Below w1.heap.size w1 w3) := HB2.out.trans (b3.mono HB2.out.size)
    have HBW : Hid (Below w.heap.size w w3) := HB1.out.trans (HB3.out.mono HB1.out.size)
    have SD : Seg w3 (some ⟨w2.heap.size, 0, none⟩) (List.replicate nx (0 : Int)) := made_seg9 (by omega) hw3
    have HSD : Hid (Seg w3 (some ⟨w2.heap.size, 0, none⟩) (List.replicate nx (0 : Int))) := SD
    have S3 : SegT w3 (some ⟨g, 0, none⟩) l := HSP.out.old HB3.out
    have HS3 : Hid (SegT w3 (some ⟨g, 0, none⟩) l) := S3
    have CP := HPK.out w3 g c S3 HBW.out
    rw [HW3.out]
    clear SD S3 b3 hw3 HPK HB2 HB3 hmk
    refine CP.mono ?_
    rintro e w4 ⟨rfl, b4⟩
    have HB4 : Hid (Below w3.heap.size w3 w4) := b4
    clear CP b4
    by_cases hm : mer9 l = 0
    · have e1 : ep9 (x : Int) l = 0 := by unfold ep9; rw [if_neg (by omega), hm]
      obtain ⟨j, hj, hpk, hpj, hbest⟩ := pk9_best hx8 hm HHS.out.fit
      have e2 : vp9 (x : Int) l = (j : Int) := by
        unfold vp9
        rw [if_neg (by omega), Int.toNat_natCast, hpk]
      rw [e1, e2]
      have hvj : vc9 (j : Int) (x : Int) l = cos9 j x (tal9 l) := by unfold vc9; rw [if_pos hpj, Int.toNat_natCast, Int.toNat_natCast]
      have C6 := HPC.out w4 g c (j : Int) (HS3.out.old HB4.out) (HBW.out.trans (HB4.out.mono HBW.out.size))
      rw [hvj, hpj] at C6
      have HTR : Hid (TrK9 w3 x nx l g n c w2.heap.size) := trK9 w3 x nx hx8 l g n c w2.heap.size HN HS3.out HSD.out hm HNX.out (HTAB.out.1.old HBW.out) (HTAB.out.2.old HBW.out) (by have := HBW.out.size; omega) (by omega)
      have HBE : Hid (∀ i : Nat, i < 3 → ple9 (i : Int) (x : Int) l = 0 → cos9 j x (tal9 l) ≤ cos9 i x (tal9 l)) := hbest
      have HCB : Hid (∀ i : Nat, i < 3 → 0 ≤ cos9 i x (tal9 l) ∧ cos9 i x (tal9 l) ≤ 200000000) := fun i hi => ⟨(cos9_bd (tal9_ct hm HHS.out.fit)).1, cos9_sm9 hi hm HHS.out.fit⟩
      have HPL : Hid (∀ i : Nat, i < 3 → ple9 (i : Int) (x : Int) l ≠ 0 → i = 0 ∧ 65535 < nx) := fun i hi hp => by
        rw [ple9_in' hx8 hi hm, tal9_size hm HHS.out.fit, HNX.out] at hp
        have hl6 := (mer9_zero hm).1
        rw [HN.out] at hl6
        have hq : mst9 i < (nx : Int) := by
          by_cases q : mst9 i < (nx : Int)
          · exact q
          · rw [if_neg q] at hp; exact absurd rfl hp
        unfold mst9 at hq
        split at hq
        · exact ⟨by assumption, by omega⟩
        · omega
      have HMM : Hid (mer9 l = 0) := hm
      have cbj := HCB.out j hj
      have HJB : Hid (∀ i : Nat, i < 3 → ple9 (i : Int) (x : Int) l = 0 → cos9 j x (tal9 l) ≤ cos9 i x (tal9 l)) := hbest
      obtain ⟨J, hJ⟩ : ∃ J, J = cos9 j x (tal9 l) := ⟨_, rfl⟩
      rw [← hJ] at C6 HBE cbj HJB
      clear e1 e2 hpk hpj hbest hvj hJ hm HBE
      go_wp2_with fail
      refine C6.mono ?_
      rintro e w5 ⟨rfl, b5⟩
      have HB5 : Hid (Below w3.heap.size w3 w5) := HB4.out.trans (b5.mono HB4.out.size)
      clear C6 b5 HB4
      go_wp2_with fail
      go_loopw [14] (fun tk wr => ∃ i : Nat, i ≤ 3 ∧ tk = .int .i64 (i : Int) ∧ Below w3.heap.size w3 wr) (fun tk _ => 3 - (intOf tk).toNat)
      case atStart => exact ⟨0, by omega, rfl, HB5.out⟩
      case round =>
        obtain ⟨i, hi3, rfl, BR⟩ := hrel
        clear HB5
        have HBR : Hid (Below w3.heap.size w3 wr) := BR
        clear BR
        by_cases hlt : i < 3
        · have hle : (i : Int) ≤ 2 := by omega
          have i7 : IntKind.i64.wrap ((i : Int) + 1) = (i : Int) + 1 := IntWalk.i64_in _ (by omega)
          have C7 := HPC.out wr g c (i : Int) (HS3.out.old HBR.out) (HBW.out.trans (HBR.out.mono HBW.out.size))
          by_cases hp : ple9 (i : Int) (x : Int) l = 0
          · have hvi : vc9 (i : Int) (x : Int) l = cos9 i x (tal9 l) := by unfold vc9; rw [if_pos hp, Int.toNat_natCast, Int.toNat_natCast]
            rw [hvi, hp] at C7
            have cbi := HCB.out i hlt
            have hji := HJB.out i hlt hp
            have HT := fun W hW W2 hW2 => HTR.out i hlt hp W hW W2 hW2
            obtain ⟨N, hNN⟩ : ∃ N, N = cos9 i x (tal9 l) := ⟨_, rfl⟩
            rw [← hNN] at C7 cbi hji HT
            have HTT : Hid (∀ (W : World), Below w3.heap.size w3 W → ∀ (W2 : World), W2 = W.alloc (.cells #[.slice none 0 0, .int .u64 0, .int .i64 0] 64) →
                Calls Tryz.prog 29 #[.pointer (some ⟨W.heap.size, 0, none⟩), .int .u64 0, .int .i64 (x : Int)] W2 fun e W3 => e = .returned (.int .i64 0) ∧ Below w3.heap.size w3 W3 ∧
                Calls Tryz.prog 34 #[.pointer (some ⟨W.heap.size, 0, none⟩), .int .i64 (i : Int), .bool false, .slice (some ⟨w2.heap.size, 0, none⟩) nx nx, .slice (some ⟨g, 0, none⟩) n c] W3 fun e W4 => e = .returned (.int .i64 0) ∧ Below w3.heap.size w3 W4 ∧
                Calls Tryz.prog 36 #[.pointer (some ⟨W.heap.size, 0, none⟩)] W4 fun e W5 => e = .returned (.int .i64 ((x : Int) + N)) ∧ Below w3.heap.size w3 W5) := HT
            have hnl : ¬ N < J := by omega
            have iwn : IntKind.i64.wrap ((x : Int) + N) = (x : Int) + N := IntWalk.i64_in _ (by omega)
            clear hNN hvi hp HT
            go_wp2_with fail
            refine C7.mono ?_
            rintro e w6 ⟨rfl, b6⟩
            have B6 : Below w3.heap.size w3 w6 := HBR.out.trans (b6.mono HBR.out.size)
            have C8 := HTT.out w6 B6 _ rfl
            clear C7 b6 HTT B6
            go_wp2_with fail
            refine C8.mono ?_
            rintro e w7 ⟨rfl, _, C9⟩
            clear C8
            go_wp2_with fail
            refine C9.mono ?_
            rintro e w8 ⟨rfl, _, C10⟩
            clear C9
            go_wp2_with fail
            refine C10.mono ?_
            rintro e w9 ⟨rfl, B9⟩
            clear C10
            go_wp2_with fail
            go_roundw
            case rel => exact ⟨i + 1, by omega, by go_num, B9⟩
            case measure => simp [intOf]; omega
          · obtain ⟨rfl, hbig⟩ := HPL.out i hlt hp
            have hbi : ¬ (nx : Int) ≤ 65535 := by omega
            generalize vc9 ((0 : Nat) : Int) (x : Int) l = V at *
            obtain ⟨E, hE⟩ : ∃ E, E = ple9 ((0 : Nat) : Int) (x : Int) l := ⟨_, rfl⟩
            rw [← hE] at C7 hp
            have hEb : (E == 0) = false := by rw [beq_eq_false_iff_ne]; exact hp
            clear hE
            go_wp2_with fail
            refine C7.mono ?_
            rintro e w6 ⟨rfl, b6⟩
            have B6 : Below w3.heap.size w3 w6 := HBR.out.trans (b6.mono HBR.out.size)
            clear C7 b6
            go_wp2_with fail
            go_roundw
            case rel => exact ⟨0 + 1, by omega, by go_num, B6⟩
            case measure => simp [intOf]
        · obtain rfl : i = 3 := by omega
          have CO := pown9 l (some ⟨g, 0, none⟩) n c HN wr (HS3.out.old HBR.out)
          have ea : owa9 l = oL9 (tal9 l) := by unfold owa9; rw [if_pos HMM.out]
          have ed : owd9 l = oD9 (tal9 l) := by unfold owd9; rw [if_pos HMM.out]
          rw [ea, ed, HMM.out] at CO
          obtain ⟨c1, c2, _⟩ := own_told9 HMM.out HHS.out.fit
          obtain ⟨n1, n2⟩ := oL9_len (tal9_ct HMM.out HHS.out.fit)
          unfold OnQ at CO
          rw [n1, n2] at CO
          have htks := tks9_own HHS.out.fit HMM.out
          have hb1 : ∀ z ∈ oL9 (tal9 l), -9223372036854775808 ≤ z ∧ z ≤ 9223372036854775807 := fun z hz => by
            have := (errS_zero (errC_zero c1).1).2 z hz
            omega
          have hb2 : ∀ z ∈ oD9 (tal9 l), -9223372036854775808 ≤ z ∧ z ≤ 9223372036854775807 := fun z hz => by
            have := (errS_zero (errC_zero c2).1).2 z hz
            omega
          have HNL : Hid ((oL9 (tal9 l)).length = 286) := n1
          have HND : Hid ((oD9 (tal9 l)).length = 30) := n2
          generalize oL9 (tal9 l) = ZL at *
          generalize oD9 (tal9 l) = ZD at *
          obtain ⟨K1, hK1⟩ : ∃ K, K = tks9 ZL ZD l := ⟨_, rfl⟩
          obtain ⟨K2, hK2⟩ : ∃ K, K = tks9 plnL9 plnD9 l := ⟨_, rfl⟩
          have HT1 : Hid (∀ W la lc da dc, Below w.heap.size w W → SegZ W la ZL → SegZ W da ZD → Calls Tryz.prog 41 #[.slice la 286 lc, .slice da 30 dc, .slice a n cap] W fun e w' => e = .returned (.int .i64 K1) ∧ Below W.heap.size W w') := fun W la lc da dc hb q1 q2 => by
            rw [hK1]
            exact toks9 ZL ZD la da 286 lc 30 dc HNL HND l a n cap HN W (HHS.out.old hb) q1 q2 c1 c2 (by omega) (by omega) (by omega) (by omega) HMM.out
          have HT2 : Hid (∀ W la lc da dc, Below w.heap.size w W → SegZ W la plnL9 → SegZ W da plnD9 → Calls Tryz.prog 41 #[.slice la 288 lc, .slice da 32 dc, .slice a n cap] W fun e w' => e = .returned (.int .i64 K2) ∧ Below W.heap.size W w') := fun W la lc da dc hb q1 q2 => by
            rw [hK2]
            exact toks9 plnL9 plnD9 la da 288 lc 32 dc plnL9_len rfl l a n cap HN W (HHS.out.old hb) q1 q2 pln_ok9.1 pln_ok9.2 (by omega) (by omega) (by omega) (by omega) HMM.out
          have hkk : K1 ≤ K2 := by rw [hK1, hK2]; exact htks
          clear htks hK1 hK2 ea ed n1 n2
          go_wp2_with fail
          refine CO.mono ?_
          rintro e w6 ⟨la, lc, da, dc, rfl, OA, OB, _, b6⟩
          have q1 : SegZ w6 la ZL := own_segZ OA hb1
          have q2 : SegZ w6 da ZD := own_segZ OB hb2
          have HB6 : Hid (Below w.heap.size w w6) := HBW.out.trans ((HBR.out.trans (b6.mono HBR.out.size)).mono HBW.out.size)
          have HQ : Hid (SegZ w6 la ZL ∧ SegZ w6 da ZD) := ⟨q1, q2⟩
          clear CO OA OB q1 q2 b6
          go_wp2_with fail
          refine (pplain9 w6).mono ?_
          rintro e w7 ⟨la2, lc2, da2, rfl, o1, o2, _, b7⟩
          have s1 : SegZ w7 la2 plnL9 := own_segZ o1 plnL9_bd
          have s2 : SegZ w7 (some ⟨da2, 0, none⟩) plnD9 := own_segZ o2 plnD9_bd
          have HB7 : Hid (Below w.heap.size w w7) := HB6.out.trans (b7.mono HB6.out.size)
          have CT1 := HT1.out w7 la lc da dc HB7.out (HQ.out.1.old b7) (HQ.out.2.old b7)
          have HQ2 : Hid (SegZ w7 la2 plnL9 ∧ SegZ w7 (some ⟨da2, 0, none⟩) plnD9) := ⟨s1, s2⟩
          clear o1 o2 s1 s2 b7 HT1 HQ
          go_wp2_with fail
          refine CT1.mono ?_
          rintro e w8 ⟨rfl, b8⟩
          have HB8 : Hid (Below w.heap.size w w8) := HB7.out.trans (b8.mono HB7.out.size)
          have CT2 := HT2.out w8 la2 lc2 (some ⟨da2, 0, none⟩) 32 HB8.out (HQ2.out.1.old b8) (HQ2.out.2.old b8)
          clear CT1 b8 HT2 HQ2
          go_wp2_with fail
          refine CT2.mono ?_
          rintro e w9 ⟨rfl, b9⟩
          have HB9 : Hid (Below w.heap.size w w9) := HB8.out.trans (b9.mono HB8.out.size)
          clear CT2 b9
          go_wp2_with fail
          refine (plives9 w9).mono ?_
          rintro e w10 ⟨rfl, b10⟩
          have B10 : Below w.heap.size w w10 := HB9.out.trans (b10.mono HB9.out.size)
          clear b10
          go_wp2_with fail
          go_ret
          exact ⟨rfl, B10⟩
    · have e1 : ep9 (x : Int) l = mer9 l := by unfold ep9; rw [if_neg (by omega)]
      have e2 : vp9 (x : Int) l = 0 := by unfold vp9; rw [if_pos (.inr hm)]
      have B4 : Below w.heap.size w w4 := HBW.out.trans (HB4.out.mono HBW.out.size)
      have CR := rpck9_all l a n cap HN (x : Int) w4 (HHS.out.old B4) (by omega)
      rw [e1, e2] at CR
      rw [e1, e2]
      obtain ⟨E, hE⟩ : ∃ E, E = mer9 l := ⟨_, rfl⟩
      rw [← hE] at CR hm ⊢
      have hEb : (E == 0) = false := by rw [beq_eq_false_iff_ne]; exact hm
      have HB4' : Hid (Below w.heap.size w w4) := B4
      clear hE e1 e2 HPC HSZ B4
      go_wp2_with fail
      refine CR.mono ?_
      rintro e w5 ⟨rfl, b5⟩
      have B5 : Below w.heap.size w w5 := HB4'.out.trans (b5.mono HB4'.out.size)
      clear CR b5
      go_wp2_with fail
      go_ret
      exact ⟨rfl, B5⟩
  · obtain ⟨x, hx⟩ : ∃ x : Nat, b.tmod 8 = (x : Int) := ⟨(b.tmod 8).toNat, by omega⟩
    have hx8 : x < 8 := by omega
    have hxn : ¬ (x : Int) < 0 := by omega
    clear hr1 hneg
    have HPK : Hid (∀ W g c, SegT W (some ⟨g, 0, none⟩) l → Below w.heap.size w W → Calls Tryz.prog 27 #[.int .i64 (x : Int), .slice (some ⟨g, 0, none⟩) n c] W (RcQ9 W (vp9 (x : Int) l) (ep9 (x : Int) l))) := fun W g c h hb => ppck9_all l _ n c HN (x : Int) W h (HTAB.out.1.old hb) (HTAB.out.2.old hb)
    have HPC : Hid (∀ W g c (k : Int), SegT W (some ⟨g, 0, none⟩) l → Below w.heap.size w W → Calls Tryz.prog 25 #[.int .i64 k, .int .i64 (x : Int), .slice (some ⟨g, 0, none⟩) n c] W (RcQ9 W (vc9 k (x : Int) l) (ple9 k (x : Int) l))) := fun W g c k h hb => pcst9_all l _ n c HN k (x : Int) W h (HTAB.out.1.old hb) (HTAB.out.2.old hb)
    go_enter Tryz.func8, Tryz.ntmps8
    go_wp2_with fail
    refine CF.mono ?_
    rintro e w1 ⟨g, c, rfl, OF, b1⟩
    have hfl : (faceL l).length = n + 2 := by unfold faceL; rw [List.length_append, HN.out]; rfl
    have SF : SegT w1 (some ⟨g, 0, none⟩) (faceL l) := own_segT OF hfl (faceL_fit HHS.out.fit)
    have HSP : Hid (SegT w1 (some ⟨g, 0, none⟩) l) := by
      have := SF.take n
      rwa [show (faceL l).take n = l by unfold faceL; rw [← HN.out]; simp] at this
    have hc : n + 2 ≤ c := (own_factsT OF).1
    have HB1 : Hid (Below w.heap.size w w1) := b1
    clear CF OF hfl SF
    go_wp2_with fail
    refine (HSZ.out w1 b1).mono ?_
    rintro e w2 ⟨rfl, b2⟩
    have HB2 : Hid (Below w1.heap.size w1 w2) := b2
    clear b1 b2
    go_wp2_with fail
    obtain ⟨w3, hw3⟩ : ∃ w3, w3 = w2.alloc (.cells (Array.replicate nx (Value.int .u8 0)) 5) := ⟨_, rfl⟩
    have HW3 : Hid (w2.alloc (.cells (Array.replicate nx (Value.int .u8 0)) 5) = w3) := hw3.symm
    have s3 : w3.heap.size = w2.heap.size + 1 := by rw [hw3]; simp
    have b3 : Below w2.heap.size w2 w3 := by rw [hw3]; exact below_box8 w2 _
    have HB3 : Hid (Below w1.heap.size w1 w3) := HB2.out.trans (b3.mono HB2.out.size)
    have HBW : Hid (Below w.heap.size w w3) := HB1.out.trans (HB3.out.mono HB1.out.size)
    have SD : Seg w3 (some ⟨w2.heap.size, 0, none⟩) (List.replicate nx (0 : Int)) := made_seg9 (by omega) hw3
    have HSD : Hid (Seg w3 (some ⟨w2.heap.size, 0, none⟩) (List.replicate nx (0 : Int))) := SD
    have S3 : SegT w3 (some ⟨g, 0, none⟩) l := HSP.out.old HB3.out
    have HS3 : Hid (SegT w3 (some ⟨g, 0, none⟩) l) := S3
    have CP := HPK.out w3 g c S3 HBW.out
    rw [HW3.out]
    clear SD S3 b3 hw3 HPK HB2 HB3 hmk
    refine CP.mono ?_
    rintro e w4 ⟨rfl, b4⟩
    have HB4 : Hid (Below w3.heap.size w3 w4) := b4
    clear CP b4
    by_cases hm : mer9 l = 0
    · have e1 : ep9 (x : Int) l = 0 := by unfold ep9; rw [if_neg (by omega), hm]
      obtain ⟨j, hj, hpk, hpj, hbest⟩ := pk9_best hx8 hm HHS.out.fit
      have e2 : vp9 (x : Int) l = (j : Int) := by
        unfold vp9
        rw [if_neg (by omega), Int.toNat_natCast, hpk]
      rw [e1, e2]
      have hvj : vc9 (j : Int) (x : Int) l = cos9 j x (tal9 l) := by unfold vc9; rw [if_pos hpj, Int.toNat_natCast, Int.toNat_natCast]
      have C6 := HPC.out w4 g c (j : Int) (HS3.out.old HB4.out) (HBW.out.trans (HB4.out.mono HBW.out.size))
      rw [hvj, hpj] at C6
      have HTR : Hid (TrK9 w3 x nx l g n c w2.heap.size) := trK9 w3 x nx hx8 l g n c w2.heap.size HN HS3.out HSD.out hm HNX.out (HTAB.out.1.old HBW.out) (HTAB.out.2.old HBW.out) (by have := HBW.out.size; omega) (by omega)
      have HBE : Hid (∀ i : Nat, i < 3 → ple9 (i : Int) (x : Int) l = 0 → cos9 j x (tal9 l) ≤ cos9 i x (tal9 l)) := hbest
      have HCB : Hid (∀ i : Nat, i < 3 → 0 ≤ cos9 i x (tal9 l) ∧ cos9 i x (tal9 l) ≤ 200000000) := fun i hi => ⟨(cos9_bd (tal9_ct hm HHS.out.fit)).1, cos9_sm9 hi hm HHS.out.fit⟩
      have HPL : Hid (∀ i : Nat, i < 3 → ple9 (i : Int) (x : Int) l ≠ 0 → i = 0 ∧ 65535 < nx) := fun i hi hp => by
        rw [ple9_in' hx8 hi hm, tal9_size hm HHS.out.fit, HNX.out] at hp
        have hl6 := (mer9_zero hm).1
        rw [HN.out] at hl6
        have hq : mst9 i < (nx : Int) := by
          by_cases q : mst9 i < (nx : Int)
          · exact q
          · rw [if_neg q] at hp; exact absurd rfl hp
        unfold mst9 at hq
        split at hq
        · exact ⟨by assumption, by omega⟩
        · omega
      have HMM : Hid (mer9 l = 0) := hm
      have cbj := HCB.out j hj
      have HJB : Hid (∀ i : Nat, i < 3 → ple9 (i : Int) (x : Int) l = 0 → cos9 j x (tal9 l) ≤ cos9 i x (tal9 l)) := hbest
      obtain ⟨J, hJ⟩ : ∃ J, J = cos9 j x (tal9 l) := ⟨_, rfl⟩
      rw [← hJ] at C6 HBE cbj HJB
      clear e1 e2 hpk hpj hbest hvj hJ hm HBE
      go_wp2_with fail
      refine C6.mono ?_
      rintro e w5 ⟨rfl, b5⟩
      have HB5 : Hid (Below w3.heap.size w3 w5) := HB4.out.trans (b5.mono HB4.out.size)
      clear C6 b5 HB4
      go_wp2_with fail
      go_loopw [14] (fun tk wr => ∃ i : Nat, i ≤ 3 ∧ tk = .int .i64 (i : Int) ∧ Below w3.heap.size w3 wr) (fun tk _ => 3 - (intOf tk).toNat)
      case atStart => exact ⟨0, by omega, rfl, HB5.out⟩
      case round =>
        obtain ⟨i, hi3, rfl, BR⟩ := hrel
        clear HB5
        have HBR : Hid (Below w3.heap.size w3 wr) := BR
        clear BR
        by_cases hlt : i < 3
        · have hle : (i : Int) ≤ 2 := by omega
          have i7 : IntKind.i64.wrap ((i : Int) + 1) = (i : Int) + 1 := IntWalk.i64_in _ (by omega)
          have C7 := HPC.out wr g c (i : Int) (HS3.out.old HBR.out) (HBW.out.trans (HBR.out.mono HBW.out.size))
          by_cases hp : ple9 (i : Int) (x : Int) l = 0
          · have hvi : vc9 (i : Int) (x : Int) l = cos9 i x (tal9 l) := by unfold vc9; rw [if_pos hp, Int.toNat_natCast, Int.toNat_natCast]
            rw [hvi, hp] at C7
            have cbi := HCB.out i hlt
            have hji := HJB.out i hlt hp
            have HT := fun W hW W2 hW2 => HTR.out i hlt hp W hW W2 hW2
            obtain ⟨N, hNN⟩ : ∃ N, N = cos9 i x (tal9 l) := ⟨_, rfl⟩
            rw [← hNN] at C7 cbi hji HT
            have HTT : Hid (∀ (W : World), Below w3.heap.size w3 W → ∀ (W2 : World), W2 = W.alloc (.cells #[.slice none 0 0, .int .u64 0, .int .i64 0] 64) →
                Calls Tryz.prog 29 #[.pointer (some ⟨W.heap.size, 0, none⟩), .int .u64 0, .int .i64 (x : Int)] W2 fun e W3 => e = .returned (.int .i64 0) ∧ Below w3.heap.size w3 W3 ∧
                Calls Tryz.prog 34 #[.pointer (some ⟨W.heap.size, 0, none⟩), .int .i64 (i : Int), .bool false, .slice (some ⟨w2.heap.size, 0, none⟩) nx nx, .slice (some ⟨g, 0, none⟩) n c] W3 fun e W4 => e = .returned (.int .i64 0) ∧ Below w3.heap.size w3 W4 ∧
                Calls Tryz.prog 36 #[.pointer (some ⟨W.heap.size, 0, none⟩)] W4 fun e W5 => e = .returned (.int .i64 ((x : Int) + N)) ∧ Below w3.heap.size w3 W5) := HT
            have hnl : ¬ N < J := by omega
            have iwn : IntKind.i64.wrap ((x : Int) + N) = (x : Int) + N := IntWalk.i64_in _ (by omega)
            clear hNN hvi hp HT
            go_wp2_with fail
            refine C7.mono ?_
            rintro e w6 ⟨rfl, b6⟩
            have B6 : Below w3.heap.size w3 w6 := HBR.out.trans (b6.mono HBR.out.size)
            have C8 := HTT.out w6 B6 _ rfl
            clear C7 b6 HTT B6
            go_wp2_with fail
            refine C8.mono ?_
            rintro e w7 ⟨rfl, _, C9⟩
            clear C8
            go_wp2_with fail
            refine C9.mono ?_
            rintro e w8 ⟨rfl, _, C10⟩
            clear C9
            go_wp2_with fail
            refine C10.mono ?_
            rintro e w9 ⟨rfl, B9⟩
            clear C10
            go_wp2_with fail
            go_roundw
            case rel => exact ⟨i + 1, by omega, by go_num, B9⟩
            case measure => simp [intOf]; omega
          · obtain ⟨rfl, hbig⟩ := HPL.out i hlt hp
            have hbi : ¬ (nx : Int) ≤ 65535 := by omega
            generalize vc9 ((0 : Nat) : Int) (x : Int) l = V at *
            obtain ⟨E, hE⟩ : ∃ E, E = ple9 ((0 : Nat) : Int) (x : Int) l := ⟨_, rfl⟩
            rw [← hE] at C7 hp
            have hEb : (E == 0) = false := by rw [beq_eq_false_iff_ne]; exact hp
            clear hE
            go_wp2_with fail
            refine C7.mono ?_
            rintro e w6 ⟨rfl, b6⟩
            have B6 : Below w3.heap.size w3 w6 := HBR.out.trans (b6.mono HBR.out.size)
            clear C7 b6
            go_wp2_with fail
            go_roundw
            case rel => exact ⟨0 + 1, by omega, by go_num, B6⟩
            case measure => simp [intOf]
        · obtain rfl : i = 3 := by omega
          have CO := pown9 l (some ⟨g, 0, none⟩) n c HN wr (HS3.out.old HBR.out)
          have ea : owa9 l = oL9 (tal9 l) := by unfold owa9; rw [if_pos HMM.out]
          have ed : owd9 l = oD9 (tal9 l) := by unfold owd9; rw [if_pos HMM.out]
          rw [ea, ed, HMM.out] at CO
          obtain ⟨c1, c2, _⟩ := own_told9 HMM.out HHS.out.fit
          obtain ⟨n1, n2⟩ := oL9_len (tal9_ct HMM.out HHS.out.fit)
          unfold OnQ at CO
          rw [n1, n2] at CO
          have htks := tks9_own HHS.out.fit HMM.out
          have hb1 : ∀ z ∈ oL9 (tal9 l), -9223372036854775808 ≤ z ∧ z ≤ 9223372036854775807 := fun z hz => by
            have := (errS_zero (errC_zero c1).1).2 z hz
            omega
          have hb2 : ∀ z ∈ oD9 (tal9 l), -9223372036854775808 ≤ z ∧ z ≤ 9223372036854775807 := fun z hz => by
            have := (errS_zero (errC_zero c2).1).2 z hz
            omega
          have HNL : Hid ((oL9 (tal9 l)).length = 286) := n1
          have HND : Hid ((oD9 (tal9 l)).length = 30) := n2
          generalize oL9 (tal9 l) = ZL at *
          generalize oD9 (tal9 l) = ZD at *
          obtain ⟨K1, hK1⟩ : ∃ K, K = tks9 ZL ZD l := ⟨_, rfl⟩
          obtain ⟨K2, hK2⟩ : ∃ K, K = tks9 plnL9 plnD9 l := ⟨_, rfl⟩
          have HT1 : Hid (∀ W la lc da dc, Below w.heap.size w W → SegZ W la ZL → SegZ W da ZD → Calls Tryz.prog 41 #[.slice la 286 lc, .slice da 30 dc, .slice a n cap] W fun e w' => e = .returned (.int .i64 K1) ∧ Below W.heap.size W w') := fun W la lc da dc hb q1 q2 => by
            rw [hK1]
            exact toks9 ZL ZD la da 286 lc 30 dc HNL HND l a n cap HN W (HHS.out.old hb) q1 q2 c1 c2 (by omega) (by omega) (by omega) (by omega) HMM.out
          have HT2 : Hid (∀ W la lc da dc, Below w.heap.size w W → SegZ W la plnL9 → SegZ W da plnD9 → Calls Tryz.prog 41 #[.slice la 288 lc, .slice da 32 dc, .slice a n cap] W fun e w' => e = .returned (.int .i64 K2) ∧ Below W.heap.size W w') := fun W la lc da dc hb q1 q2 => by
            rw [hK2]
            exact toks9 plnL9 plnD9 la da 288 lc 32 dc plnL9_len rfl l a n cap HN W (HHS.out.old hb) q1 q2 pln_ok9.1 pln_ok9.2 (by omega) (by omega) (by omega) (by omega) HMM.out
          have hkk : K1 ≤ K2 := by rw [hK1, hK2]; exact htks
          clear htks hK1 hK2 ea ed n1 n2
          go_wp2_with fail
          refine CO.mono ?_
          rintro e w6 ⟨la, lc, da, dc, rfl, OA, OB, _, b6⟩
          have q1 : SegZ w6 la ZL := own_segZ OA hb1
          have q2 : SegZ w6 da ZD := own_segZ OB hb2
          have HB6 : Hid (Below w.heap.size w w6) := HBW.out.trans ((HBR.out.trans (b6.mono HBR.out.size)).mono HBW.out.size)
          have HQ : Hid (SegZ w6 la ZL ∧ SegZ w6 da ZD) := ⟨q1, q2⟩
          clear CO OA OB q1 q2 b6
          go_wp2_with fail
          refine (pplain9 w6).mono ?_
          rintro e w7 ⟨la2, lc2, da2, rfl, o1, o2, _, b7⟩
          have s1 : SegZ w7 la2 plnL9 := own_segZ o1 plnL9_bd
          have s2 : SegZ w7 (some ⟨da2, 0, none⟩) plnD9 := own_segZ o2 plnD9_bd
          have HB7 : Hid (Below w.heap.size w w7) := HB6.out.trans (b7.mono HB6.out.size)
          have CT1 := HT1.out w7 la lc da dc HB7.out (HQ.out.1.old b7) (HQ.out.2.old b7)
          have HQ2 : Hid (SegZ w7 la2 plnL9 ∧ SegZ w7 (some ⟨da2, 0, none⟩) plnD9) := ⟨s1, s2⟩
          clear o1 o2 s1 s2 b7 HT1 HQ
          go_wp2_with fail
          refine CT1.mono ?_
          rintro e w8 ⟨rfl, b8⟩
          have HB8 : Hid (Below w.heap.size w w8) := HB7.out.trans (b8.mono HB7.out.size)
          have CT2 := HT2.out w8 la2 lc2 (some ⟨da2, 0, none⟩) 32 HB8.out (HQ2.out.1.old b8) (HQ2.out.2.old b8)
          clear CT1 b8 HT2 HQ2
          go_wp2_with fail
          refine CT2.mono ?_
          rintro e w9 ⟨rfl, b9⟩
          have HB9 : Hid (Below w.heap.size w w9) := HB8.out.trans (b9.mono HB8.out.size)
          clear CT2 b9
          go_wp2_with fail
          refine (plives9 w9).mono ?_
          rintro e w10 ⟨rfl, b10⟩
          have B10 : Below w.heap.size w w10 := HB9.out.trans (b10.mono HB9.out.size)
          clear b10
          go_wp2_with fail
          go_ret
          exact ⟨rfl, B10⟩
    · have e1 : ep9 (x : Int) l = mer9 l := by unfold ep9; rw [if_neg (by omega)]
      have e2 : vp9 (x : Int) l = 0 := by unfold vp9; rw [if_pos (.inr hm)]
      have B4 : Below w.heap.size w w4 := HBW.out.trans (HB4.out.mono HBW.out.size)
      have CR := rpck9_all l a n cap HN (x : Int) w4 (HHS.out.old B4) (by omega)
      rw [e1, e2] at CR
      rw [e1, e2]
      obtain ⟨E, hE⟩ : ∃ E, E = mer9 l := ⟨_, rfl⟩
      rw [← hE] at CR hm ⊢
      have hEb : (E == 0) = false := by rw [beq_eq_false_iff_ne]; exact hm
      have HB4' : Hid (Below w.heap.size w w4) := B4
      clear hE e1 e2 HPC HSZ B4
      go_wp2_with fail
      refine CR.mono ?_
      rintro e w5 ⟨rfl, b5⟩
      have B5 : Below w.heap.size w w5 := HB4'.out.trans (b5.mono HB4'.out.size)
      clear CR b5
      go_wp2_with fail
      go_ret
      exact ⟨rfl, B5⟩
end Go.Proofs.YtcifalelnfeggaaGreatDoor

namespace Go.Proofs.YtcifalelnfeggaaGreatDoor
open Go.ChangeShapes Go.WideShapes Go.ChangeAt Go.RowKit
set_option linter.unusedVariables false

/-- A slice of whole numbers that came in: what lies there, and how it was read. -/
theorem open_seg {H : Type} {enc : TypeId × Value → H} {P : Program} {W : World} {T e : TypeId} {k : IntKind} {M : Int} {a : Option Addr} {len cap : Nat} {d : DataW H} {p : List MemPlace}
    (hT : P.underlying T = some (.slice e)) (he : P.underlying e = some (.int k)) (hc : P.cellsOf e = 1) (hM : 0 ≤ M) (hwf : ∀ n, (Lit.int k n).wf = true → 0 ≤ n ∧ n ≤ M)
    (h : DataW.Trod enc P W 0 (fun _ => true) true T (.slice a len cap) d p) :
    ∃ zs : List Int, zs.length = len ∧ SegK k M W a zs ∧ len ≤ cap ∧ (a = none → cap = 0) ∧ ((d = .nil ∧ len = 0) ∨ ∃ elems spare, d = .slice elems spare ∧ elems.length = len) := by
  obtain ⟨fuel, hf⟩ := h
  rcases open_ints hT he hc hf with ⟨hcs, hx⟩ | ⟨x, l, c, zs, hcs, _, hl, hm, hz, hx, hcell, hwz⟩
  · simp [Value.cells] at hcs
    obtain ⟨rfl, rfl, rfl⟩ := hcs
    simp only [Prod.mk.injEq] at hx
    exact ⟨[], rfl, SegK.nil hM _ _, Nat.le_refl _, fun _ => rfl, Or.inl ⟨hx.1, rfl⟩⟩
  · simp [Value.cells] at hcs
    obtain ⟨rfl, rfl, rfl⟩ := hcs
    simp only [Prod.mk.injEq] at hx
    simp only [if_true] at hz
    refine ⟨zs.take len, by simp; omega, ⟨fun i hi => ?_, hM, getD_bd hM ?_⟩, hl, (by intro h; cases h), Or.inr ⟨_, _, hx.1, by simp [ChangeShapes.lits]; omega⟩⟩
    · simp at hi
      have hi2 : i < len := by omega
      have h1 := hcell i (by omega)
      obtain ⟨b, off, spot⟩ := x
      have hs : spot = none := by
        have := hcell 0 (by omega)
        simpa [Addr.add] using World.cell?_spot this
      subst hs
      refine ⟨b, off, rfl, ?_⟩
      have hadd : (⟨b, off, none⟩ : Addr).add i = ⟨b, off + i, none⟩ := by unfold Addr.add; split <;> simp_all
      rw [hadd] at h1
      rw [h1]
      simp [List.getD, hi2]
    · intro z hz1
      exact hwf z (hwz z (List.mem_of_mem_take hz1))
end Go.Proofs.YtcifalelnfeggaaGreatDoor

namespace Go.Proofs.YtcifalelnfeggaaGreatDoor
open Go.ChangeShapes Go.WideShapes Go.ChangeAt Go.RowKit Go.Deep
set_option linter.unusedVariables false
set_option maxRecDepth 100000

theorem cells_tok7 : Tryz.prog.cellsOf 98 = 3 := by kernel_rfl
theorem cells_int7 : Tryz.prog.cellsOf 3 = 1 := by kernel_rfl
theorem cells_u87 : Tryz.prog.cellsOf 5 = 1 := by kernel_rfl
/-- One token, off its three cells. -/
theorem one_tok {H : Type} {enc : TypeId × Value → H} {W : World} {n : Nat} {cs : List Value} {x : DataW H × List MemPlace} (h : DataW.trod enc Tryz.prog W 0 (fun _ => true) true n 98 cs = some x) (hl : cs.length = 3) :
    ∃ t : Tok7, cs = [.int .u8 t.lit, .int .i64 t.len, .int .i64 t.dist] ∧ t.Fit := by
  obtain ⟨xs, k, _, _, _, hxl, hf⟩ := DataW.trod_struct Tryz.underlying98 h
  match cs, hl with
  | [v0, v1, v2], _ =>
    match xs, hxl with
    | [y0, y1, y2], _ =>
      have g0 := hf 0 _ rfl
      have g1 := hf 1 _ rfl
      have g2 := hf 2 _ rfl
      simp [cells_u87, cells_int7] at g0 g1 g2
      obtain ⟨V, e0, _, w0⟩ := DataW.trod_int Tryz.underlying5 g0
      obtain ⟨N, e1, _, w1⟩ := DataW.trod_int Tryz.underlying3 g1
      obtain ⟨M, e2, _, w2⟩ := DataW.trod_int Tryz.underlying3 g2
      simp at e0 e1 e2
      subst e0 e1 e2
      exact ⟨⟨V, N, M⟩, rfl, bounds_u8 w0, bounds_i64 w1, bounds_i64 w2⟩
theorem open_toks {H : Type} {enc : TypeId × Value → H} {W : World} {a : Option Addr} {len cap : Nat} {d : DataW H} {p : List MemPlace}
    (h : DataW.Trod enc Tryz.prog W 0 (fun _ => true) true 35 (.slice a len cap) d p) :
    ∃ l : List Tok7, l.length = len ∧ SegT W a l ∧ ((d = .nil ∧ len = 0) ∨ ∃ elems spare, d = .slice elems spare ∧ elems.length = len) := by
  haveI : Inhabited Tok7 := ⟨tk0⟩
  obtain ⟨fuel, hf⟩ := h
  rcases open_slice Tryz.underlying35 hf with ⟨hcs, hx⟩ | ⟨x, l, c, m, n, D, Pl, hcs, _, hl, hm, hmm, hx, hat⟩
  · simp [Value.cells] at hcs
    obtain ⟨rfl, rfl, rfl⟩ := hcs
    simp only [Prod.mk.injEq] at hx
    exact ⟨[], rfl, SegT.nil _ _, Or.inl ⟨hx.1, rfl⟩⟩
  · simp [Value.cells] at hcs
    obtain ⟨rfl, rfl, rfl⟩ := hcs
    simp only [Prod.mk.injEq] at hx
    simp only [if_true] at hmm
    subst hmm
    rw [cells_tok7] at hat
    have key : ∀ i, i < m → ∃ q : Tok7, W.cell? (x.add (i * 3)) = some (.int .u8 q.lit) ∧ W.cell? (x.add (i * 3 + 1)) = some (.int .i64 q.len) ∧ W.cell? (x.add (i * 3 + 2)) = some (.int .i64 q.dist) ∧ q.Fit := by
      intro i hi
      obtain ⟨cs', h1, h2⟩ := hat i hi
      obtain ⟨_, hlen, hcell⟩ := World.cells?_some h1
      obtain ⟨t, rfl, hfit⟩ := one_tok h2 hlen
      have e0 := hcell 0 (by omega)
      have e1 := hcell 1 (by omega)
      have e2 := hcell 2 (by omega)
      rw [add_add] at e0 e1 e2
      exact ⟨t, by simpa using e0, by simpa using e1, by simpa using e2, hfit⟩
    obtain ⟨q, hq⟩ := choose_lt key
    refine ⟨(List.range len).map q, by simp, ⟨fun i hi => ?_, fun t ht => ?_⟩, Or.inr ⟨_, _, hx.1, by simp⟩⟩
    · have hi2 : i < len := by simpa using hi
      obtain ⟨h1, h2, h3, _⟩ := hq i (by omega)
      obtain ⟨b, off, spot⟩ := x
      have hs : spot = none := by
        obtain ⟨h5, _⟩ := hq 0 (by omega)
        simpa [Addr.add] using World.cell?_spot h5
      subst hs
      have hadd : ∀ j, (⟨b, off, none⟩ : Addr).add j = ⟨b, off + j, none⟩ := by intro j; unfold Addr.add; split <;> simp_all
      rw [hadd] at h1 h2 h3
      have hg : ((List.range len).map q).getD i tk0 = q i := by simp [List.getD, hi2]
      rw [hg]
      exact ⟨b, off, rfl, h1, by rw [Nat.add_assoc]; exact h2, by rw [Nat.add_assoc]; exact h3⟩
    · obtain ⟨i, hi, rfl⟩ := List.mem_map.1 ht
      exact (hq i (by have := List.mem_range.1 hi; omega)).2.2.2
end Go.Proofs.YtcifalelnfeggaaGreatDoor
