import Derived.Test.YtcifalelnfeggaaGreatDoorPt
import Derived.Test.YtcifalelnfeggaaGreatDoorPo
import Derived.Test.YtcifalelnfeggaaGreatDoorPq
namespace Go.Proofs.YtcifalelnfeggaaGreatDoor
open Go.RowKit
set_option linter.unusedVariables false

/-! BlockTrue's tokens; the kind that is picked. -/
theorem sum_snoc9 (f : Tok7 → Int) (l : List Tok7) (t : Tok7) : ((l ++ [t]).map f).sum = (l.map f).sum + f t := by simp
set_option maxRecDepth 100000 in
set_option maxHeartbeats 8000000 in
theorem toks9 (ZL ZD : List Int) (la da : Option Addr) (nl lc nd dc : Nat) (hnl : Hid (ZL.length = nl)) (hnd : Hid (ZD.length = nd)) (l : List Tok7) (a : Option Addr) (n cap : Nat) (hn : Hid (l.length = n)) (w : World) (hs : SegT w a l) (sL : SegZ w la ZL) (sD : SegZ w da ZD) (hcL : errC ZL = 0) (hcD : errC ZD = 0) (h1 : 286 ≤ nl) (h2 : nl ≤ 1000) (h3 : 30 ≤ nd) (h4 : nd ≤ 1000) (hm : mer9 l = 0) :
    Calls Tryz.prog 41 #[.slice la nl lc, .slice da nd dc, .slice a n cap] w fun e w' => e = .returned (.int .i64 (tks9 ZL ZD l)) ∧ Below w.heap.size w w' := by
  obtain ⟨hn6, hmay⟩ := mer9_zero hm
  rw [hn.out] at hn6
  have CC := rcheck_any la ZL nl lc hnl w sL (by omega)
  rw [hcL] at CC
  have hnl2 := hnl.out
  have hnd2 := hnd.out
  obtain ⟨gl, ol, rfl, c256⟩ := sL.at_ 256 (by omega)
  obtain ⟨gd, od, rfl, _⟩ := sD.at_ 0 (by omega)
  have HS : Hid (∀ W, Below w.heap.size w W → SegT W a l ∧ SegZ W (some ⟨gl, ol, none⟩) ZL ∧ SegZ W (some ⟨gd, od, none⟩) ZD) := fun W h => ⟨hs.old h, sL.old h, sD.old h⟩
  have HFT : Hid (∀ t ∈ l, t.Fit) := hs.fit
  have HM : Hid (∀ t ∈ l, may7 t) := hmay
  have HSM : Hid (∀ i, 0 ≤ ((l.take i).map (tk9 ZL ZD)).sum ∧ ((l.take i).map (tk9 ZL ZD)).sum ≤ 1966080) := fun i => by
    have := tkm9_bd hcL hcD (l.take i)
    have h2 : (l.take i).length ≤ 65536 := by rw [List.length_take, hn.out]; omega
    omega
  have g : ∀ (Z : List Int), errC Z = 0 → ∀ i, 0 ≤ Z.getD i 0 ∧ Z.getD i 0 ≤ 15 := fun Z h i => by
    have hb := (errS_zero (errC_zero h).1).2
    by_cases hi : i < Z.length
    · refine hb _ ?_
      simp only [List.getD, List.getElem?_eq_getElem hi, Option.getD_some]
      exact List.getElem_mem hi
    · simp only [List.getD, List.getElem?_eq_none (show Z.length ≤ i by omega), Option.getD_none]; omega
  have HBL : Hid (∀ i, 0 ≤ ZL.getD i 0 ∧ ZL.getD i 0 ≤ 15) := g ZL hcL
  have HBD : Hid (∀ i, 0 ≤ ZD.getD i 0 ∧ ZD.getD i 0 ≤ 15) := g ZD hcD
  have HT0 : Hid (tks9 ZL ZD l = ZL.getD 256 0 + (l.map (tk9 ZL ZD)).sum) := rfl
  have b256 := HBL.out 256
  obtain ⟨z, hz⟩ : ∃ z, z = ZL.getD 256 0 := ⟨_, rfl⟩
  have HZ : Hid (ZL.getD 256 0 = z) := hz.symm
  rw [← hz] at c256 b256
  clear hs sL sD hcL hcD hmay hm g hz hnl2 hnd2
  go_enter Tryz.func41, Tryz.ntmps41
  go_wp2_with fail
  refine CC.mono ?_
  rintro e w1 ⟨rfl, hw1⟩
  rw [hw1]
  clear hw1 CC w1
  go_wp2_with fail
  go_loopw [7, 36] (fun tn ti wr => ∃ i : Nat, i ≤ n ∧ ti = .int .i64 (i : Int) ∧ tn = .int .i64 (z + ((l.take i).map (tk9 ZL ZD)).sum) ∧ Below w.heap.size w wr) (fun _ ti _ => n - (intOf ti).toNat)
  case atStart => exact ⟨0, by omega, rfl, by simp, Below.refl _ _⟩
  case round =>
    obtain ⟨i, hin, rfl, rfl, BR⟩ := hrel
    clear c256
    have hsm := HSM.out i
    by_cases hlt : i < n
    · have hlti : (i : Int) < (n : Int) := by omega
      have hil : i < l.length := by rw [hn.out]; exact hlt
      obtain ⟨ST, SL, SD⟩ := HS.out wr BR
      obtain ⟨gg, o, rfl, tk⟩ := ST.at_ i hil
      have hmem : l.getD i tk0 ∈ l := by simp only [List.getD, List.getElem?_eq_getElem hil, Option.getD_some]; exact List.getElem_mem hil
      have hfit := HFT.out _ hmem
      have hmay := HM.out _ hmem
      have HTK : Hid (((l.take (i + 1)).map (tk9 ZL ZD)).sum = ((l.take i).map (tk9 ZL ZD)).sum + tk9 ZL ZD (l.getD i tk0)) := by show _ = _; rw [takeT7 hil, sum_snoc9]
      generalize l.getD i tk0 = t at *
      generalize ((l.take i).map (tk9 ZL ZD)).sum = Q at *
      have HTB : Hid (tk9 ZL ZD t = if t.len = 0 then ZL.getD t.lit.toNat 0 else ZL.getD (257 + lix9 t.len) 0 + ZD.getD (dix9 t.dist) 0) := rfl
      have hfm := fit_may9 hfit hmay
      obtain ⟨lit, len, dist⟩ := t
      obtain ⟨x0, x1, x2⟩ := tk
      simp only at x0 x1 x2 hfm HTB
      have hlb : 0 ≤ lit ∧ lit ≤ 255 := hfit.1
      have i7 : IntKind.i64.wrap ((i : Int) + 1) = (i : Int) + 1 := IntWalk.i64_in _ (by omega)
      have HBR : Hid (Below w.heap.size w wr) := BR
      clear hfit hmay hmem ST SL SD BR
      have b3 := below_box8 wr (.cells #[.int .u8 lit, .int .i64 len, .int .i64 dist] 98)
      have HB4 : Hid (Below w.heap.size w (wr.alloc (.cells #[.int .u8 lit, .int .i64 len, .int .i64 dist] 98))) := HBR.out.trans (b3.mono HBR.out.size)
      have y0 := heap_alloc_new wr (.cells #[.int .u8 lit, .int .i64 len, .int .i64 dist] 98)
      by_cases hz : len = 0
      · rw [if_pos hz] at HTB
        subst hz
        obtain ⟨lt, rfl⟩ : ∃ lt : Nat, lit = (lt : Int) := ⟨lit.toNat, by omega⟩
        rw [Int.toNat_natCast] at HTB
        obtain ⟨g2, o2, e2, cl⟩ := (HS.out _ HB4.out).2.1.at_ lt (by have := hnl.out; omega)
        cases e2
        have bl := HBL.out lt
        obtain ⟨zz, hzz⟩ : ∃ zz, zz = ZL.getD lt 0 := ⟨_, rfl⟩
        rw [← hzz] at cl bl HTB
        have HNX : Hid (((l.take (i + 1)).map (tk9 ZL ZD)).sum = Q + zz) := by show _ = _; rw [HTK.out, HTB.out]
        have iw : IntKind.i64.wrap (z + Q + zz) = z + Q + zz := IntWalk.i64_in _ (by omega)
        have hltn : (lt : Int) < (nl : Int) := by omega
        clear HTK HTB hfm b3 hzz
        go_wp2_with fail
        go_roundw
        case rel => exact ⟨i + 1, by omega, by go_num, by rw [HNX.out]; congr 1; omega, HB4.out⟩
        case measure => simp [intOf]; omega
      · rw [if_neg hz] at HTB
        obtain ⟨k2, k3, k4, k5, k6, klit⟩ := hfm.2.2.resolve_left (fun q => hz q.1)
        clear klit k2 hfm b3
        obtain ⟨s0, _⟩ := lspec9 k3
        obtain ⟨r0, _⟩ := dspec9 k5
        have CLS := rlsy9_is len k3 k4
        have CDS := rdsy9_is dist k5 k6
        obtain ⟨p, hp⟩ : ∃ p, p = 257 + lix9 len := ⟨_, rfl⟩
        obtain ⟨q, hq⟩ : ∃ q, q = dix9 dist := ⟨_, rfl⟩
        have hpi : 257 + (lix9 len : Int) = (p : Int) := by omega
        have hpb : p < 286 ∧ q < 30 := by omega
        rw [← hp] at HTB
        rw [← hq] at HTB CDS
        simp only [hpi] at CLS
        generalize lnS9.getD (lix9 len * 2 + 1) 0 = V1 at CLS
        generalize len - lnS9.getD (lix9 len * 2) 0 = V2 at CLS
        generalize dsS9.getD (q * 2 + 1) 0 = V3 at CDS
        generalize dist - dsS9.getD (q * 2) 0 = V4 at CDS
        have HCLS : Hid (∀ W, Calls Tryz.prog 10 #[.int .i64 len] W fun e w' => e = .returned (.tuple #[.int .i64 (p : Int), .int .i64 V1, .int .i64 V2, .int .i64 0]) ∧ Below W.heap.size W w') := CLS
        have HCDS : Hid (∀ W, Calls Tryz.prog 12 #[.int .i64 dist] W fun e w' => e = .returned (.tuple #[.int .i64 (q : Int), .int .i64 V3, .int .i64 V4, .int .i64 0]) ∧ Below W.heap.size W w') := CDS
        clear CLS CDS hp hq hpi s0 r0
        go_wp2_with fail
        generalize wr.alloc (.cells #[.int .u8 lit, .int .i64 len, .int .i64 dist] 98) = wa at *
        refine (HCLS.out wa).mono ?_
        rintro e w3 ⟨rfl, b3⟩
        have y3 : w3.heap[wr.heap.size]? = some (.cells #[.int .u8 lit, .int .i64 len, .int .i64 dist] 98 (0, 0)) := (b3.block wr.heap.size (Array.getElem?_eq_some_iff.1 y0).1).trans y0
        have c2 : w3.cell? ⟨wr.heap.size, 2, none⟩ = some (.int .i64 dist) := (cell_of_row w3 _ 2 _ _ _ y3).trans rfl
        have HB5 : Hid (Below w.heap.size w w3) := HB4.out.trans (b3.mono HB4.out.size)
        clear y0 y3 b3 x0 x1 x2 HCLS
        go_wp2_with fail
        refine (HCDS.out w3).mono ?_
        rintro e w4 ⟨rfl, b4⟩
        have HB6 : Hid (Below w.heap.size w w4) := HB5.out.trans (b4.mono HB5.out.size)
        obtain ⟨g2, o2, e2, cl⟩ := (HS.out _ HB6.out).2.1.at_ p (by have := hnl.out; omega)
        cases e2
        obtain ⟨g3, o3, e3, cd⟩ := (HS.out _ HB6.out).2.2.at_ q (by have := hnd.out; omega)
        cases e3
        have bl := HBL.out p
        have bd := HBD.out q
        obtain ⟨z1, hz1⟩ : ∃ zz, zz = ZL.getD p 0 := ⟨_, rfl⟩
        obtain ⟨z2, hz2⟩ : ∃ zz, zz = ZD.getD q 0 := ⟨_, rfl⟩
        rw [← hz1] at cl bl HTB
        rw [← hz2] at cd bd HTB
        have HNX : Hid (((l.take (i + 1)).map (tk9 ZL ZD)).sum = Q + (z1 + z2)) := by show _ = _; rw [HTK.out, HTB.out]
        have iw : IntKind.i64.wrap (z1 + z2) = z1 + z2 := IntWalk.i64_in _ (by omega)
        have iw2 : IntKind.i64.wrap (z + Q + (z1 + z2)) = z + Q + (z1 + z2) := IntWalk.i64_in _ (by omega)
        clear HTK HTB hz1 hz2 b4 c2 HCDS
        go_wp2_with fail
        go_region
        go_wp2_with fail
        go_roundw
        case rel => exact ⟨i + 1, by omega, by go_num, by rw [HNX.out]; congr 1; omega, HB6.out.drew⟩
        case measure => simp [intOf]; omega
    · obtain rfl : i = n := by omega
      have hta : l.take i = l := List.take_of_length_le (by rw [hn.out]; exact Nat.le_refl _)
      rw [hta] at hsm ⊢
      go_wp2_with fail
      go_ret
      refine ⟨?_, BR⟩
      rw [HT0.out, HZ.out]
      rfl
theorem pk9_inv {x : Nat} {X : List Int} (hc : Ct9 X) : ∀ i, (pk9 x X i = (0, 9223372036854775807) ∧ ∀ j, j < i → mst9 j < X.getD 0 0) ∨ (∃ j, j < i ∧ ¬ mst9 j < X.getD 0 0 ∧ pk9 x X i = ((j : Int), cos9 j x X) ∧ ∀ j', j' < i → ¬ mst9 j' < X.getD 0 0 → cos9 j x X ≤ cos9 j' x X)
  | 0 => .inl ⟨rfl, fun j h => by omega⟩
  | i + 1 => by
    have ih := pk9_inv (x := x) hc i
    have hb := cos9_bd (k := i) (x := x) hc
    rw [pk9]
    by_cases h : mst9 i < X.getD 0 0
    · rw [if_pos h]
      rcases ih with ⟨h1, h2⟩ | ⟨j, h1, h2, h3, h4⟩
      · exact .inl ⟨h1, fun j hj => by
          rcases Nat.lt_or_eq_of_le (Nat.le_of_lt_succ hj) with q | q
          · exact h2 j q
          · rw [q]; exact h⟩
      · exact .inr ⟨j, by omega, h2, h3, fun j' hj' hq => by
          rcases Nat.lt_or_eq_of_le (Nat.le_of_lt_succ hj') with q | q
          · exact h4 j' q hq
          · rw [q] at hq; exact absurd h hq⟩
    · rw [if_neg h]
      right
      rcases ih with ⟨h1, h2⟩ | ⟨j, h1, h2, h3, h4⟩
      · rw [h1, if_pos (by simp only; omega)]
        refine ⟨i, by omega, h, rfl, fun j' hj' hq => ?_⟩
        rcases Nat.lt_or_eq_of_le (Nat.le_of_lt_succ hj') with q | q
        · exact absurd (h2 j' q) hq
        · rw [q]; exact Int.le_refl _
      · rw [h3]
        by_cases hlt : cos9 i x X < cos9 j x X
        · rw [if_pos hlt]
          refine ⟨i, by omega, h, rfl, fun j' hj' hq => ?_⟩
          rcases Nat.lt_or_eq_of_le (Nat.le_of_lt_succ hj') with q | q
          · have := h4 j' q hq; omega
          · rw [q]; exact Int.le_refl _
        · rw [if_neg hlt]
          refine ⟨j, by omega, h2, rfl, fun j' hj' hq => ?_⟩
          rcases Nat.lt_or_eq_of_le (Nat.le_of_lt_succ hj') with q | q
          · exact h4 j' q hq
          · rw [q]; omega
/-- The kind that is picked may be, and costs no more than the others that may be. -/
theorem pk9_best {x : Nat} (hx : x < 8) {l : List Tok7} (hm : mer9 l = 0) (hf : ∀ t ∈ l, t.Fit) : ∃ j : Nat, j < 3 ∧ (pk9 x (tal9 l) 3).1 = (j : Int) ∧ ple9 (j : Int) (x : Int) l = 0 ∧ ∀ i : Nat, i < 3 → ple9 (i : Int) (x : Int) l = 0 → cos9 j x (tal9 l) ≤ cos9 i x (tal9 l) := by
  have hct := tal9_ct hm hf
  have hp : ∀ i : Nat, i < 3 → (ple9 (i : Int) (x : Int) l = 0 ↔ ¬ mst9 i < (tal9 l).getD 0 0) := fun i hi => by
    rw [ple9_in' hx hi hm]
    split
    · rename_i h; exact ⟨fun q => by omega, fun q => absurd h q⟩
    · rename_i h; exact ⟨fun _ => h, fun _ => rfl⟩
  rcases pk9_inv (x := x) hct 3 with ⟨_, h2⟩ | ⟨j, h1, h2, h3, h4⟩
  · exfalso
    have h := h2 1 (by omega)
    have hs := siz7_le l
    have hl := (mer9_zero hm).1
    rw [tal9_size hm hf] at h
    unfold mst9 at h
    rw [if_neg (by omega)] at h
    omega
  · exact ⟨j, h1, by rw [h3], (hp j h1).2 h2, fun i hi hq => h4 i hi ((hp i hi).1 hq)⟩
end Go.Proofs.YtcifalelnfeggaaGreatDoor

namespace Go.Proofs.YtcifalelnfeggaaGreatDoor
open Go.RowKit
set_option linter.unusedVariables false

/-! The landed block: writeTokens, of any tokens. -/
set_option maxRecDepth 100000 in
set_option maxHeartbeats 16000000 in
theorem pwtok9 (bw B : Nat) (v : Value) (L : List Bool) (l : List Tok7) (a : Option Addr) (n cap : Nat) (hn : Hid (l.length = n)) (ZL ZD : List Int) (la da : Option Addr) (nl lc nd dc : Nat) (hnl : Hid (ZL.length = nl)) (hnd : Hid (ZD.length = nd)) (w : World) (hw : WrL w bw B v L) (hL : L.length ≤ 1000000000000) (hs : SegT w a l) (sL : SegZ w la ZL) (sD : SegZ w da ZD) (nlL : la = none → lc = 0) (nlD : da = none → dc = 0) (hl1 : nl ≤ 1000) (hd1 : nd ≤ 1000) (hcL : errC ZL = 0) (hcD : errC ZD = 0) (hl : n ≤ 65536) (hm : ∀ t ∈ l, may7 t) (hfar : ∀ g o, a = some ⟨g, o, none⟩ → 0 < n → ¬ WS bw v g) :
    Calls Tryz.prog 102 #[.pointer (some ⟨bw, 0, none⟩), .slice a n cap, .slice la nl lc, .slice da nd dc] w fun e w' => e = .returned (.tuple #[]) ∧ WrI w w' bw B v (L ++ bdy9 ZL ZD l) := by
  have HW : Hid (WrL w bw B v L) := hw
  have HS : Hid (SegT w a l) := hs
  have HM : Hid (∀ t ∈ l, may7 t) := hm
  have HFT : Hid (∀ t ∈ l, t.Fit) := hs.fit
  have HFAR : Hid (∀ g o, a = some ⟨g, o, none⟩ → 0 < n → ¬ WS bw v g) := hfar
  have HSD : Hid (SegZ w da ZD) := sD
  have HLE : Hid (∀ i, (L ++ (l.take i).flatMap (tkB9 ZL ZD)).length ≤ 1000004000000) := fun i => by
    have := flat_le9 hcL hcD (l.take i)
    rw [List.length_append]
    have h2 : (l.take i).length ≤ 65536 := by rw [List.length_take, hn.out]; omega
    omega
  have HPL : Hid (∀ s : Int, (putB ZL s).length ≤ 15) := fun s => putB_le hcL s
  have HPD : Hid (∀ s : Int, (putB ZD s).length ≤ 15) := fun s => putB_le hcD s
  have CE1 := newEnc_far la ZL nl lc hnl w sL nlL (by omega)
  have hbl := hw.b_lt
  have hol := hw.own_lt
  clear hw hs hm hfar sD sL hL
  go_enter Tryz.func102, Tryz.ntmps102
  go_wp2_with fail
  refine CE1.mono ?_
  rintro e w1 ⟨hE, _, b1⟩
  obtain ⟨e1, rfl, he1, _, hEK1⟩ := hE hcL
  have CE2 := newEnc_far da ZD nd dc hnd w1 (HSD.out.old b1) nlD (by omega)
  clear CE1 hE
  go_wp2_with fail
  refine CE2.mono ?_
  rintro e w2 ⟨hE, _, b2⟩
  obtain ⟨e2, rfl, he2, _, hEK2⟩ := hE hcD
  have B2 : Below w.heap.size w w2 := b1.trans (b2.mono b1.size)
  have HI0 : WrI w2 w2 bw B v L := WrI.start (HW.out.below8 B2)
  have HK : Hid (∀ wr, Kp (WS bw v) w2 wr → En wr e1 w1.heap.size ZL ∧ En wr e2 w2.heap.size ZD ∧ SegT wr a l) := fun wr hk => by
    refine ⟨hEK1 wr ?_, hEK2 wr ?_, ?_⟩
    · refine (kp_of_below b2 (fun k => k < w.heap.size)).trans hk (fun k hlt e => ?_)
      rcases e with e | e
      · omega
      · exact (hol k e).2.1
    · refine hk.mono (fun k hlt e => ?_)
      have := b1.size
      rcases e with e | e
      · omega
      · have := (hol k e).2.1; omega
    · refine (HS.out.old B2).kp hk (fun g o e h => ?_)
      exact HFAR.out g o e (by have := hn.out; omega)
  have HB2 : Hid (Below w.heap.size w w2) := B2
  have HSZ2 : Hid (w1.heap.size ≤ w2.heap.size) := b2.size
  clear CE2 hE hEK1 hEK2 b1 b2 B2 hol hcL hcD
  go_wp2_with fail
  go_loopw [30] (fun ti wr => ∃ i : Nat, i ≤ n ∧ ti = .int .i64 (i : Int) ∧ WrI w2 wr bw B v (L ++ (l.take i).flatMap (tkB9 ZL ZD))) (fun ti _ => n - (intOf ti).toNat)
  case atStart => exact ⟨0, by omega, rfl, by rw [List.take_zero, List.flatMap_nil, List.append_nil]; exact HI0⟩
  case round =>
    obtain ⟨i, hin, rfl, HI⟩ := hrel
    clear HI0
    obtain ⟨EN, EN2, ST⟩ := HK.out wr HI.kp
    have hml := HLE.out i
    by_cases hlt : i < n
    · have hlti : (i : Int) < (n : Int) := by omega
      have hil : i < l.length := by rw [hn.out]; exact hlt
      obtain ⟨g, o, rfl, tk⟩ := ST.at_ i hil
      have hmem : l.getD i tk0 ∈ l := by simp only [List.getD, List.getElem?_eq_getElem hil, Option.getD_some]; exact List.getElem_mem hil
      have hfit := HFT.out _ hmem
      have hmay := HM.out _ hmem
      have HTK : Hid ((l.take (i + 1)).flatMap (tkB9 ZL ZD) = (l.take i).flatMap (tkB9 ZL ZD) ++ tkB9 ZL ZD (l.getD i tk0)) := by show _ = _; rw [takeT7 hil, List.flatMap_append]; simp
      generalize l.getD i tk0 = t at *
      have HTB : Hid (tkB9 ZL ZD t = if t.len = 0 then putB ZL t.lit else putB ZL ((257 + lix9 t.len : Nat) : Int) ++ bN (t.len - lnS9.getD (lix9 t.len * 2) 0).toNat (lnS9.getD (lix9 t.len * 2 + 1) 0).toNat ++ putB ZD (dix9 t.dist : Int) ++ bN (t.dist - dsS9.getD (dix9 t.dist * 2) 0).toNat (dsS9.getD (dix9 t.dist * 2 + 1) 0).toNat) := rfl
      have hfm := fit_may9 hfit hmay
      obtain ⟨lit, len, dist⟩ := t
      obtain ⟨x0, x1, x2⟩ := tk
      simp only at x0 x1 x2 hfm HTB
      obtain ⟨MM, hMM⟩ : ∃ MM, MM = L ++ (l.take i).flatMap (tkB9 ZL ZD) := ⟨_, rfl⟩
      have HMM : Hid (∀ Q, Q = tkB9 ZL ZD ⟨lit, len, dist⟩ → L ++ (l.take (i + 1)).flatMap (tkB9 ZL ZD) = MM ++ Q) := fun Q hQ => by rw [HTK.out, hMM, hQ, List.append_assoc]
      rw [← hMM] at HI hml
      have hlb : 0 ≤ lit ∧ lit ≤ 255 := hfit.1
      have i7 : IntKind.i64.wrap ((i : Int) + 1) = (i : Int) + 1 := IntWalk.i64_in _ (by omega)
      clear hMM HTK hfit hmay hmem
      have HIR : Hid (WrI w2 wr bw B v MM) := HI
      have HEN : Hid (En wr e1 w1.heap.size ZL) := EN
      clear HI EN EN2 ST
      by_cases hz : len = 0
      · rw [if_pos hz] at HTB
        subst hz
        have HBW : Hid (L ++ (l.take (i + 1)).flatMap (tkB9 ZL ZD) = MM ++ putB ZL lit) := HMM.out _ (by rw [HTB.out])
        clear HMM HTB hfm
        go_wp2_with fail
        have b3 := below_box8 wr (.cells #[.int .u8 lit, .int .i64 0, .int .i64 dist] 97)
        generalize wr.alloc (.cells #[.int .u8 lit, .int .i64 0, .int .i64 dist] 97) = wa at *
        have CP := eput8 lit (HIR.out.old b3) (HEN.out.old (b3.mono (by have := HIR.out.size; have := HSZ2.out; omega))) (by omega)
        rw [← HBW.out] at CP
        clear b3
        refine CP.mono ?_
        rintro e w5 ⟨rfl, HI5⟩
        clear CP HIR HEN
        generalize errP ZL lit = E at *
        go_wp2_with fail
        go_roundw
        case rel => exact ⟨i + 1, by omega, by go_num, HI5⟩
        case measure => simp [intOf]; omega
      · rw [if_neg hz] at HTB
        obtain ⟨k2, k3, k4, k5, k6, klit⟩ := hfm.2.2.resolve_left (fun q => hz q.1)
        clear klit k2 hfm HEN
        obtain ⟨s0, s1, s2, s3⟩ := lspec9 k3
        obtain ⟨r0, r1, r2, r3⟩ := dspec9 k5
        have hv1 := ln_in9 k4 s1 s2 s3
        have hv2 := ds_in9 k6 r1 r2 r3
        have bm1 := lnb9 (lix9 len)
        have bm2 := dsb9 (dix9 dist)
        have CLS := plsy9_is len k3 k4
        have CDS := pdsy9_is dist k5 k6
        obtain ⟨p, hp⟩ : ∃ p, p = 257 + lix9 len := ⟨_, rfl⟩
        obtain ⟨q, hq⟩ : ∃ q, q = dix9 dist := ⟨_, rfl⟩
        have hpi : 257 + (lix9 len : Int) = (p : Int) := by omega
        have hpb : p < 286 ∧ q < 30 := by omega
        rw [← hp] at HTB
        rw [← hq] at HTB CDS bm2 hv2 r2
        simp only [hpi] at CLS
        clear s0 s1 s3 r0 r1 r3 hpi hp
        obtain ⟨V1, hV1⟩ : ∃ V1 : Nat, (V1 : Int) = len - lnS9.getD (lix9 len * 2) 0 := ⟨(len - lnS9.getD (lix9 len * 2) 0).toNat, by omega⟩
        obtain ⟨M1, hM1⟩ : ∃ M1 : Nat, (M1 : Int) = lnS9.getD (lix9 len * 2 + 1) 0 := ⟨(lnS9.getD (lix9 len * 2 + 1) 0).toNat, by omega⟩
        obtain ⟨V2, hV2⟩ : ∃ V2 : Nat, (V2 : Int) = dist - dsS9.getD (q * 2) 0 := ⟨(dist - dsS9.getD (q * 2) 0).toNat, by omega⟩
        obtain ⟨M2, hM2⟩ : ∃ M2 : Nat, (M2 : Int) = dsS9.getD (q * 2 + 1) 0 := ⟨(dsS9.getD (q * 2 + 1) 0).toNat, by omega⟩
        rw [← hV1, ← hM1, ← hV2, ← hM2] at HTB
        simp only [Int.toNat_natCast] at HTB
        rw [← hV1, ← hM1] at hv1
        rw [← hV2, ← hM2] at hv2
        rw [Int.toNat_natCast] at hv1 hv2
        simp only [← hV1, ← hM1] at CLS
        simp only [← hV2, ← hM2] at CDS
        rw [← hM1] at bm1
        rw [← hM2] at bm2
        have HV1 : Hid (V1 < 2 ^ M1) := by show _ < _; exact_mod_cast hv1
        have HV2 : Hid (V2 < 2 ^ M2) := by show _ < _; exact_mod_cast hv2
        clear hV1 hM1 hV2 hM2 hv1 hv2 hq s2 r2
        have HCLS : Hid (∀ W, Calls Tryz.prog 9 #[.int .i64 len] W fun e w' => e = .returned (.tuple #[.int .i64 (p : Int), .int .i64 (M1 : Int), .int .i64 (V1 : Int), .int .i64 0]) ∧ Below W.heap.size W w') := CLS
        have HCDS : Hid (∀ W, Calls Tryz.prog 11 #[.int .i64 dist] W fun e w' => e = .returned (.tuple #[.int .i64 (q : Int), .int .i64 (M2 : Int), .int .i64 (V2 : Int), .int .i64 0]) ∧ Below W.heap.size W w') := CDS
        clear CLS CDS
        have hV1b : (V1 : Int) ≤ 8192 := by have h := HV1.out; have h2 : (2 : Nat) ^ M1 ≤ 2 ^ 13 := Nat.pow_le_pow_right (by omega) (by omega); have h3 : (2 : Nat) ^ 13 = 8192 := rfl; omega
        have hV2b : (V2 : Int) ≤ 8192 := by have h := HV2.out; have h2 : (2 : Nat) ^ M2 ≤ 2 ^ 13 := Nat.pow_le_pow_right (by omega) (by omega); have h3 : (2 : Nat) ^ 13 = 8192 := rfl; omega
        have hV1c : 0 ≤ (V1 : Int) := by omega
        have hV2c : 0 ≤ (V2 : Int) := by omega
        have hPl := HPL.out (p : Int)
        have hPl2 := HPD.out (q : Int)
        have y0 := heap_alloc_new wr (.cells #[.int .u8 lit, .int .i64 len, .int .i64 dist] 97)
        have HB0 : Hid (Below wr.heap.size wr (wr.alloc (.cells #[.int .u8 lit, .int .i64 len, .int .i64 dist] 97))) := below_box8 wr (.cells #[.int .u8 lit, .int .i64 len, .int .i64 dist] 97)
        go_wp2_with fail
        generalize wr.alloc (.cells #[.int .u8 lit, .int .i64 len, .int .i64 dist] 97) = wa at *
        refine (HCLS.out wa).mono ?_
        rintro e w3 ⟨rfl, b3⟩
        obtain ⟨uS, q71, q72, q73⟩ := HIR.out
        have B3 : Below wr.heap.size wr w3 := HB0.out.trans (b3.mono HB0.out.size)
        have hbx : bw < wr.heap.size := q71.b_lt
        have hown : ∀ k, uS.ownBlock = some k → k < wr.heap.size := fun k e => (q71.own_lt k e).2.1
        obtain ⟨ob, hob⟩ : ∃ ob, ob = wr.heap.size := ⟨_, rfl⟩
        have y3 : w3.heap[ob]? = some (.cells #[.int .u8 lit, .int .i64 len, .int .i64 dist] 97 (0, 0)) := by rw [hob]; exact (b3.block wr.heap.size (Array.getElem?_eq_some_iff.1 y0).1).trans y0
        have HOW : Hid (¬ WS bw uS ob) := by
          rintro (e | e)
          · omega
          · have := hown ob e; omega
        have R3 := q71.below8 B3
        have HK3 : Kp (WS bw v) w2 w3 := q72.trans (S' := fun _ => False) (kp_of_below B3 _) (fun _ _ e => e.elim)
        have HJ : Hid (∀ W M, WrI w3 W bw B uS M → WrI w2 W bw B v M) := fun W M h => by
          obtain ⟨v2, r2, kk, ff⟩ := h
          exact WrI.next HK3 q73 r2 kk ff
        have HY : Hid (∀ W M, WrI w3 W bw B uS M → W.cell? ⟨ob, 2, none⟩ = some (.int .i64 dist)) := fun W M h => (cell_of_row W _ 2 _ _ _ (h.kp.heap y3 HOW.out)).trans rfl
        have HI : WrI w3 w3 bw B uS MM := WrI.start R3
        have HOB : Hid (wr.heap.size = ob) := hob.symm
        rw [HOB.out]
        have HFI : Hid (L ++ (l.take (i + 1)).flatMap (tkB9 ZL ZD) = MM ++ putB ZL (p : Int) ++ bN V1 M1 ++ putB ZD (q : Int) ++ bN V2 M2) := by
          show _ = _
          rw [HMM.out _ rfl, HTB.out]
          simp only [List.append_assoc]
        have CP1 := eput8 (p : Int) HI (HK.out w3 HK3).1 (by omega)
        clear x0 x1 x2 HMM HTB HIR HB0 y0 y3 hob q71 q72 q73 R3 HK3 b3 B3 hbx hown HOW HCLS HI
        go_wp2_with fail
        refine CP1.mono ?_
        rintro e w4 ⟨rfl, HI4⟩
        have CP2 := put8 HI4 V1 M1 HV1.out (by omega) (by rw [List.length_append]; omega)
        clear CP1 HI4
        generalize errP ZL (p : Int) = E1 at *
        go_wp2_with fail
        refine CP2.mono ?_
        rintro e w5 ⟨rfl, HI5⟩
        have cd2 := HY.out _ _ HI5
        clear CP2
        go_wp2_with fail
        refine (HCDS.out w5).mono ?_
        rintro e w6 ⟨rfl, b6⟩
        have HI6 := HI5.old b6
        have CP3 := eput8 (q : Int) HI6 (HK.out w6 (HJ.out _ _ HI6).kp).2.1 (by rw [List.length_append, List.length_append, bN_len]; omega)
        clear HI6 HI5 cd2 b6
        go_wp2_with fail
        refine CP3.mono ?_
        rintro e w7 ⟨rfl, HI7⟩
        have CP4 := put8 HI7 V2 M2 HV2.out (by omega) (by rw [List.length_append, List.length_append, List.length_append, bN_len]; omega)
        rw [← HFI.out] at CP4
        clear CP3 HI7 HFI
        generalize errP ZD (q : Int) = E2 at *
        go_wp2_with fail
        refine CP4.mono ?_
        rintro e w8 ⟨rfl, HI8⟩
        have HI9 := HJ.out _ _ HI8
        clear CP4 HI8 HJ HY
        go_wp2_with fail
        go_roundw
        case rel => exact ⟨i + 1, by omega, by go_num, HI9⟩
        case measure => simp [intOf]; omega
    · obtain rfl : i = n := by omega
      have hta : l.take i = l := List.take_of_length_le (by rw [hn.out]; exact Nat.le_refl _)
      rw [hta] at HI hml
      have CP := eput8 256 HI EN (by omega)
      rw [List.append_assoc] at CP
      clear HI EN EN2 ST hta
      go_wp2_with fail
      refine CP.mono ?_
      rintro e w5 ⟨rfl, HI5⟩
      clear CP
      generalize errP ZL 256 = E at *
      go_wp2_with fail
      refine bodyPost_end (results_none rfl _ _ _) rfl ?_
      exact ⟨rfl, WrI.up HB2.out HI5⟩
end Go.Proofs.YtcifalelnfeggaaGreatDoor

namespace Go.Proofs.YtcifalelnfeggaaGreatDoor
open Go.RowKit
set_option linter.unusedVariables false

/-! The landed block: what stands behind a block's begin, of each kind. -/
theorem WrI.join9 {w wr w2 : World} {bw B : Nat} {v v1 : Value} {M M2 : List Bool} (hK : Kp (WS bw v) w wr) (hF : Fresh w v v1) (h : WrI wr w2 bw B v1 M2) : WrI w w2 bw B v M2 := by
  obtain ⟨v2, h1, h2, h3⟩ := h
  exact WrI.next hK hF h1 h2 h3
set_option maxRecDepth 100000 in
set_option maxHeartbeats 8000000 in
theorem pwst9 (bw B : Nat) (v : Value) (L : List Bool) (data : List Int) (xa : Option Addr) (nx xc : Nat) (hdl : Hid (data.length = nx)) (lv tv : Value) (w : World) (hw : WrL w bw B v L) (hL : L.length ≤ 1000000000000) (hx6 : nx ≤ 65535) (hsd : Seg w xa data) (hnil : xa = none → xc = 0) (fx : ∀ g o, xa = some ⟨g, o, none⟩ → 0 < data.length → ¬ WS bw v g ∧ g < w.heap.size) :
    Calls Tryz.prog 75 #[.pointer (some ⟨bw, 0, none⟩), .slice xa nx xc, lv, tv] w fun e w' => e = .returned (.tuple #[]) ∧ WrI w w' bw B v (L ++ (List.replicate (padN L.length) false ++ bN nx 16 ++ bN (65535 - nx) 16 ++ bB data)) := by
  have hxx : bits .xor .u64 (nx : Int) 65535 = ((65535 - nx : Nat) : Int) := xor16_9 hx6
  have HSD : Hid (Seg w xa data) := hsd
  have HFX : Hid (∀ g o, xa = some ⟨g, o, none⟩ → 0 < data.length → ¬ WS bw v g ∧ g < w.heap.size) := fx
  have CA := align_any bw B v L w hw (by omega)
  have hpad : padN L.length < 8 := by unfold padN; omega
  have hmod : (L.length + padN L.length) % 8 = 0 := by unfold padN; omega
  obtain ⟨A, hA⟩ : ∃ A, A = alignL L := ⟨_, rfl⟩
  have hAl : A.length = L.length + padN L.length := by rw [hA, alignL_len]
  rw [← hA] at CA
  have HAA : Hid (A = L ++ List.replicate (padN L.length) false) := hA
  have hAm : A.length % 8 = 0 := by rw [hAl]; exact hmod
  have hAb : A.length ≤ 1000000000010 := by rw [hAl]; omega
  clear hA hmod hAl hpad hw hsd fx hL
  go_enter Tryz.func75, Tryz.ntmps75
  go_wp2_with fail
  refine CA.mono ?_
  rintro e w11 ⟨rfl, v2, r2, k2, f2⟩
  have HI11 : WrI w w11 bw B v A := ⟨v2, r2, k2, f2⟩
  have CP1 := put8 HI11 nx 16 (by omega) (by omega) (by omega)
  clear CA r2 k2 f2 HI11
  go_wp2_with fail
  refine CP1.mono ?_
  rintro e w12 ⟨rfl, HI12⟩
  have CP2 := put8 HI12 (65535 - nx) 16 (by omega) (by omega) (by rw [List.length_append, bN_len]; omega)
  clear CP1 HI12
  go_wp2_with fail
  refine CP2.mono ?_
  rintro e w13 ⟨rfl, HI13⟩
  obtain ⟨v3, r3, k3, f3⟩ := HI13
  have hl3 : (A ++ bN nx 16 ++ bN (65535 - nx) 16).length = A.length + 32 := by rw [List.length_append, List.length_append, bN_len, bN_len]
  have CW := whole_any bw B v3 (A ++ bN nx 16 ++ bN (65535 - nx) 16) xa data xc w13 r3 (HSD.out.kp k3 (fun g o e hp => (HFX.out g o e hp).1)) hnil (fun g o e hp => by
    have h1 := HFX.out g o e hp
    rintro (e2 | e2)
    · exact h1.1 (.inl e2)
    · rcases f3 g e2 with e3 | e3
      · exact h1.1 (.inr e3)
      · have := h1.2; omega) (by rw [hl3, hdl.out]; omega)
  have HAL2 : alignL (A ++ bN nx 16 ++ bN (65535 - nx) 16) = A ++ bN nx 16 ++ bN (65535 - nx) 16 := by
    unfold alignL
    rw [hl3, show padN (A.length + 32) = 0 by unfold padN; omega, List.replicate_zero, List.append_nil]
  rw [HAL2, hdl.out] at CW
  have HFIN : Hid (∀ W v4, WrL W bw B v4 (A ++ bN nx 16 ++ bN (65535 - nx) 16 ++ bB data) → Kp (WS bw v3) w13 W → Fresh w13 v3 v4 → WrI w W bw B v (L ++ (List.replicate (padN L.length) false ++ bN nx 16 ++ bN (65535 - nx) 16 ++ bB data))) := fun W v4 h1 h2 h3 => by
    have := WrI.next k3 f3 h1 h2 h3
    rw [HAA.out] at this
    simp only [List.append_assoc] at this ⊢
    exact this
  clear CP2 hl3 HAL2 k3 f3 r3
  go_wp2_with fail
  refine CW.mono ?_
  rintro e w14 ⟨rfl, v4, r4, k4, f4⟩
  have HF := HFIN.out w14 v4 r4 k4 f4
  clear CW r4 k4 f4 HFIN
  go_wp2_with fail
  refine bodyPost_end (results_none rfl _ _ _) rfl ?_
  exact ⟨rfl, HF⟩
set_option maxRecDepth 100000 in
set_option maxHeartbeats 4000000 in
theorem pwpl9 (bw B : Nat) (v : Value) (L : List Bool) (l : List Tok7) (a : Option Addr) (n cap : Nat) (hn : Hid (l.length = n)) (dv tv : Value) (w : World) (hw : WrL w bw B v L) (hL : L.length ≤ 1000000000000) (hs : SegT w a l) (hl : n ≤ 65536) (hm : ∀ t ∈ l, may7 t) (hfar : ∀ g o, a = some ⟨g, o, none⟩ → 0 < n → ¬ WS bw v g) :
    Calls Tryz.prog 78 #[.pointer (some ⟨bw, 0, none⟩), dv, .slice a n cap, tv] w fun e w' => e = .returned (.tuple #[]) ∧ WrI w w' bw B v (L ++ bdy9 plnL9 plnD9 l) := by
  go_enter Tryz.func78, Tryz.ntmps78
  go_wp2_with fail
  refine (pplain9 w).mono ?_
  rintro e w1 ⟨la, lc, da, rfl, o1, o2, _, b1⟩
  have s1 : SegZ w1 la plnL9 := own_segZ o1 plnL9_bd
  have s2 : SegZ w1 (some ⟨da, 0, none⟩) plnD9 := own_segZ o2 plnD9_bd
  have n1 : la = none → lc = 0 := fun h => by
    obtain ⟨g, cp, hv, _⟩ := own_shape o1 (by omega)
    injection hv with h1 _ _
    rw [h1] at h
    cases h
  have CT := pwtok9 bw B v L l a n cap hn plnL9 plnD9 la (some ⟨da, 0, none⟩) 288 lc 32 32 plnL9_len rfl w1 (hw.below8 b1) hL (hs.old b1) s1 s2 n1 (fun h => by cases h) (by omega) (by omega) pln_ok9.1 pln_ok9.2 hl hm hfar
  clear o1 o2 s1 s2
  go_wp2_with fail
  refine CT.mono ?_
  rintro e w3 ⟨rfl, HI⟩
  clear CT
  go_wp2_with fail
  refine bodyPost_end (results_none rfl _ _ _) rfl ?_
  exact ⟨rfl, WrI.up b1 HI⟩
theorem nil_cap9 {w : World} {base n cap : Nat} {e : TypeId} {b : Option Addr} {xs : List Value} (h : w.ownsRow base e 1 (.slice b n cap) n xs) (hn : 0 < n) : b = none → cap = 0 := by
  obtain ⟨g, cp, hv, _⟩ := own_shape h hn
  injection hv with h1 _ _
  intro e
  rw [h1] at e
  cases e
set_option maxRecDepth 100000 in
set_option maxHeartbeats 4000000 in
theorem pwow9 (bw B : Nat) (v : Value) (L : List Bool) (l : List Tok7) (a : Option Addr) (n cap : Nat) (hn : Hid (l.length = n)) (dv : Value) (tb : Nat) (w : World) (hw : WrL w bw B v L) (hL : L.length ≤ 999999000000) (hs : SegT w a l) (hm : mer9 l = 0) (TA : Ta9 w tb (tal9 l)) (T : TabS w) (O : TabO w) (hbw : 2 ≤ bw) (hB : 2 ≤ B) (hfar : ∀ g o, a = some ⟨g, o, none⟩ → 0 < n → ¬ WS bw v g) :
    Calls Tryz.prog 81 #[.pointer (some ⟨bw, 0, none⟩), dv, .slice a n cap, .pointer (some ⟨tb, 0, none⟩)] w fun e w' => e = .returned (.tuple #[]) ∧ WrI w w' bw B v (L ++ (hd8 (oL9 (tal9 l)) (oD9 (tal9 l)) ++ bdy9 (oL9 (tal9 l)) (oD9 (tal9 l)) l)) := by
  obtain ⟨e1, e2, ht⟩ := own_told9 hm hs.fit
  have hct := tal9_ct hm hs.fit
  obtain ⟨n1, n2⟩ := oL9_len hct
  have CO := pol9 tb (tal9 l) w TA
  unfold OwQ at CO
  rw [n1, n2] at CO
  obtain ⟨hn6, hmay⟩ := mer9_zero hm
  rw [hn.out] at hn6
  have HN1 : Hid ((oL9 (tal9 l)).length = 286) := n1
  have HN2 : Hid ((oD9 (tal9 l)).length = 30) := n2
  have hb1 : ∀ z ∈ oL9 (tal9 l), -9223372036854775808 ≤ z ∧ z ≤ 9223372036854775807 := fun z hz => by
    have := (errS_zero (errC_zero e1).1).2 z hz
    omega
  have hb2 : ∀ z ∈ oD9 (tal9 l), -9223372036854775808 ≤ z ∧ z ≤ 9223372036854775807 := fun z hz => by
    have := (errS_zero (errC_zero e2).1).2 z hz
    omega
  have hhd := hd8_len ht
  have hcs := cst8_bd9 ht
  generalize oL9 (tal9 l) = ZL at *
  generalize oD9 (tal9 l) = ZD at *
  clear TA n1 n2 hct
  have HW : Hid (WrL w bw B v L) := hw
  have HS : Hid (SegT w a l) := hs
  have HFAR : Hid (∀ g o, a = some ⟨g, o, none⟩ → 0 < n → ¬ WS bw v g) := hfar
  go_enter Tryz.func81, Tryz.ntmps81
  go_wp2_with fail
  refine CO.mono ?_
  rintro e w1 ⟨la, lc, da, dc, rfl, OA, OB, _, b1⟩
  obtain ⟨ga, rfl, hca, hga, hgal⟩ := own_shape1 OA (by omega)
  obtain ⟨gb, rfl, hcb, hgb, hgbl⟩ := own_shape1 OB (by omega)
  have s1 : SegZ w1 (some ⟨ga, 0, none⟩) ZL := own_segZ OA hb1
  have s2 : SegZ w1 (some ⟨gb, 0, none⟩) ZD := own_segZ OB hb2
  have hol := hw.own_lt
  have hbl := hw.b_lt
  have CW := pwrite8 bw B v L ZL ZD (some ⟨ga, 0, none⟩) (some ⟨gb, 0, none⟩) 286 30 lc dc HN1 HN2 w1 (hw.below8 b1) (by omega) s1 s2 hca hcb (T.old b1) (O.old b1) hbw hB
  unfold WtQ at CW
  rw [if_pos ht, if_pos ht] at CW
  have HT : Hid (∀ W M v1, WrL W bw B v1 M → Kp (WS bw v) w1 W → Fresh w1 v v1 → M.length ≤ 1000000000000 → Calls Tryz.prog 102 #[.pointer (some ⟨bw, 0, none⟩), .slice a n cap, .slice (some ⟨ga, 0, none⟩) 286 lc, .slice (some ⟨gb, 0, none⟩) 30 dc] W fun e w' => e = .returned (.tuple #[]) ∧ WrI W w' bw B v1 (M ++ bdy9 ZL ZD l)) := fun W M v1 hW hk hf hM => by
    refine pwtok9 bw B v1 M l a n cap hn ZL ZD (some ⟨ga, 0, none⟩) (some ⟨gb, 0, none⟩) 286 lc 30 dc HN1 HN2 W hW hM ((HS.out.old b1).kp hk (fun g o e h => HFAR.out g o e (by have := hn.out; omega))) (s1.kp hk ?_) (s2.kp hk ?_) (fun h => by cases h) (fun h => by cases h) (by omega) (by omega) e1 e2 hn6 hmay ?_
    · intro g o e _
      cases e
      rintro (q | q)
      · omega
      · have := (hol _ q).2.1; omega
    · intro g o e _
      cases e
      rintro (q | q)
      · omega
      · have := (hol _ q).2.1; omega
    · intro g o e h
      rintro (q | q)
      · exact HFAR.out g o e h (.inl q)
      · rcases hf g q with q | q
        · exact HFAR.out g o e h (.inr q)
        · have h2 := HS.out.lt g o e (by have := hn.out; omega)
          have := b1.size
          omega
  have HB1 : Hid (Below w.heap.size w w1) := b1
  have HHD : Hid ((hd8 ZL ZD).length ≤ 5000) := by rw [hhd]; exact hcs
  clear CO OA OB s1 s2 hol hw hs hfar T O b1 hhd hcs hb1 hb2 ht e1 e2
  go_wp2_with fail
  refine CW.mono ?_
  rintro e w2 ⟨rfl, v2, r2, k2, f2⟩
  have CT := HT.out w2 _ v2 r2 k2 f2 (by rw [List.length_append]; have := HHD.out; omega)
  rw [List.append_assoc] at CT
  clear CW HT
  go_wp2_with fail
  refine CT.mono ?_
  rintro e w3 ⟨rfl, v3, r3, k3, f3⟩
  have HF : WrI w w3 bw B v (L ++ (hd8 ZL ZD ++ bdy9 ZL ZD l)) := WrI.up HB1.out (WrI.next k2 f2 r3 k3 f3)
  clear CT r2 k2 f2 r3 k3 f3
  go_wp2_with fail
  refine bodyPost_end (results_none rfl _ _ _) rfl ?_
  exact ⟨rfl, HF⟩
end Go.Proofs.YtcifalelnfeggaaGreatDoor

namespace Go.Proofs.YtcifalelnfeggaaGreatDoor
open Go.RowKit
set_option linter.unusedVariables false

/-! The landed block: Write, kind 0. -/
set_option maxRecDepth 100000 in
set_option maxHeartbeats 8000000 in
theorem pwr9_0f (bw B : Nat) (v : Value) (L : List Bool) (data : List Int) (xa : Option Addr) (nx xc : Nat) (hdl : Hid (data.length = nx)) (l : List Tok7) (a : Option Addr) (n cap : Nat) (hn : Hid (l.length = n)) (w : World) (hw : WrL w bw B v L) (hL : L.length ≤ 900000000000) (hs : SegT w a l) (hm : mer9 l = 0) (hx : siz7 l = nx) (hsz : (tal9 l).getD 0 0 ≤ mst9 0) (hsd : Seg w xa data) (hnil : xa = none → xc = 0) (fx : ∀ g o, xa = some ⟨g, o, none⟩ → 0 < data.length → ¬ WS bw v g ∧ g < w.heap.size) (fa : ∀ g o, a = some ⟨g, o, none⟩ → 0 < n → ¬ WS bw v g) (T : TabS w) (O : TabO w) (hbw : 2 ≤ bw) (hB : 2 ≤ B) :
    Calls Tryz.prog 34 #[.pointer (some ⟨bw, 0, none⟩), .int .i64 0, .bool false, .slice xa nx xc, .slice a n cap] w fun e w' => e = .returned (.int .i64 0) ∧ WrI w w' bw B v (L ++ blk9 0 (L.length % 8) false data l) := by
  have CL := len_any bw B v L w hw (by omega)
  have hSZ : (tal9 l).getD 0 0 = (nx : Int) := by rw [tal9_size hm hs.fit, hx]
  have HPL : Hid (∀ W, Below w.heap.size w W → ∀ x : Int, x = ((L.length % 8 : Nat) : Int) → Calls Tryz.prog 51 #[.int .i64 0, .int .i64 x, .slice a n cap] W fun e w' => ∃ b, W.heap.size ≤ b ∧ e = .returned (.tuple #[.agg (fk9 0), .pointer (some ⟨b, 0, none⟩), .int .i64 0]) ∧ Ta9 w' b (tal9 l) ∧ Below W.heap.size W w') := fun W hW x hx => by
    subst hx
    exact pplan9_ok l a n cap hn 0 (by omega) _ (by omega) W (hs.old hW) (by have := (mer9_zero hm).1; rw [hn.out] at this; exact this) (mer9_zero hm).2 hsz
  have HS : Hid (SegT w a l) := hs
  have HM : Hid (mer9 l = 0) := hm
  have HSD : Hid (Seg w xa data) := hsd
  have HSZ : Hid ((tal9 l).getD 0 0 = (nx : Int)) := hSZ
  have HNX : Hid (nx ≤ 65535 ∨ 0 ≠ 0) := by
    have h : (nx : Int) ≤ mst9 0 := by rw [← hSZ]; exact hsz
    unfold mst9 at h
    first | (left; rw [if_pos rfl] at h; omega) | (right; omega)
  have HFX : Hid (∀ g o, xa = some ⟨g, o, none⟩ → 0 < data.length → ¬ WS bw v g ∧ g < w.heap.size) := fx
  have HFA : Hid (∀ g o, a = some ⟨g, o, none⟩ → 0 < n → ¬ WS bw v g) := fa
  have HTO : Hid (TabS w ∧ TabO w) := ⟨T, O⟩
  have HBB : Hid (2 ≤ bw ∧ 2 ≤ B) := ⟨hbw, hB⟩
  have HOL : Hid (bw < w.heap.size ∧ ∀ k, v.ownBlock = some k → B ≤ k ∧ k < w.heap.size) := ⟨hw.b_lt, fun k e => ⟨(hw.own_lt k e).1, (hw.own_lt k e).2.1⟩⟩
  have HW : Hid (WrL w bw B v L) := hw
  clear hw hs hm hx hsz hsd fx fa T O hbw hB hSZ
  go_enter Tryz.func34, Tryz.ntmps34
  go_wp2_with fail
  refine CL.mono ?_
  rintro e w1 ⟨rfl, b1⟩
  clear CL
  go_wp2_with fail
  refine (HPL.out w1 b1 _ (by first | omega | (rw [Int.tmod_eq_emod_of_nonneg (by omega)]; omega))).mono ?_
  rintro e w2 ⟨tb, htb, rfl, TA, b2⟩
  have B2 : Below w.heap.size w w2 := b1.trans (b2.mono b1.size)
  obtain ⟨fi, fs, fo, f0⟩ := fk9_facts 0 (by omega)
  have f2 : (fk9 0)[2]? = some (fnv9 75) := by kernel_rfl
  have q3 := setRow_heap _ w2.heap.size _ (fk9 0) _ _ (heap_alloc_new w2 (.cells #[.int .i64 0, .nilFunc, .nilFunc, .nilFunc] 111))
  have b3 : Below w2.heap.size w2 ((w2.alloc (.cells #[.int .i64 0, .nilFunc, .nilFunc, .nilFunc] 111)).setRow w2.heap.size (fk9 0)) := ((Below.refl w2.heap.size w2).alloc (Nat.le_refl _) _).grown (grown_setRow _ _ _) (by simp) (fun j e => by cases e; exact Nat.le_refl _)
  have HT3 : Hid (Ta9 ((w2.alloc (.cells #[.int .i64 0, .nilFunc, .nilFunc, .nilFunc] 111)).setRow w2.heap.size (fk9 0)) tb (tal9 l)) := TA.keep (b3.block tb TA.lt)
  have c0 := HT3.out.cell (i := 0) (by omega)
  rw [HSZ.out] at c0
  have HB3 : Hid (Below w.heap.size w ((w2.alloc (.cells #[.int .i64 0, .nilFunc, .nilFunc, .nilFunc] 111)).setRow w2.heap.size (fk9 0))) := B2.trans (b3.mono B2.size)
  have HQ3 : Hid (((w2.alloc (.cells #[.int .i64 0, .nilFunc, .nilFunc, .nilFunc] 111)).setRow w2.heap.size (fk9 0)).heap[w2.heap.size]? = some (.cells (fk9 0) 111 (0, 0))) := q3
  have hw2 : w.heap.size ≤ w2.heap.size := B2.size
  have htw : w.heap.size ≤ tb := Nat.le_trans b1.size htb
  clear b1 b2 b3 q3 TA B2 htb HPL f0
  go_wp2_with (refine wpList_store_row rfl 111 (.tmp 11) (.tmp 24) rfl w2.heap.size (fk9 0) rfl rfl _ _ (heap_alloc_new w2 _) fi fs fo ?_)
  generalize (w2.alloc (.cells #[.int .i64 0, .nilFunc, .nilFunc, .nilFunc] 111)).setRow w2.heap.size (fk9 0) = w3 at *
  have HI0 : WrI w3 w3 bw B v L := WrI.start (HW.out.below8 HB3.out)
  have CPU := put8 HI0 0 3 (by decide) (by omega) (by omega)
  refine CPU.mono ?_
  rintro e w4 ⟨rfl, v4, W4, K4, F4⟩
  have hww : w2.heap.size < w3.heap.size := (Array.getElem?_eq_some_iff.1 HQ3.out).1
  have hfr : ∀ k, w.heap.size ≤ k → ¬ WS bw v k := fun k hk => by
    have h := HOL.out
    rintro (e | e)
    · omega
    · have := (h.2 k e).2; omega
  have q4 := K4.heap HQ3.out (hfr _ hw2)
  have d2 : w4.cell? ⟨w2.heap.size, 2, none⟩ = some (.func (.func 75) #[] #[]) := (cell_of_row w4 _ 2 _ _ _ q4).trans f2
  have hown : ∀ g, g < w.heap.size → ¬ WS bw v g → ¬ WS bw v4 g := fun g hg h => by
    rintro (q | q)
    · exact h (.inl q)
    · rcases F4 g q with q | q
      · exact h (.inr q)
      · have := HB3.out.size; omega
  have ST4 : SegT w4 a l := (HS.out.old HB3.out).kp K4 (fun g o e h => HFA.out g o e (by have := hn.out; omega))
  have fa4 : ∀ g o, a = some ⟨g, o, none⟩ → 0 < n → ¬ WS bw v4 g := fun g o e h => hown g (HS.out.lt g o e (by have := hn.out; omega)) (HFA.out g o e h)
  have hl4 : (L ++ bN 0 3).length = L.length + 3 := by rw [List.length_append, bN_len]
  have CT := fun lv tv => pwst9 bw B v4 (L ++ bN 0 3) data xa nx xc hdl lv tv w4 W4 (by omega) (HNX.out.resolve_right (by omega)) ((HSD.out.old HB3.out).kp K4 (fun g o e h => (HFX.out g o e h).1)) hnil (fun g o e h => ⟨hown g (HFX.out g o e h).2 (HFX.out g o e h).1, by have := (HFX.out g o e h).2; have := HB3.out.size; have := K4.size; omega⟩)
  rw [hl4] at CT
  have HFIN : Hid (∀ W, WrI w4 W bw B v4 ((L ++ bN 0 3) ++ (List.replicate (padN (L.length + 3)) false ++ bN nx 16 ++ bN (65535 - nx) 16 ++ bB data)) → WrI w W bw B v (L ++ blk9 0 (L.length % 8) false data l)) := fun W h => by
    obtain ⟨v5, r5, k5, f5⟩ := h
    have := WrI.up HB3.out (WrI.next K4 F4 r5 k5 f5)
    rw [List.append_assoc] at this
    unfold blk9
    rw [if_pos rfl, ← pad9_mod, hdl.out]
    exact this
  clear HI0 CPU c0 q4 ST4 fa4 hown hfr K4 F4 W4 HT3 HQ3 HB3 hl4
  go_wp2_with fail
  refine (CT _ _).mono ?_
  rintro e w6 ⟨rfl, HI6⟩
  have HF := HFIN.out w6 HI6
  clear CT HFIN HI6
  go_wp2_with fail
  go_ret
  exact ⟨rfl, HF⟩
set_option maxRecDepth 100000 in
set_option maxHeartbeats 8000000 in
theorem pwr9_0t (bw B : Nat) (v : Value) (L : List Bool) (data : List Int) (xa : Option Addr) (nx xc : Nat) (hdl : Hid (data.length = nx)) (l : List Tok7) (a : Option Addr) (n cap : Nat) (hn : Hid (l.length = n)) (w : World) (hw : WrL w bw B v L) (hL : L.length ≤ 900000000000) (hs : SegT w a l) (hm : mer9 l = 0) (hx : siz7 l = nx) (hsz : (tal9 l).getD 0 0 ≤ mst9 0) (hsd : Seg w xa data) (hnil : xa = none → xc = 0) (fx : ∀ g o, xa = some ⟨g, o, none⟩ → 0 < data.length → ¬ WS bw v g ∧ g < w.heap.size) (fa : ∀ g o, a = some ⟨g, o, none⟩ → 0 < n → ¬ WS bw v g) (T : TabS w) (O : TabO w) (hbw : 2 ≤ bw) (hB : 2 ≤ B) :
    Calls Tryz.prog 34 #[.pointer (some ⟨bw, 0, none⟩), .int .i64 0, .bool true, .slice xa nx xc, .slice a n cap] w fun e w' => e = .returned (.int .i64 0) ∧ WrI w w' bw B v (L ++ blk9 0 (L.length % 8) true data l) := by
  have CL := len_any bw B v L w hw (by omega)
  have hSZ : (tal9 l).getD 0 0 = (nx : Int) := by rw [tal9_size hm hs.fit, hx]
  have HPL : Hid (∀ W, Below w.heap.size w W → ∀ x : Int, x = ((L.length % 8 : Nat) : Int) → Calls Tryz.prog 51 #[.int .i64 0, .int .i64 x, .slice a n cap] W fun e w' => ∃ b, W.heap.size ≤ b ∧ e = .returned (.tuple #[.agg (fk9 0), .pointer (some ⟨b, 0, none⟩), .int .i64 0]) ∧ Ta9 w' b (tal9 l) ∧ Below W.heap.size W w') := fun W hW x hx => by
    subst hx
    exact pplan9_ok l a n cap hn 0 (by omega) _ (by omega) W (hs.old hW) (by have := (mer9_zero hm).1; rw [hn.out] at this; exact this) (mer9_zero hm).2 hsz
  have HS : Hid (SegT w a l) := hs
  have HM : Hid (mer9 l = 0) := hm
  have HSD : Hid (Seg w xa data) := hsd
  have HSZ : Hid ((tal9 l).getD 0 0 = (nx : Int)) := hSZ
  have HNX : Hid (nx ≤ 65535 ∨ 0 ≠ 0) := by
    have h : (nx : Int) ≤ mst9 0 := by rw [← hSZ]; exact hsz
    unfold mst9 at h
    first | (left; rw [if_pos rfl] at h; omega) | (right; omega)
  have HFX : Hid (∀ g o, xa = some ⟨g, o, none⟩ → 0 < data.length → ¬ WS bw v g ∧ g < w.heap.size) := fx
  have HFA : Hid (∀ g o, a = some ⟨g, o, none⟩ → 0 < n → ¬ WS bw v g) := fa
  have HTO : Hid (TabS w ∧ TabO w) := ⟨T, O⟩
  have HBB : Hid (2 ≤ bw ∧ 2 ≤ B) := ⟨hbw, hB⟩
  have HOL : Hid (bw < w.heap.size ∧ ∀ k, v.ownBlock = some k → B ≤ k ∧ k < w.heap.size) := ⟨hw.b_lt, fun k e => ⟨(hw.own_lt k e).1, (hw.own_lt k e).2.1⟩⟩
  have HW : Hid (WrL w bw B v L) := hw
  clear hw hs hm hx hsz hsd fx fa T O hbw hB hSZ
  go_enter Tryz.func34, Tryz.ntmps34
  go_wp2_with fail
  refine CL.mono ?_
  rintro e w1 ⟨rfl, b1⟩
  clear CL
  go_wp2_with fail
  refine (HPL.out w1 b1 _ (by first | omega | (rw [Int.tmod_eq_emod_of_nonneg (by omega)]; omega))).mono ?_
  rintro e w2 ⟨tb, htb, rfl, TA, b2⟩
  have B2 : Below w.heap.size w w2 := b1.trans (b2.mono b1.size)
  obtain ⟨fi, fs, fo, f0⟩ := fk9_facts 0 (by omega)
  have f2 : (fk9 0)[2]? = some (fnv9 75) := by kernel_rfl
  have q3 := setRow_heap _ w2.heap.size _ (fk9 0) _ _ (heap_alloc_new w2 (.cells #[.int .i64 0, .nilFunc, .nilFunc, .nilFunc] 111))
  have b3 : Below w2.heap.size w2 ((w2.alloc (.cells #[.int .i64 0, .nilFunc, .nilFunc, .nilFunc] 111)).setRow w2.heap.size (fk9 0)) := ((Below.refl w2.heap.size w2).alloc (Nat.le_refl _) _).grown (grown_setRow _ _ _) (by simp) (fun j e => by cases e; exact Nat.le_refl _)
  have HT3 : Hid (Ta9 ((w2.alloc (.cells #[.int .i64 0, .nilFunc, .nilFunc, .nilFunc] 111)).setRow w2.heap.size (fk9 0)) tb (tal9 l)) := TA.keep (b3.block tb TA.lt)
  have c0 := HT3.out.cell (i := 0) (by omega)
  rw [HSZ.out] at c0
  have i3 : bits .or .u64 0 1 = 1 := by decide
  have HB3 : Hid (Below w.heap.size w ((w2.alloc (.cells #[.int .i64 0, .nilFunc, .nilFunc, .nilFunc] 111)).setRow w2.heap.size (fk9 0))) := B2.trans (b3.mono B2.size)
  have HQ3 : Hid (((w2.alloc (.cells #[.int .i64 0, .nilFunc, .nilFunc, .nilFunc] 111)).setRow w2.heap.size (fk9 0)).heap[w2.heap.size]? = some (.cells (fk9 0) 111 (0, 0))) := q3
  have hw2 : w.heap.size ≤ w2.heap.size := B2.size
  have htw : w.heap.size ≤ tb := Nat.le_trans b1.size htb
  clear b1 b2 b3 q3 TA B2 htb HPL f0
  go_wp2_with (refine wpList_store_row rfl 111 (.tmp 11) (.tmp 24) rfl w2.heap.size (fk9 0) rfl rfl _ _ (heap_alloc_new w2 _) fi fs fo ?_)
  generalize (w2.alloc (.cells #[.int .i64 0, .nilFunc, .nilFunc, .nilFunc] 111)).setRow w2.heap.size (fk9 0) = w3 at *
  have HI0 : WrI w3 w3 bw B v L := WrI.start (HW.out.below8 HB3.out)
  have CPU := put8 HI0 1 3 (by decide) (by omega) (by omega)
  refine CPU.mono ?_
  rintro e w4 ⟨rfl, v4, W4, K4, F4⟩
  have hww : w2.heap.size < w3.heap.size := (Array.getElem?_eq_some_iff.1 HQ3.out).1
  have hfr : ∀ k, w.heap.size ≤ k → ¬ WS bw v k := fun k hk => by
    have h := HOL.out
    rintro (e | e)
    · omega
    · have := (h.2 k e).2; omega
  have q4 := K4.heap HQ3.out (hfr _ hw2)
  have d2 : w4.cell? ⟨w2.heap.size, 2, none⟩ = some (.func (.func 75) #[] #[]) := (cell_of_row w4 _ 2 _ _ _ q4).trans f2
  have hown : ∀ g, g < w.heap.size → ¬ WS bw v g → ¬ WS bw v4 g := fun g hg h => by
    rintro (q | q)
    · exact h (.inl q)
    · rcases F4 g q with q | q
      · exact h (.inr q)
      · have := HB3.out.size; omega
  have ST4 : SegT w4 a l := (HS.out.old HB3.out).kp K4 (fun g o e h => HFA.out g o e (by have := hn.out; omega))
  have fa4 : ∀ g o, a = some ⟨g, o, none⟩ → 0 < n → ¬ WS bw v4 g := fun g o e h => hown g (HS.out.lt g o e (by have := hn.out; omega)) (HFA.out g o e h)
  have hl4 : (L ++ bN 1 3).length = L.length + 3 := by rw [List.length_append, bN_len]
  have CT := fun lv tv => pwst9 bw B v4 (L ++ bN 1 3) data xa nx xc hdl lv tv w4 W4 (by omega) (HNX.out.resolve_right (by omega)) ((HSD.out.old HB3.out).kp K4 (fun g o e h => (HFX.out g o e h).1)) hnil (fun g o e h => ⟨hown g (HFX.out g o e h).2 (HFX.out g o e h).1, by have := (HFX.out g o e h).2; have := HB3.out.size; have := K4.size; omega⟩)
  rw [hl4] at CT
  have HFIN : Hid (∀ W, WrI w4 W bw B v4 ((L ++ bN 1 3) ++ (List.replicate (padN (L.length + 3)) false ++ bN nx 16 ++ bN (65535 - nx) 16 ++ bB data)) → WrI w W bw B v (L ++ blk9 0 (L.length % 8) true data l)) := fun W h => by
    obtain ⟨v5, r5, k5, f5⟩ := h
    have := WrI.up HB3.out (WrI.next K4 F4 r5 k5 f5)
    rw [List.append_assoc] at this
    unfold blk9
    rw [if_pos rfl, ← pad9_mod, hdl.out]
    exact this
  clear HI0 CPU c0 i3 q4 ST4 fa4 hown hfr K4 F4 W4 HT3 HQ3 HB3 hl4
  go_wp2_with fail
  refine (CT _ _).mono ?_
  rintro e w6 ⟨rfl, HI6⟩
  have HF := HFIN.out w6 HI6
  clear CT HFIN HI6
  go_wp2_with fail
  go_ret
  exact ⟨rfl, HF⟩
end Go.Proofs.YtcifalelnfeggaaGreatDoor

namespace Go.Proofs.YtcifalelnfeggaaGreatDoor
open Go.RowKit
set_option linter.unusedVariables false

/-! The landed block: Write, kind 1. -/
set_option maxRecDepth 100000 in
set_option maxHeartbeats 8000000 in
theorem pwr9_1f (bw B : Nat) (v : Value) (L : List Bool) (data : List Int) (xa : Option Addr) (nx xc : Nat) (hdl : Hid (data.length = nx)) (l : List Tok7) (a : Option Addr) (n cap : Nat) (hn : Hid (l.length = n)) (w : World) (hw : WrL w bw B v L) (hL : L.length ≤ 900000000000) (hs : SegT w a l) (hm : mer9 l = 0) (hx : siz7 l = nx) (hsz : (tal9 l).getD 0 0 ≤ mst9 1) (hsd : Seg w xa data) (hnil : xa = none → xc = 0) (fx : ∀ g o, xa = some ⟨g, o, none⟩ → 0 < data.length → ¬ WS bw v g ∧ g < w.heap.size) (fa : ∀ g o, a = some ⟨g, o, none⟩ → 0 < n → ¬ WS bw v g) (T : TabS w) (O : TabO w) (hbw : 2 ≤ bw) (hB : 2 ≤ B) :
    Calls Tryz.prog 34 #[.pointer (some ⟨bw, 0, none⟩), .int .i64 1, .bool false, .slice xa nx xc, .slice a n cap] w fun e w' => e = .returned (.int .i64 0) ∧ WrI w w' bw B v (L ++ blk9 1 (L.length % 8) false data l) := by
  have CL := len_any bw B v L w hw (by omega)
  have hSZ : (tal9 l).getD 0 0 = (nx : Int) := by rw [tal9_size hm hs.fit, hx]
  have HPL : Hid (∀ W, Below w.heap.size w W → ∀ x : Int, x = ((L.length % 8 : Nat) : Int) → Calls Tryz.prog 51 #[.int .i64 1, .int .i64 x, .slice a n cap] W fun e w' => ∃ b, W.heap.size ≤ b ∧ e = .returned (.tuple #[.agg (fk9 1), .pointer (some ⟨b, 0, none⟩), .int .i64 0]) ∧ Ta9 w' b (tal9 l) ∧ Below W.heap.size W w') := fun W hW x hx => by
    subst hx
    exact pplan9_ok l a n cap hn 1 (by omega) _ (by omega) W (hs.old hW) (by have := (mer9_zero hm).1; rw [hn.out] at this; exact this) (mer9_zero hm).2 hsz
  have HS : Hid (SegT w a l) := hs
  have HM : Hid (mer9 l = 0) := hm
  have HSD : Hid (Seg w xa data) := hsd
  have HSZ : Hid ((tal9 l).getD 0 0 = (nx : Int)) := hSZ
  have HNX : Hid (nx ≤ 65535 ∨ 1 ≠ 0) := by
    have h : (nx : Int) ≤ mst9 1 := by rw [← hSZ]; exact hsz
    unfold mst9 at h
    first | (left; rw [if_pos rfl] at h; omega) | (right; omega)
  have HFX : Hid (∀ g o, xa = some ⟨g, o, none⟩ → 0 < data.length → ¬ WS bw v g ∧ g < w.heap.size) := fx
  have HFA : Hid (∀ g o, a = some ⟨g, o, none⟩ → 0 < n → ¬ WS bw v g) := fa
  have HTO : Hid (TabS w ∧ TabO w) := ⟨T, O⟩
  have HBB : Hid (2 ≤ bw ∧ 2 ≤ B) := ⟨hbw, hB⟩
  have HOL : Hid (bw < w.heap.size ∧ ∀ k, v.ownBlock = some k → B ≤ k ∧ k < w.heap.size) := ⟨hw.b_lt, fun k e => ⟨(hw.own_lt k e).1, (hw.own_lt k e).2.1⟩⟩
  have HW : Hid (WrL w bw B v L) := hw
  clear hw hs hm hx hsz hsd fx fa T O hbw hB hSZ
  go_enter Tryz.func34, Tryz.ntmps34
  go_wp2_with fail
  refine CL.mono ?_
  rintro e w1 ⟨rfl, b1⟩
  clear CL
  go_wp2_with fail
  refine (HPL.out w1 b1 _ (by first | omega | (rw [Int.tmod_eq_emod_of_nonneg (by omega)]; omega))).mono ?_
  rintro e w2 ⟨tb, htb, rfl, TA, b2⟩
  have B2 : Below w.heap.size w w2 := b1.trans (b2.mono b1.size)
  obtain ⟨fi, fs, fo, f0⟩ := fk9_facts 1 (by omega)
  have f2 : (fk9 1)[2]? = some (fnv9 78) := by kernel_rfl
  have q3 := setRow_heap _ w2.heap.size _ (fk9 1) _ _ (heap_alloc_new w2 (.cells #[.int .i64 0, .nilFunc, .nilFunc, .nilFunc] 111))
  have b3 : Below w2.heap.size w2 ((w2.alloc (.cells #[.int .i64 0, .nilFunc, .nilFunc, .nilFunc] 111)).setRow w2.heap.size (fk9 1)) := ((Below.refl w2.heap.size w2).alloc (Nat.le_refl _) _).grown (grown_setRow _ _ _) (by simp) (fun j e => by cases e; exact Nat.le_refl _)
  have HT3 : Hid (Ta9 ((w2.alloc (.cells #[.int .i64 0, .nilFunc, .nilFunc, .nilFunc] 111)).setRow w2.heap.size (fk9 1)) tb (tal9 l)) := TA.keep (b3.block tb TA.lt)
  have c0 := HT3.out.cell (i := 0) (by omega)
  rw [HSZ.out] at c0
  have HB3 : Hid (Below w.heap.size w ((w2.alloc (.cells #[.int .i64 0, .nilFunc, .nilFunc, .nilFunc] 111)).setRow w2.heap.size (fk9 1))) := B2.trans (b3.mono B2.size)
  have HQ3 : Hid (((w2.alloc (.cells #[.int .i64 0, .nilFunc, .nilFunc, .nilFunc] 111)).setRow w2.heap.size (fk9 1)).heap[w2.heap.size]? = some (.cells (fk9 1) 111 (0, 0))) := q3
  have hw2 : w.heap.size ≤ w2.heap.size := B2.size
  have htw : w.heap.size ≤ tb := Nat.le_trans b1.size htb
  clear b1 b2 b3 q3 TA B2 htb HPL f0
  go_wp2_with (refine wpList_store_row rfl 111 (.tmp 11) (.tmp 24) rfl w2.heap.size (fk9 1) rfl rfl _ _ (heap_alloc_new w2 _) fi fs fo ?_)
  generalize (w2.alloc (.cells #[.int .i64 0, .nilFunc, .nilFunc, .nilFunc] 111)).setRow w2.heap.size (fk9 1) = w3 at *
  have HI0 : WrI w3 w3 bw B v L := WrI.start (HW.out.below8 HB3.out)
  have CPU := put8 HI0 2 3 (by decide) (by omega) (by omega)
  refine CPU.mono ?_
  rintro e w4 ⟨rfl, v4, W4, K4, F4⟩
  have hww : w2.heap.size < w3.heap.size := (Array.getElem?_eq_some_iff.1 HQ3.out).1
  have hfr : ∀ k, w.heap.size ≤ k → ¬ WS bw v k := fun k hk => by
    have h := HOL.out
    rintro (e | e)
    · omega
    · have := (h.2 k e).2; omega
  have q4 := K4.heap HQ3.out (hfr _ hw2)
  have d2 : w4.cell? ⟨w2.heap.size, 2, none⟩ = some (.func (.func 78) #[] #[]) := (cell_of_row w4 _ 2 _ _ _ q4).trans f2
  have hown : ∀ g, g < w.heap.size → ¬ WS bw v g → ¬ WS bw v4 g := fun g hg h => by
    rintro (q | q)
    · exact h (.inl q)
    · rcases F4 g q with q | q
      · exact h (.inr q)
      · have := HB3.out.size; omega
  have ST4 : SegT w4 a l := (HS.out.old HB3.out).kp K4 (fun g o e h => HFA.out g o e (by have := hn.out; omega))
  have fa4 : ∀ g o, a = some ⟨g, o, none⟩ → 0 < n → ¬ WS bw v4 g := fun g o e h => hown g (HS.out.lt g o e (by have := hn.out; omega)) (HFA.out g o e h)
  have hl4 : (L ++ bN 2 3).length = L.length + 3 := by rw [List.length_append, bN_len]
  have CT := fun dv tv => pwpl9 bw B v4 (L ++ bN 2 3) l a n cap hn dv tv w4 W4 (by omega) ST4 (by have := (mer9_zero HM.out).1; rw [hn.out] at this; exact this) (mer9_zero HM.out).2 fa4
  have HFIN : Hid (∀ W, WrI w4 W bw B v4 ((L ++ bN 2 3) ++ bdy9 plnL9 plnD9 l) → WrI w W bw B v (L ++ blk9 1 (L.length % 8) false data l)) := fun W h => by
    obtain ⟨v5, r5, k5, f5⟩ := h
    have := WrI.up HB3.out (WrI.next K4 F4 r5 k5 f5)
    rw [List.append_assoc] at this
    unfold blk9
    rw [if_neg (by omega), if_pos rfl]
    exact this
  clear HI0 CPU c0 q4 ST4 fa4 hown hfr K4 F4 W4 HT3 HQ3 HB3 hl4
  go_wp2_with fail
  refine (CT _ _).mono ?_
  rintro e w6 ⟨rfl, HI6⟩
  have HF := HFIN.out w6 HI6
  clear CT HFIN HI6
  go_wp2_with fail
  go_ret
  exact ⟨rfl, HF⟩
set_option maxRecDepth 100000 in
set_option maxHeartbeats 8000000 in
theorem pwr9_1t (bw B : Nat) (v : Value) (L : List Bool) (data : List Int) (xa : Option Addr) (nx xc : Nat) (hdl : Hid (data.length = nx)) (l : List Tok7) (a : Option Addr) (n cap : Nat) (hn : Hid (l.length = n)) (w : World) (hw : WrL w bw B v L) (hL : L.length ≤ 900000000000) (hs : SegT w a l) (hm : mer9 l = 0) (hx : siz7 l = nx) (hsz : (tal9 l).getD 0 0 ≤ mst9 1) (hsd : Seg w xa data) (hnil : xa = none → xc = 0) (fx : ∀ g o, xa = some ⟨g, o, none⟩ → 0 < data.length → ¬ WS bw v g ∧ g < w.heap.size) (fa : ∀ g o, a = some ⟨g, o, none⟩ → 0 < n → ¬ WS bw v g) (T : TabS w) (O : TabO w) (hbw : 2 ≤ bw) (hB : 2 ≤ B) :
    Calls Tryz.prog 34 #[.pointer (some ⟨bw, 0, none⟩), .int .i64 1, .bool true, .slice xa nx xc, .slice a n cap] w fun e w' => e = .returned (.int .i64 0) ∧ WrI w w' bw B v (L ++ blk9 1 (L.length % 8) true data l) := by
  have CL := len_any bw B v L w hw (by omega)
  have hSZ : (tal9 l).getD 0 0 = (nx : Int) := by rw [tal9_size hm hs.fit, hx]
  have HPL : Hid (∀ W, Below w.heap.size w W → ∀ x : Int, x = ((L.length % 8 : Nat) : Int) → Calls Tryz.prog 51 #[.int .i64 1, .int .i64 x, .slice a n cap] W fun e w' => ∃ b, W.heap.size ≤ b ∧ e = .returned (.tuple #[.agg (fk9 1), .pointer (some ⟨b, 0, none⟩), .int .i64 0]) ∧ Ta9 w' b (tal9 l) ∧ Below W.heap.size W w') := fun W hW x hx => by
    subst hx
    exact pplan9_ok l a n cap hn 1 (by omega) _ (by omega) W (hs.old hW) (by have := (mer9_zero hm).1; rw [hn.out] at this; exact this) (mer9_zero hm).2 hsz
  have HS : Hid (SegT w a l) := hs
  have HM : Hid (mer9 l = 0) := hm
  have HSD : Hid (Seg w xa data) := hsd
  have HSZ : Hid ((tal9 l).getD 0 0 = (nx : Int)) := hSZ
  have HNX : Hid (nx ≤ 65535 ∨ 1 ≠ 0) := by
    have h : (nx : Int) ≤ mst9 1 := by rw [← hSZ]; exact hsz
    unfold mst9 at h
    first | (left; rw [if_pos rfl] at h; omega) | (right; omega)
  have HFX : Hid (∀ g o, xa = some ⟨g, o, none⟩ → 0 < data.length → ¬ WS bw v g ∧ g < w.heap.size) := fx
  have HFA : Hid (∀ g o, a = some ⟨g, o, none⟩ → 0 < n → ¬ WS bw v g) := fa
  have HTO : Hid (TabS w ∧ TabO w) := ⟨T, O⟩
  have HBB : Hid (2 ≤ bw ∧ 2 ≤ B) := ⟨hbw, hB⟩
  have HOL : Hid (bw < w.heap.size ∧ ∀ k, v.ownBlock = some k → B ≤ k ∧ k < w.heap.size) := ⟨hw.b_lt, fun k e => ⟨(hw.own_lt k e).1, (hw.own_lt k e).2.1⟩⟩
  have HW : Hid (WrL w bw B v L) := hw
  clear hw hs hm hx hsz hsd fx fa T O hbw hB hSZ
  go_enter Tryz.func34, Tryz.ntmps34
  go_wp2_with fail
  refine CL.mono ?_
  rintro e w1 ⟨rfl, b1⟩
  clear CL
  go_wp2_with fail
  refine (HPL.out w1 b1 _ (by first | omega | (rw [Int.tmod_eq_emod_of_nonneg (by omega)]; omega))).mono ?_
  rintro e w2 ⟨tb, htb, rfl, TA, b2⟩
  have B2 : Below w.heap.size w w2 := b1.trans (b2.mono b1.size)
  obtain ⟨fi, fs, fo, f0⟩ := fk9_facts 1 (by omega)
  have f2 : (fk9 1)[2]? = some (fnv9 78) := by kernel_rfl
  have q3 := setRow_heap _ w2.heap.size _ (fk9 1) _ _ (heap_alloc_new w2 (.cells #[.int .i64 0, .nilFunc, .nilFunc, .nilFunc] 111))
  have b3 : Below w2.heap.size w2 ((w2.alloc (.cells #[.int .i64 0, .nilFunc, .nilFunc, .nilFunc] 111)).setRow w2.heap.size (fk9 1)) := ((Below.refl w2.heap.size w2).alloc (Nat.le_refl _) _).grown (grown_setRow _ _ _) (by simp) (fun j e => by cases e; exact Nat.le_refl _)
  have HT3 : Hid (Ta9 ((w2.alloc (.cells #[.int .i64 0, .nilFunc, .nilFunc, .nilFunc] 111)).setRow w2.heap.size (fk9 1)) tb (tal9 l)) := TA.keep (b3.block tb TA.lt)
  have c0 := HT3.out.cell (i := 0) (by omega)
  rw [HSZ.out] at c0
  have i3 : bits .or .u64 2 1 = 3 := by decide
  have HB3 : Hid (Below w.heap.size w ((w2.alloc (.cells #[.int .i64 0, .nilFunc, .nilFunc, .nilFunc] 111)).setRow w2.heap.size (fk9 1))) := B2.trans (b3.mono B2.size)
  have HQ3 : Hid (((w2.alloc (.cells #[.int .i64 0, .nilFunc, .nilFunc, .nilFunc] 111)).setRow w2.heap.size (fk9 1)).heap[w2.heap.size]? = some (.cells (fk9 1) 111 (0, 0))) := q3
  have hw2 : w.heap.size ≤ w2.heap.size := B2.size
  have htw : w.heap.size ≤ tb := Nat.le_trans b1.size htb
  clear b1 b2 b3 q3 TA B2 htb HPL f0
  go_wp2_with (refine wpList_store_row rfl 111 (.tmp 11) (.tmp 24) rfl w2.heap.size (fk9 1) rfl rfl _ _ (heap_alloc_new w2 _) fi fs fo ?_)
  generalize (w2.alloc (.cells #[.int .i64 0, .nilFunc, .nilFunc, .nilFunc] 111)).setRow w2.heap.size (fk9 1) = w3 at *
  have HI0 : WrI w3 w3 bw B v L := WrI.start (HW.out.below8 HB3.out)
  have CPU := put8 HI0 3 3 (by decide) (by omega) (by omega)
  refine CPU.mono ?_
  rintro e w4 ⟨rfl, v4, W4, K4, F4⟩
  have hww : w2.heap.size < w3.heap.size := (Array.getElem?_eq_some_iff.1 HQ3.out).1
  have hfr : ∀ k, w.heap.size ≤ k → ¬ WS bw v k := fun k hk => by
    have h := HOL.out
    rintro (e | e)
    · omega
    · have := (h.2 k e).2; omega
  have q4 := K4.heap HQ3.out (hfr _ hw2)
  have d2 : w4.cell? ⟨w2.heap.size, 2, none⟩ = some (.func (.func 78) #[] #[]) := (cell_of_row w4 _ 2 _ _ _ q4).trans f2
  have hown : ∀ g, g < w.heap.size → ¬ WS bw v g → ¬ WS bw v4 g := fun g hg h => by
    rintro (q | q)
    · exact h (.inl q)
    · rcases F4 g q with q | q
      · exact h (.inr q)
      · have := HB3.out.size; omega
  have ST4 : SegT w4 a l := (HS.out.old HB3.out).kp K4 (fun g o e h => HFA.out g o e (by have := hn.out; omega))
  have fa4 : ∀ g o, a = some ⟨g, o, none⟩ → 0 < n → ¬ WS bw v4 g := fun g o e h => hown g (HS.out.lt g o e (by have := hn.out; omega)) (HFA.out g o e h)
  have hl4 : (L ++ bN 3 3).length = L.length + 3 := by rw [List.length_append, bN_len]
  have CT := fun dv tv => pwpl9 bw B v4 (L ++ bN 3 3) l a n cap hn dv tv w4 W4 (by omega) ST4 (by have := (mer9_zero HM.out).1; rw [hn.out] at this; exact this) (mer9_zero HM.out).2 fa4
  have HFIN : Hid (∀ W, WrI w4 W bw B v4 ((L ++ bN 3 3) ++ bdy9 plnL9 plnD9 l) → WrI w W bw B v (L ++ blk9 1 (L.length % 8) true data l)) := fun W h => by
    obtain ⟨v5, r5, k5, f5⟩ := h
    have := WrI.up HB3.out (WrI.next K4 F4 r5 k5 f5)
    rw [List.append_assoc] at this
    unfold blk9
    rw [if_neg (by omega), if_pos rfl]
    exact this
  clear HI0 CPU c0 i3 q4 ST4 fa4 hown hfr K4 F4 W4 HT3 HQ3 HB3 hl4
  go_wp2_with fail
  refine (CT _ _).mono ?_
  rintro e w6 ⟨rfl, HI6⟩
  have HF := HFIN.out w6 HI6
  clear CT HFIN HI6
  go_wp2_with fail
  go_ret
  exact ⟨rfl, HF⟩
end Go.Proofs.YtcifalelnfeggaaGreatDoor

namespace Go.Proofs.YtcifalelnfeggaaGreatDoor
open Go.RowKit
set_option linter.unusedVariables false

/-! The landed block: Write, kind 2. -/
set_option maxRecDepth 100000 in
set_option maxHeartbeats 8000000 in
theorem pwr9_2f (bw B : Nat) (v : Value) (L : List Bool) (data : List Int) (xa : Option Addr) (nx xc : Nat) (hdl : Hid (data.length = nx)) (l : List Tok7) (a : Option Addr) (n cap : Nat) (hn : Hid (l.length = n)) (w : World) (hw : WrL w bw B v L) (hL : L.length ≤ 900000000000) (hs : SegT w a l) (hm : mer9 l = 0) (hx : siz7 l = nx) (hsz : (tal9 l).getD 0 0 ≤ mst9 2) (hsd : Seg w xa data) (hnil : xa = none → xc = 0) (fx : ∀ g o, xa = some ⟨g, o, none⟩ → 0 < data.length → ¬ WS bw v g ∧ g < w.heap.size) (fa : ∀ g o, a = some ⟨g, o, none⟩ → 0 < n → ¬ WS bw v g) (T : TabS w) (O : TabO w) (hbw : 2 ≤ bw) (hB : 2 ≤ B) :
    Calls Tryz.prog 34 #[.pointer (some ⟨bw, 0, none⟩), .int .i64 2, .bool false, .slice xa nx xc, .slice a n cap] w fun e w' => e = .returned (.int .i64 0) ∧ WrI w w' bw B v (L ++ blk9 2 (L.length % 8) false data l) := by
  have CL := len_any bw B v L w hw (by omega)
  have hSZ : (tal9 l).getD 0 0 = (nx : Int) := by rw [tal9_size hm hs.fit, hx]
  have HPL : Hid (∀ W, Below w.heap.size w W → ∀ x : Int, x = ((L.length % 8 : Nat) : Int) → Calls Tryz.prog 51 #[.int .i64 2, .int .i64 x, .slice a n cap] W fun e w' => ∃ b, W.heap.size ≤ b ∧ e = .returned (.tuple #[.agg (fk9 2), .pointer (some ⟨b, 0, none⟩), .int .i64 0]) ∧ Ta9 w' b (tal9 l) ∧ Below W.heap.size W w') := fun W hW x hx => by
    subst hx
    exact pplan9_ok l a n cap hn 2 (by omega) _ (by omega) W (hs.old hW) (by have := (mer9_zero hm).1; rw [hn.out] at this; exact this) (mer9_zero hm).2 hsz
  have HS : Hid (SegT w a l) := hs
  have HM : Hid (mer9 l = 0) := hm
  have HSD : Hid (Seg w xa data) := hsd
  have HSZ : Hid ((tal9 l).getD 0 0 = (nx : Int)) := hSZ
  have HNX : Hid (nx ≤ 65535 ∨ 2 ≠ 0) := by
    have h : (nx : Int) ≤ mst9 2 := by rw [← hSZ]; exact hsz
    unfold mst9 at h
    first | (left; rw [if_pos rfl] at h; omega) | (right; omega)
  have HFX : Hid (∀ g o, xa = some ⟨g, o, none⟩ → 0 < data.length → ¬ WS bw v g ∧ g < w.heap.size) := fx
  have HFA : Hid (∀ g o, a = some ⟨g, o, none⟩ → 0 < n → ¬ WS bw v g) := fa
  have HTO : Hid (TabS w ∧ TabO w) := ⟨T, O⟩
  have HBB : Hid (2 ≤ bw ∧ 2 ≤ B) := ⟨hbw, hB⟩
  have HOL : Hid (bw < w.heap.size ∧ ∀ k, v.ownBlock = some k → B ≤ k ∧ k < w.heap.size) := ⟨hw.b_lt, fun k e => ⟨(hw.own_lt k e).1, (hw.own_lt k e).2.1⟩⟩
  have HW : Hid (WrL w bw B v L) := hw
  clear hw hs hm hx hsz hsd fx fa T O hbw hB hSZ
  go_enter Tryz.func34, Tryz.ntmps34
  go_wp2_with fail
  refine CL.mono ?_
  rintro e w1 ⟨rfl, b1⟩
  clear CL
  go_wp2_with fail
  refine (HPL.out w1 b1 _ (by first | omega | (rw [Int.tmod_eq_emod_of_nonneg (by omega)]; omega))).mono ?_
  rintro e w2 ⟨tb, htb, rfl, TA, b2⟩
  have B2 : Below w.heap.size w w2 := b1.trans (b2.mono b1.size)
  obtain ⟨fi, fs, fo, f0⟩ := fk9_facts 2 (by omega)
  have f2 : (fk9 2)[2]? = some (fnv9 81) := by kernel_rfl
  have q3 := setRow_heap _ w2.heap.size _ (fk9 2) _ _ (heap_alloc_new w2 (.cells #[.int .i64 0, .nilFunc, .nilFunc, .nilFunc] 111))
  have b3 : Below w2.heap.size w2 ((w2.alloc (.cells #[.int .i64 0, .nilFunc, .nilFunc, .nilFunc] 111)).setRow w2.heap.size (fk9 2)) := ((Below.refl w2.heap.size w2).alloc (Nat.le_refl _) _).grown (grown_setRow _ _ _) (by simp) (fun j e => by cases e; exact Nat.le_refl _)
  have HT3 : Hid (Ta9 ((w2.alloc (.cells #[.int .i64 0, .nilFunc, .nilFunc, .nilFunc] 111)).setRow w2.heap.size (fk9 2)) tb (tal9 l)) := TA.keep (b3.block tb TA.lt)
  have c0 := HT3.out.cell (i := 0) (by omega)
  rw [HSZ.out] at c0
  have HB3 : Hid (Below w.heap.size w ((w2.alloc (.cells #[.int .i64 0, .nilFunc, .nilFunc, .nilFunc] 111)).setRow w2.heap.size (fk9 2))) := B2.trans (b3.mono B2.size)
  have HQ3 : Hid (((w2.alloc (.cells #[.int .i64 0, .nilFunc, .nilFunc, .nilFunc] 111)).setRow w2.heap.size (fk9 2)).heap[w2.heap.size]? = some (.cells (fk9 2) 111 (0, 0))) := q3
  have hw2 : w.heap.size ≤ w2.heap.size := B2.size
  have htw : w.heap.size ≤ tb := Nat.le_trans b1.size htb
  clear b1 b2 b3 q3 TA B2 htb HPL f0
  go_wp2_with (refine wpList_store_row rfl 111 (.tmp 11) (.tmp 24) rfl w2.heap.size (fk9 2) rfl rfl _ _ (heap_alloc_new w2 _) fi fs fo ?_)
  generalize (w2.alloc (.cells #[.int .i64 0, .nilFunc, .nilFunc, .nilFunc] 111)).setRow w2.heap.size (fk9 2) = w3 at *
  have HI0 : WrI w3 w3 bw B v L := WrI.start (HW.out.below8 HB3.out)
  have CPU := put8 HI0 4 3 (by decide) (by omega) (by omega)
  refine CPU.mono ?_
  rintro e w4 ⟨rfl, v4, W4, K4, F4⟩
  have hww : w2.heap.size < w3.heap.size := (Array.getElem?_eq_some_iff.1 HQ3.out).1
  have hfr : ∀ k, w.heap.size ≤ k → ¬ WS bw v k := fun k hk => by
    have h := HOL.out
    rintro (e | e)
    · omega
    · have := (h.2 k e).2; omega
  have q4 := K4.heap HQ3.out (hfr _ hw2)
  have d2 : w4.cell? ⟨w2.heap.size, 2, none⟩ = some (.func (.func 81) #[] #[]) := (cell_of_row w4 _ 2 _ _ _ q4).trans f2
  have hown : ∀ g, g < w.heap.size → ¬ WS bw v g → ¬ WS bw v4 g := fun g hg h => by
    rintro (q | q)
    · exact h (.inl q)
    · rcases F4 g q with q | q
      · exact h (.inr q)
      · have := HB3.out.size; omega
  have ST4 : SegT w4 a l := (HS.out.old HB3.out).kp K4 (fun g o e h => HFA.out g o e (by have := hn.out; omega))
  have fa4 : ∀ g o, a = some ⟨g, o, none⟩ → 0 < n → ¬ WS bw v4 g := fun g o e h => hown g (HS.out.lt g o e (by have := hn.out; omega)) (HFA.out g o e h)
  have hl4 : (L ++ bN 4 3).length = L.length + 3 := by rw [List.length_append, bN_len]
  have T4 : TabS w4 := SegZ.kp (HTO.out.1.old HB3.out) K4 (fun g o e _ => by
    cases e
    rintro (q | q)
    · have := HBB.out.1; omega
    · have := (HOL.out.2 _ q).1; have := HBB.out.2; omega)
  have O4 : TabO w4 := SegZ.kp (HTO.out.2.old HB3.out) K4 (fun g o e _ => by
    cases e
    rintro (q | q)
    · have := HBB.out.1; omega
    · have := (HOL.out.2 _ q).1; have := HBB.out.2; omega)
  have CT := fun dv => pwow9 bw B v4 (L ++ bN 4 3) l a n cap hn dv tb w4 W4 (by omega) ST4 HM.out (HT3.out.keep (K4.block tb HT3.out.lt (hfr tb htw))) T4 O4 HBB.out.1 HBB.out.2 fa4
  have HFIN : Hid (∀ W, WrI w4 W bw B v4 ((L ++ bN 4 3) ++ (hd8 (oL9 (tal9 l)) (oD9 (tal9 l)) ++ bdy9 (oL9 (tal9 l)) (oD9 (tal9 l)) l)) → WrI w W bw B v (L ++ blk9 2 (L.length % 8) false data l)) := fun W h => by
    obtain ⟨v5, r5, k5, f5⟩ := h
    have := WrI.up HB3.out (WrI.next K4 F4 r5 k5 f5)
    rw [List.append_assoc] at this
    unfold blk9
    rw [if_neg (by omega), if_neg (by omega)]
    exact this
  clear HI0 CPU c0 q4 ST4 fa4 hown hfr K4 F4 W4 HT3 HQ3 HB3 hl4
  go_wp2_with fail
  refine (CT _).mono ?_
  rintro e w6 ⟨rfl, HI6⟩
  have HF := HFIN.out w6 HI6
  clear CT HFIN HI6
  go_wp2_with fail
  go_ret
  exact ⟨rfl, HF⟩
set_option maxRecDepth 100000 in
set_option maxHeartbeats 8000000 in
theorem pwr9_2t (bw B : Nat) (v : Value) (L : List Bool) (data : List Int) (xa : Option Addr) (nx xc : Nat) (hdl : Hid (data.length = nx)) (l : List Tok7) (a : Option Addr) (n cap : Nat) (hn : Hid (l.length = n)) (w : World) (hw : WrL w bw B v L) (hL : L.length ≤ 900000000000) (hs : SegT w a l) (hm : mer9 l = 0) (hx : siz7 l = nx) (hsz : (tal9 l).getD 0 0 ≤ mst9 2) (hsd : Seg w xa data) (hnil : xa = none → xc = 0) (fx : ∀ g o, xa = some ⟨g, o, none⟩ → 0 < data.length → ¬ WS bw v g ∧ g < w.heap.size) (fa : ∀ g o, a = some ⟨g, o, none⟩ → 0 < n → ¬ WS bw v g) (T : TabS w) (O : TabO w) (hbw : 2 ≤ bw) (hB : 2 ≤ B) :
    Calls Tryz.prog 34 #[.pointer (some ⟨bw, 0, none⟩), .int .i64 2, .bool true, .slice xa nx xc, .slice a n cap] w fun e w' => e = .returned (.int .i64 0) ∧ WrI w w' bw B v (L ++ blk9 2 (L.length % 8) true data l) := by
  have CL := len_any bw B v L w hw (by omega)
  have hSZ : (tal9 l).getD 0 0 = (nx : Int) := by rw [tal9_size hm hs.fit, hx]
  have HPL : Hid (∀ W, Below w.heap.size w W → ∀ x : Int, x = ((L.length % 8 : Nat) : Int) → Calls Tryz.prog 51 #[.int .i64 2, .int .i64 x, .slice a n cap] W fun e w' => ∃ b, W.heap.size ≤ b ∧ e = .returned (.tuple #[.agg (fk9 2), .pointer (some ⟨b, 0, none⟩), .int .i64 0]) ∧ Ta9 w' b (tal9 l) ∧ Below W.heap.size W w') := fun W hW x hx => by
    subst hx
    exact pplan9_ok l a n cap hn 2 (by omega) _ (by omega) W (hs.old hW) (by have := (mer9_zero hm).1; rw [hn.out] at this; exact this) (mer9_zero hm).2 hsz
  have HS : Hid (SegT w a l) := hs
  have HM : Hid (mer9 l = 0) := hm
  have HSD : Hid (Seg w xa data) := hsd
  have HSZ : Hid ((tal9 l).getD 0 0 = (nx : Int)) := hSZ
  have HNX : Hid (nx ≤ 65535 ∨ 2 ≠ 0) := by
    have h : (nx : Int) ≤ mst9 2 := by rw [← hSZ]; exact hsz
    unfold mst9 at h
    first | (left; rw [if_pos rfl] at h; omega) | (right; omega)
  have HFX : Hid (∀ g o, xa = some ⟨g, o, none⟩ → 0 < data.length → ¬ WS bw v g ∧ g < w.heap.size) := fx
  have HFA : Hid (∀ g o, a = some ⟨g, o, none⟩ → 0 < n → ¬ WS bw v g) := fa
  have HTO : Hid (TabS w ∧ TabO w) := ⟨T, O⟩
  have HBB : Hid (2 ≤ bw ∧ 2 ≤ B) := ⟨hbw, hB⟩
  have HOL : Hid (bw < w.heap.size ∧ ∀ k, v.ownBlock = some k → B ≤ k ∧ k < w.heap.size) := ⟨hw.b_lt, fun k e => ⟨(hw.own_lt k e).1, (hw.own_lt k e).2.1⟩⟩
  have HW : Hid (WrL w bw B v L) := hw
  clear hw hs hm hx hsz hsd fx fa T O hbw hB hSZ
  go_enter Tryz.func34, Tryz.ntmps34
  go_wp2_with fail
  refine CL.mono ?_
  rintro e w1 ⟨rfl, b1⟩
  clear CL
  go_wp2_with fail
  refine (HPL.out w1 b1 _ (by first | omega | (rw [Int.tmod_eq_emod_of_nonneg (by omega)]; omega))).mono ?_
  rintro e w2 ⟨tb, htb, rfl, TA, b2⟩
  have B2 : Below w.heap.size w w2 := b1.trans (b2.mono b1.size)
  obtain ⟨fi, fs, fo, f0⟩ := fk9_facts 2 (by omega)
  have f2 : (fk9 2)[2]? = some (fnv9 81) := by kernel_rfl
  have q3 := setRow_heap _ w2.heap.size _ (fk9 2) _ _ (heap_alloc_new w2 (.cells #[.int .i64 0, .nilFunc, .nilFunc, .nilFunc] 111))
  have b3 : Below w2.heap.size w2 ((w2.alloc (.cells #[.int .i64 0, .nilFunc, .nilFunc, .nilFunc] 111)).setRow w2.heap.size (fk9 2)) := ((Below.refl w2.heap.size w2).alloc (Nat.le_refl _) _).grown (grown_setRow _ _ _) (by simp) (fun j e => by cases e; exact Nat.le_refl _)
  have HT3 : Hid (Ta9 ((w2.alloc (.cells #[.int .i64 0, .nilFunc, .nilFunc, .nilFunc] 111)).setRow w2.heap.size (fk9 2)) tb (tal9 l)) := TA.keep (b3.block tb TA.lt)
  have c0 := HT3.out.cell (i := 0) (by omega)
  rw [HSZ.out] at c0
  have i3 : bits .or .u64 4 1 = 5 := by decide
  have HB3 : Hid (Below w.heap.size w ((w2.alloc (.cells #[.int .i64 0, .nilFunc, .nilFunc, .nilFunc] 111)).setRow w2.heap.size (fk9 2))) := B2.trans (b3.mono B2.size)
  have HQ3 : Hid (((w2.alloc (.cells #[.int .i64 0, .nilFunc, .nilFunc, .nilFunc] 111)).setRow w2.heap.size (fk9 2)).heap[w2.heap.size]? = some (.cells (fk9 2) 111 (0, 0))) := q3
  have hw2 : w.heap.size ≤ w2.heap.size := B2.size
  have htw : w.heap.size ≤ tb := Nat.le_trans b1.size htb
  clear b1 b2 b3 q3 TA B2 htb HPL f0
  go_wp2_with (refine wpList_store_row rfl 111 (.tmp 11) (.tmp 24) rfl w2.heap.size (fk9 2) rfl rfl _ _ (heap_alloc_new w2 _) fi fs fo ?_)
  generalize (w2.alloc (.cells #[.int .i64 0, .nilFunc, .nilFunc, .nilFunc] 111)).setRow w2.heap.size (fk9 2) = w3 at *
  have HI0 : WrI w3 w3 bw B v L := WrI.start (HW.out.below8 HB3.out)
  have CPU := put8 HI0 5 3 (by decide) (by omega) (by omega)
  refine CPU.mono ?_
  rintro e w4 ⟨rfl, v4, W4, K4, F4⟩
  have hww : w2.heap.size < w3.heap.size := (Array.getElem?_eq_some_iff.1 HQ3.out).1
  have hfr : ∀ k, w.heap.size ≤ k → ¬ WS bw v k := fun k hk => by
    have h := HOL.out
    rintro (e | e)
    · omega
    · have := (h.2 k e).2; omega
  have q4 := K4.heap HQ3.out (hfr _ hw2)
  have d2 : w4.cell? ⟨w2.heap.size, 2, none⟩ = some (.func (.func 81) #[] #[]) := (cell_of_row w4 _ 2 _ _ _ q4).trans f2
  have hown : ∀ g, g < w.heap.size → ¬ WS bw v g → ¬ WS bw v4 g := fun g hg h => by
    rintro (q | q)
    · exact h (.inl q)
    · rcases F4 g q with q | q
      · exact h (.inr q)
      · have := HB3.out.size; omega
  have ST4 : SegT w4 a l := (HS.out.old HB3.out).kp K4 (fun g o e h => HFA.out g o e (by have := hn.out; omega))
  have fa4 : ∀ g o, a = some ⟨g, o, none⟩ → 0 < n → ¬ WS bw v4 g := fun g o e h => hown g (HS.out.lt g o e (by have := hn.out; omega)) (HFA.out g o e h)
  have hl4 : (L ++ bN 5 3).length = L.length + 3 := by rw [List.length_append, bN_len]
  have T4 : TabS w4 := SegZ.kp (HTO.out.1.old HB3.out) K4 (fun g o e _ => by
    cases e
    rintro (q | q)
    · have := HBB.out.1; omega
    · have := (HOL.out.2 _ q).1; have := HBB.out.2; omega)
  have O4 : TabO w4 := SegZ.kp (HTO.out.2.old HB3.out) K4 (fun g o e _ => by
    cases e
    rintro (q | q)
    · have := HBB.out.1; omega
    · have := (HOL.out.2 _ q).1; have := HBB.out.2; omega)
  have CT := fun dv => pwow9 bw B v4 (L ++ bN 5 3) l a n cap hn dv tb w4 W4 (by omega) ST4 HM.out (HT3.out.keep (K4.block tb HT3.out.lt (hfr tb htw))) T4 O4 HBB.out.1 HBB.out.2 fa4
  have HFIN : Hid (∀ W, WrI w4 W bw B v4 ((L ++ bN 5 3) ++ (hd8 (oL9 (tal9 l)) (oD9 (tal9 l)) ++ bdy9 (oL9 (tal9 l)) (oD9 (tal9 l)) l)) → WrI w W bw B v (L ++ blk9 2 (L.length % 8) true data l)) := fun W h => by
    obtain ⟨v5, r5, k5, f5⟩ := h
    have := WrI.up HB3.out (WrI.next K4 F4 r5 k5 f5)
    rw [List.append_assoc] at this
    unfold blk9
    rw [if_neg (by omega), if_neg (by omega)]
    exact this
  clear HI0 CPU c0 i3 q4 ST4 fa4 hown hfr K4 F4 W4 HT3 HQ3 HB3 hl4
  go_wp2_with fail
  refine (CT _).mono ?_
  rintro e w6 ⟨rfl, HI6⟩
  have HF := HFIN.out w6 HI6
  clear CT HFIN HI6
  go_wp2_with fail
  go_ret
  exact ⟨rfl, HF⟩
end Go.Proofs.YtcifalelnfeggaaGreatDoor
