import Derived.Test.YtcifalelnfeggaaGreatDoorPr
import Derived.Test.YtcifalelnfeggaaGreatDoorPn
import Derived.Test.YtcifalelnfeggaaGreatDoorPm
import Derived.Test.YtcifalelnfeggaaGreatDoorPg
import Derived.Laws.BitsAllLaws
import Derived.Test.YtcifalelnfeggaaGreatDoorPq
namespace Go.Proofs.YtcifalelnfeggaaGreatDoor
open Go.RowKit
set_option linter.unusedVariables false

/-! A tally's size; each symbol has a code. -/
theorem tst9_size {X : List Int} (hX : X.length = 318) {t : Tok7} (hf : t.Fit) (hm : may7 t) : (tst9 X t).getD 0 0 = X.getD 0 0 + (wid7 t : Int) := by
  obtain ⟨a, b, c⟩ := fit_may9 hf hm
  unfold tst9
  rcases c with ⟨c, _⟩ | ⟨c, c3, c4, c5, c6, _⟩
  · rw [if_pos c, inc9_get _ _ _ _ (by rw [inc9_len, hX]; omega), inc9_get _ _ _ _ (by omega), if_pos rfl, if_neg (by omega)]
    omega
  · have h1 := (lspec9 c3).2.1
    have h2 := (dspec9 c5).2.1
    rw [if_neg c, inc9_get _ _ _ _ (by simp only [inc9_len, hX]; omega), inc9_get _ _ _ _ (by simp only [inc9_len, hX]; omega), inc9_get _ _ _ _ (by simp only [inc9_len, hX]; omega), inc9_get _ _ _ _ (by simp only [inc9_len, hX]; omega), inc9_get _ _ _ _ (by omega)]
    simp only [eq_false (show ¬ 1 = 0 by omega), eq_false (show ¬ 259 + lix9 t.len = 0 by omega), eq_false (show ¬ 288 + dix9 t.dist = 0 by omega), if_false, if_true]
    omega
theorem siz7_app9 : ∀ a b : List Tok7, siz7 (a ++ b) = siz7 a + siz7 b
  | [], b => by simp [siz7]
  | t :: a, b => by rw [List.cons_append, siz7, siz7, siz7_app9 a b]; omega
theorem tals9_sizek (l : List Tok7) (hf : ∀ t ∈ l, t.Fit) (hm : ∀ t ∈ l, may7 t) : ∀ k, k ≤ l.length → (tals9 (l.take k)).getD 0 0 = (siz7 (l.take k) : Int)
  | 0, _ => by
    rw [List.take_zero]
    exact repl_get 318 0
  | k + 1, hk => by
    have h1 := tals9_sizek l hf hm k (by omega)
    have hmem : l.getD k tk0 ∈ l := by simp only [List.getD, List.getElem?_eq_getElem (show k < l.length by omega), Option.getD_some]; exact List.getElem_mem _
    rw [takeT7 (by omega), tals9_snoc, tst9_size (tals9_len (l.take k)) (hf _ hmem) (hm _ hmem), h1, siz7_app9]
    simp [siz7]
theorem tal9_size {l : List Tok7} (hm : mer9 l = 0) (hf : ∀ t ∈ l, t.Fit) : (tal9 l).getD 0 0 = (siz7 l : Int) := by
  have := tals9_sizek l hf (mer9_zero hm).2 l.length (Nat.le_refl _)
  rw [List.take_of_length_le (Nat.le_refl _)] at this
  unfold tal9
  rw [gset9 _ _ _ _ (by rw [tals9_len]; omega), if_neg (by omega), this]
theorem put_one9 {Z : List Int} (h : errC Z = 0) {k : Nat} (hk : k < Z.length) (hz : Z.getD k 0 ≠ 0) : 1 ≤ (putB Z (k : Int)).length := by
  have h1 := put_len9 h hk
  omega
/-- Codes for all symbols that stand in the tokens. -/
theorem hc9_of {ZL ZD : List Int} (hL : errC ZL = 0) (hD : errC ZD = 0) (nL : 286 ≤ ZL.length) (nD : 30 ≤ ZD.length) {l : List Tok7} (hm : mer9 l = 0) (hf : ∀ t ∈ l, t.Fit) (h1 : ∀ i, i < 286 → (cl9 (tal9 l)).getD i 0 ≠ 0 → ZL.getD i 0 ≠ 0) (h2 : ∀ i, i < 30 → (cd9 (tal9 l)).getD i 0 ≠ 0 → ZD.getD i 0 ≠ 0) (hs : ∀ t ∈ l, (cl9 (tal9 l)).getD (sym9 t) 0 ≠ 0 ∧ (t.len ≠ 0 → (cd9 (tal9 l)).getD (dix9 t.dist) 0 ≠ 0)) (h256 : (cl9 (tal9 l)).getD 256 0 ≠ 0) : Hc9 ZL ZD l := by
  refine ⟨fun t ht hz => ?_, fun t ht hz => ?_, ?_⟩
  · obtain ⟨a, b, c⟩ := fit_may9 (hf t ht) ((mer9_zero hm).2 t ht)
    have e : sym9 t = t.lit.toNat := by unfold sym9; rw [if_pos hz]
    have := (hs t ht).1
    rw [e] at this
    have h3 := put_one9 hL (k := t.lit.toNat) (by omega) (h1 _ (by omega) this)
    rwa [Int.toNat_of_nonneg a] at h3
  · obtain ⟨a, b, c⟩ := fit_may9 (hf t ht) ((mer9_zero hm).2 t ht)
    obtain ⟨_, c3, c4, c5, c6, _⟩ := c.resolve_left (fun q => hz q.1)
    have e : sym9 t = 257 + lix9 t.len := by unfold sym9; rw [if_neg hz]
    have h3 := (lspec9 c3).2.1
    have h4 := (dspec9 c5).2.1
    have h5 := hs t ht
    rw [e] at h5
    exact ⟨put_one9 hL (by omega) (h1 _ (by omega) h5.1), put_one9 hD (by omega) (h2 _ h4 (h5.2 hz))⟩
  · have := put_one9 hL (k := 256) (by omega) (h1 256 (by omega) h256)
    exact this
theorem mono_cl9 (l : List Tok7) (hf : ∀ t ∈ l, t.Fit) (hm : ∀ t ∈ l, may7 t) (j : Nat) : ∀ m k, k + m ≤ l.length → (tals9 (l.take k)).getD j 0 ≤ (tals9 (l.take (k + m))).getD j 0
  | 0, k, _ => Int.le_refl _
  | m + 1, k, h => by
    have h1 := mono_cl9 l hf hm j m k (by omega)
    have hmem : l.getD (k + m) tk0 ∈ l := by simp only [List.getD, List.getElem?_eq_getElem (show k + m < l.length by omega), Option.getD_some]; exact List.getElem_mem _
    have h2 := tst9_bd (tals9_len (l.take (k + m))) (hf _ hmem) (hm _ hmem) j
    rw [← Nat.add_assoc, takeT7 (by omega), tals9_snoc]
    omega
theorem seen9 {l : List Tok7} (hm : mer9 l = 0) (hf : ∀ t ∈ l, t.Fit) : ∀ t ∈ l, (cl9 (tal9 l)).getD (sym9 t) 0 ≠ 0 ∧ (t.len ≠ 0 → (cd9 (tal9 l)).getD (dix9 t.dist) 0 ≠ 0) := by
  intro t ht
  have hmm := (mer9_zero hm).2
  obtain ⟨k, hk, rfl⟩ := List.mem_iff_getElem.1 ht
  have hg : l.getD k tk0 = l[k] := by simp [List.getD, hk]
  obtain ⟨s1, s2⟩ := sym9_lt (hf _ ht) (hmm _ ht)
  have hX := tals9_len (l.take k)
  have mono := fun j => mono_cl9 l hf hmm j (l.length - (k + 1)) (k + 1) (by omega)
  rw [show k + 1 + (l.length - (k + 1)) = l.length by omega, List.take_of_length_le (Nat.le_refl _)] at mono
  have low := fun j => (tals9_bdk l hf hmm j k (by omega)).1
  rw [takeT7 hk, tals9_snoc, hg] at mono
  constructor
  · rw [cl9_tal, gset9 _ _ _ _ (by rw [cl9_len]; omega), if_neg (fun e => s2 e.symm), cl9_get _ s1]
    have h1 := mono (2 + sym9 l[k])
    have h2 := congrArg (fun z => z.getD (sym9 l[k]) 0) (cl9_step hX (hf _ ht) (hmm _ ht))
    try simp only at h2
    rw [inc9_get _ _ _ _ (by rw [List.length_set, cl9_len]; exact s1), if_pos rfl, gset9 _ _ _ _ (by rw [cl9_len]; omega), gset9 _ _ _ _ (by rw [cl9_len]; omega), if_neg (fun e => s2 e.symm), if_neg (fun e => s2 e.symm), cl9_get _ s1, cl9_get _ s1] at h2
    have h3 := low (2 + sym9 l[k])
    omega
  · intro hz
    obtain ⟨a, b, c⟩ := fit_may9 (hf _ ht) (hmm _ ht)
    obtain ⟨_, c3, c4, c5, c6, _⟩ := c.resolve_left (fun q => hz q.1)
    have h4 := (dspec9 c5).2.1
    rw [cd9_tal, cd9_get _ h4]
    have h1 := mono (288 + dix9 l[k].dist)
    have h2 := congrArg (fun z => z.getD (dix9 l[k].dist) 0) (cd9_step hX (hf _ ht) (hmm _ ht) hz)
    try simp only at h2
    rw [inc9_get _ _ _ _ (by rw [cd9_len]; exact h4), if_pos rfl, cd9_get _ h4, cd9_get _ h4] at h2
    have h3 := low (288 + dix9 l[k].dist)
    omega
theorem hc9_own {l : List Tok7} (hm : mer9 l = 0) (hf : ∀ t ∈ l, t.Fit) : Hc9 (oL9 (tal9 l)) (oD9 (tal9 l)) l := by
  have hct := tal9_ct hm hf
  obtain ⟨e1, e2, _⟩ := own_told9 hm hf
  obtain ⟨n1, n2⟩ := oL9_len hct
  have c1 := lensR_code9 (by rw [cl9_len]; omega) (cl9_bd hct)
  have c2 := lensR_code9 (by rw [cd9_len]; omega) (cd9_bd hct)
  refine hc9_of e1 e2 (by omega) (by omega) hm hf (fun i hi h => c1.2 i (by rw [cl9_len]; exact hi) h) (fun i hi h => c2.2 i (by rw [cd9_len]; exact hi) h) (seen9 hm hf) ?_
  rw [cl9_tal, gset9 _ _ _ _ (by rw [cl9_len]; omega), if_pos rfl]
  omega
theorem plnL9_pos {i : Nat} (h : i < 288) : plnL9.getD i 0 ≠ 0 := by
  rw [pln9_is]
  simp only [List.getD, List.getElem?_map, List.getElem?_range h, Option.map_some, Option.getD_some]
  unfold pln9
  split
  · omega
  · split <;> omega
theorem hc9_plain {l : List Tok7} (hm : mer9 l = 0) (hf : ∀ t ∈ l, t.Fit) : Hc9 plnL9 plnD9 l := by
  refine hc9_of pln_ok9.1 pln_ok9.2 (by rw [plnL9_len]; omega) (by show 30 ≤ 32; omega) hm hf (fun i hi _ => plnL9_pos (by omega)) (fun i hi _ => ?_) (seen9 hm hf) ?_
  · unfold plnD9
    simp only [List.getD, List.getElem?_replicate, if_pos (show i < 32 by omega), Option.getD_some]
    omega
  · rw [cl9_tal, gset9 _ _ _ _ (by rw [cl9_len]; omega), if_pos rfl]
    omega
end Go.Proofs.YtcifalelnfeggaaGreatDoor

namespace Go.Proofs.YtcifalelnfeggaaGreatDoor
open Go.RowKit
set_option linter.unusedVariables false

/-! The landed block: writeTokens, of any tokens. -/
set_option maxRecDepth 100000 in
set_option maxHeartbeats 16000000 in
theorem pwtok9 (bw B : Nat) (v : Value) (L : List Bool) (l : List Tok7) (a : Option Addr) (n cap : Nat) (hn : Hid (l.length = n)) (ZL ZD : List Int) (la da : Option Addr) (nl lc nd dc : Nat) (hnl : Hid (ZL.length = nl)) (hnd : Hid (ZD.length = nd)) (w : World) (hw : WrL w bw B v L) (hL : L.length ≤ 1000000000000) (hs : SegT w a l) (sL : SegZ w la ZL) (sD : SegZ w da ZD) (nlL : la = none → lc = 0) (nlD : da = none → dc = 0) (hl1 : nl ≤ 1000) (hd1 : nd ≤ 1000) (hcL : errC ZL = 0) (hcD : errC ZD = 0) (hl : n ≤ 65536) (hm : ∀ t ∈ l, may7 t) (hfar : ∀ g o, a = some ⟨g, o, none⟩ → 0 < n → ¬ WS bw v g) :
    Calls Tryz.prog 102 #[.pointer (some ⟨bw, 0, none⟩), .slice a n cap, .slice la nl lc, .slice da nd dc] w fun e w' => e = .returned (.tuple #[]) ∧ WrI w w' bw B v (L ++ bdy9 ZL ZD l) := by
  have HW : Hid (WrL w bw B v L) := hw
  have HS : Hid (SegT w a l) := hs
  have HM : Hid (∀ t ∈ l, may7 t) := hm
  have HFT : Hid (∀ t ∈ l, t.Fit) := hs.fit
  have HFAR : Hid (∀ g o, a = some ⟨g, o, none⟩ → 0 < n → ¬ WS bw v g) := hfar
  have HSD : Hid (SegZ w da ZD) := sD
  have HLE : Hid (∀ i, (L ++ (l.take i).flatMap (tkB9 ZL ZD)).length ≤ 1000004000000) := fun i => by
    have := flat_le9 hcL hcD (l.take i)
    rw [List.length_append]
    have h2 : (l.take i).length ≤ 65536 := by rw [List.length_take, hn.out]; omega
    omega
  have HPL : Hid (∀ s : Int, (putB ZL s).length ≤ 15) := fun s => putB_le hcL s
  have HPD : Hid (∀ s : Int, (putB ZD s).length ≤ 15) := fun s => putB_le hcD s
  have CE1 := newEnc_far la ZL nl lc hnl w sL nlL (by omega)
  have hbl := hw.b_lt
  have hol := hw.own_lt
  clear hw hs hm hfar sD sL hL
  go_enter Tryz.func102, Tryz.ntmps102
  go_wp2_with fail
  refine CE1.mono ?_
  rintro e w1 ⟨hE, _, b1⟩
  obtain ⟨e1, rfl, he1, _, hEK1⟩ := hE hcL
  have CE2 := newEnc_far da ZD nd dc hnd w1 (HSD.out.old b1) nlD (by omega)
  clear CE1 hE
  go_wp2_with fail
  refine CE2.mono ?_
  rintro e w2 ⟨hE, _, b2⟩
  obtain ⟨e2, rfl, he2, _, hEK2⟩ := hE hcD
  have B2 : Below w.heap.size w w2 := b1.trans (b2.mono b1.size)
  have HI0 : WrI w2 w2 bw B v L := WrI.start (HW.out.below8 B2)
  have HK : Hid (∀ wr, Kp (WS bw v) w2 wr → En wr e1 w1.heap.size ZL ∧ En wr e2 w2.heap.size ZD ∧ SegT wr a l) := fun wr hk => by
    refine ⟨hEK1 wr ?_, hEK2 wr ?_, ?_⟩
    · refine (kp_of_below b2 (fun k => k < w.heap.size)).trans hk (fun k hlt e => ?_)
      rcases e with e | e
      · omega
      · exact (hol k e).2.1
    · refine hk.mono (fun k hlt e => ?_)
      have := b1.size
      rcases e with e | e
      · omega
      · have := (hol k e).2.1; omega
    · refine (HS.out.old B2).kp hk (fun g o e h => ?_)
      exact HFAR.out g o e (by have := hn.out; omega)
  have HB2 : Hid (Below w.heap.size w w2) := B2
  have HSZ2 : Hid (w1.heap.size ≤ w2.heap.size) := b2.size
  clear CE2 hE hEK1 hEK2 b1 b2 B2 hol hcL hcD
  go_wp2_with fail
  go_loopw [30] (fun ti wr => ∃ i : Nat, i ≤ n ∧ ti = .int .i64 (i : Int) ∧ WrI w2 wr bw B v (L ++ (l.take i).flatMap (tkB9 ZL ZD))) (fun ti _ => n - (intOf ti).toNat)
  case atStart => exact ⟨0, by omega, rfl, by rw [List.take_zero, List.flatMap_nil, List.append_nil]; exact HI0⟩
  case round =>
    obtain ⟨i, hin, rfl, HI⟩ := hrel
    clear HI0
    obtain ⟨EN, EN2, ST⟩ := HK.out wr HI.kp
    have hml := HLE.out i
    by_cases hlt : i < n
    · have hlti : (i : Int) < (n : Int) := by omega
      have hil : i < l.length := by rw [hn.out]; exact hlt
      obtain ⟨g, o, rfl, tk⟩ := ST.at_ i hil
      have hmem : l.getD i tk0 ∈ l := by simp only [List.getD, List.getElem?_eq_getElem hil, Option.getD_some]; exact List.getElem_mem hil
      have hfit := HFT.out _ hmem
      have hmay := HM.out _ hmem
      have HTK : Hid ((l.take (i + 1)).flatMap (tkB9 ZL ZD) = (l.take i).flatMap (tkB9 ZL ZD) ++ tkB9 ZL ZD (l.getD i tk0)) := by show _ = _; rw [takeT7 hil, List.flatMap_append]; simp
      generalize l.getD i tk0 = t at *
      have HTB : Hid (tkB9 ZL ZD t = if t.len = 0 then putB ZL t.lit else putB ZL ((257 + lix9 t.len : Nat) : Int) ++ bN (t.len - lnS9.getD (lix9 t.len * 2) 0).toNat (lnS9.getD (lix9 t.len * 2 + 1) 0).toNat ++ putB ZD (dix9 t.dist : Int) ++ bN (t.dist - dsS9.getD (dix9 t.dist * 2) 0).toNat (dsS9.getD (dix9 t.dist * 2 + 1) 0).toNat) := rfl
      have hfm := fit_may9 hfit hmay
      obtain ⟨lit, len, dist⟩ := t
      obtain ⟨x0, x1, x2⟩ := tk
      simp only at x0 x1 x2 hfm HTB
      obtain ⟨MM, hMM⟩ : ∃ MM, MM = L ++ (l.take i).flatMap (tkB9 ZL ZD) := ⟨_, rfl⟩
      have HMM : Hid (∀ Q, Q = tkB9 ZL ZD ⟨lit, len, dist⟩ → L ++ (l.take (i + 1)).flatMap (tkB9 ZL ZD) = MM ++ Q) := fun Q hQ => by rw [HTK.out, hMM, hQ, List.append_assoc]
      rw [← hMM] at HI hml
      have hlb : 0 ≤ lit ∧ lit ≤ 255 := hfit.1
      have i7 : IntKind.i64.wrap ((i : Int) + 1) = (i : Int) + 1 := IntWalk.i64_in _ (by omega)
      clear hMM HTK hfit hmay hmem
      have HIR : Hid (WrI w2 wr bw B v MM) := HI
      have HEN : Hid (En wr e1 w1.heap.size ZL) := EN
      clear HI EN EN2 ST
      by_cases hz : len = 0
      · rw [if_pos hz] at HTB
        subst hz
        have HBW : Hid (L ++ (l.take (i + 1)).flatMap (tkB9 ZL ZD) = MM ++ putB ZL lit) := HMM.out _ (by rw [HTB.out])
        clear HMM HTB hfm
        go_wp2_with fail
        have b3 := below_box8 wr (.cells #[.int .u8 lit, .int .i64 0, .int .i64 dist] 97)
        generalize wr.alloc (.cells #[.int .u8 lit, .int .i64 0, .int .i64 dist] 97) = wa at *
        have CP := eput8 lit (HIR.out.old b3) (HEN.out.old (b3.mono (by have := HIR.out.size; have := HSZ2.out; omega))) (by omega)
        rw [← HBW.out] at CP
        clear b3
        refine CP.mono ?_
        rintro e w5 ⟨rfl, HI5⟩
        clear CP HIR HEN
        generalize errP ZL lit = E at *
        go_wp2_with fail
        go_roundw
        case rel => exact ⟨i + 1, by omega, by go_num, HI5⟩
        case measure => simp [intOf]; omega
      · rw [if_neg hz] at HTB
        obtain ⟨k2, k3, k4, k5, k6, klit⟩ := hfm.2.2.resolve_left (fun q => hz q.1)
        clear klit k2 hfm HEN
        obtain ⟨s0, s1, s2, s3⟩ := lspec9 k3
        obtain ⟨r0, r1, r2, r3⟩ := dspec9 k5
        have hv1 := ln_in9 k4 s1 s2 s3
        have hv2 := ds_in9 k6 r1 r2 r3
        have bm1 := lnb9 (lix9 len)
        have bm2 := dsb9 (dix9 dist)
        have CLS := plsy9_is len k3 k4
        have CDS := pdsy9_is dist k5 k6
        obtain ⟨p, hp⟩ : ∃ p, p = 257 + lix9 len := ⟨_, rfl⟩
        obtain ⟨q, hq⟩ : ∃ q, q = dix9 dist := ⟨_, rfl⟩
        have hpi : 257 + (lix9 len : Int) = (p : Int) := by omega
        have hpb : p < 286 ∧ q < 30 := by omega
        rw [← hp] at HTB
        rw [← hq] at HTB CDS bm2 hv2 r2
        simp only [hpi] at CLS
        clear s0 s1 s3 r0 r1 r3 hpi hp
        obtain ⟨V1, hV1⟩ : ∃ V1 : Nat, (V1 : Int) = len - lnS9.getD (lix9 len * 2) 0 := ⟨(len - lnS9.getD (lix9 len * 2) 0).toNat, by omega⟩
        obtain ⟨M1, hM1⟩ : ∃ M1 : Nat, (M1 : Int) = lnS9.getD (lix9 len * 2 + 1) 0 := ⟨(lnS9.getD (lix9 len * 2 + 1) 0).toNat, by omega⟩
        obtain ⟨V2, hV2⟩ : ∃ V2 : Nat, (V2 : Int) = dist - dsS9.getD (q * 2) 0 := ⟨(dist - dsS9.getD (q * 2) 0).toNat, by omega⟩
        obtain ⟨M2, hM2⟩ : ∃ M2 : Nat, (M2 : Int) = dsS9.getD (q * 2 + 1) 0 := ⟨(dsS9.getD (q * 2 + 1) 0).toNat, by omega⟩
        rw [← hV1, ← hM1, ← hV2, ← hM2] at HTB
        simp only [Int.toNat_natCast] at HTB
        rw [← hV1, ← hM1] at hv1
        rw [← hV2, ← hM2] at hv2
        rw [Int.toNat_natCast] at hv1 hv2
        simp only [← hV1, ← hM1] at CLS
        simp only [← hV2, ← hM2] at CDS
        rw [← hM1] at bm1
        rw [← hM2] at bm2
        have HV1 : Hid (V1 < 2 ^ M1) := by show _ < _; exact_mod_cast hv1
        have HV2 : Hid (V2 < 2 ^ M2) := by show _ < _; exact_mod_cast hv2
        clear hV1 hM1 hV2 hM2 hv1 hv2 hq s2 r2
        have HCLS : Hid (∀ W, Calls Tryz.prog 9 #[.int .i64 len] W fun e w' => e = .returned (.tuple #[.int .i64 (p : Int), .int .i64 (M1 : Int), .int .i64 (V1 : Int), .int .i64 0]) ∧ Below W.heap.size W w') := CLS
        have HCDS : Hid (∀ W, Calls Tryz.prog 11 #[.int .i64 dist] W fun e w' => e = .returned (.tuple #[.int .i64 (q : Int), .int .i64 (M2 : Int), .int .i64 (V2 : Int), .int .i64 0]) ∧ Below W.heap.size W w') := CDS
        clear CLS CDS
        have hV1b : (V1 : Int) ≤ 8192 := by have h := HV1.out; have h2 : (2 : Nat) ^ M1 ≤ 2 ^ 13 := Nat.pow_le_pow_right (by omega) (by omega); have h3 : (2 : Nat) ^ 13 = 8192 := rfl; omega
        have hV2b : (V2 : Int) ≤ 8192 := by have h := HV2.out; have h2 : (2 : Nat) ^ M2 ≤ 2 ^ 13 := Nat.pow_le_pow_right (by omega) (by omega); have h3 : (2 : Nat) ^ 13 = 8192 := rfl; omega
        have hV1c : 0 ≤ (V1 : Int) := by omega
        have hV2c : 0 ≤ (V2 : Int) := by omega
        have hPl := HPL.out (p : Int)
        have hPl2 := HPD.out (q : Int)
        have y0 := heap_alloc_new wr (.cells #[.int .u8 lit, .int .i64 len, .int .i64 dist] 97)
        have HB0 : Hid (Below wr.heap.size wr (wr.alloc (.cells #[.int .u8 lit, .int .i64 len, .int .i64 dist] 97))) := below_box8 wr (.cells #[.int .u8 lit, .int .i64 len, .int .i64 dist] 97)
        go_wp2_with fail
        generalize wr.alloc (.cells #[.int .u8 lit, .int .i64 len, .int .i64 dist] 97) = wa at *
        refine (HCLS.out wa).mono ?_
        rintro e w3 ⟨rfl, b3⟩
        obtain ⟨uS, q71, q72, q73⟩ := HIR.out
        have B3 : Below wr.heap.size wr w3 := HB0.out.trans (b3.mono HB0.out.size)
        have hbx : bw < wr.heap.size := q71.b_lt
        have hown : ∀ k, uS.ownBlock = some k → k < wr.heap.size := fun k e => (q71.own_lt k e).2.1
        obtain ⟨ob, hob⟩ : ∃ ob, ob = wr.heap.size := ⟨_, rfl⟩
        have y3 : w3.heap[ob]? = some (.cells #[.int .u8 lit, .int .i64 len, .int .i64 dist] 97 (0, 0)) := by rw [hob]; exact (b3.block wr.heap.size (Array.getElem?_eq_some_iff.1 y0).1).trans y0
        have HOW : Hid (¬ WS bw uS ob) := by
          rintro (e | e)
          · omega
          · have := hown ob e; omega
        have R3 := q71.below8 B3
        have HK3 : Kp (WS bw v) w2 w3 := q72.trans (S' := fun _ => False) (kp_of_below B3 _) (fun _ _ e => e.elim)
        have HJ : Hid (∀ W M, WrI w3 W bw B uS M → WrI w2 W bw B v M) := fun W M h => by
          obtain ⟨v2, r2, kk, ff⟩ := h
          exact WrI.next HK3 q73 r2 kk ff
        have HY : Hid (∀ W M, WrI w3 W bw B uS M → W.cell? ⟨ob, 2, none⟩ = some (.int .i64 dist)) := fun W M h => (cell_of_row W _ 2 _ _ _ (h.kp.heap y3 HOW.out)).trans rfl
        have HI : WrI w3 w3 bw B uS MM := WrI.start R3
        have HOB : Hid (wr.heap.size = ob) := hob.symm
        rw [HOB.out]
        have HFI : Hid (L ++ (l.take (i + 1)).flatMap (tkB9 ZL ZD) = MM ++ putB ZL (p : Int) ++ bN V1 M1 ++ putB ZD (q : Int) ++ bN V2 M2) := by
          show _ = _
          rw [HMM.out _ rfl, HTB.out]
          simp only [List.append_assoc]
        have CP1 := eput8 (p : Int) HI (HK.out w3 HK3).1 (by omega)
        clear x0 x1 x2 HMM HTB HIR HB0 y0 y3 hob q71 q72 q73 R3 HK3 b3 B3 hbx hown HOW HCLS HI
        go_wp2_with fail
        refine CP1.mono ?_
        rintro e w4 ⟨rfl, HI4⟩
        have CP2 := put8 HI4 V1 M1 HV1.out (by omega) (by rw [List.length_append]; omega)
        clear CP1 HI4
        generalize errP ZL (p : Int) = E1 at *
        go_wp2_with fail
        refine CP2.mono ?_
        rintro e w5 ⟨rfl, HI5⟩
        have cd2 := HY.out _ _ HI5
        clear CP2
        go_wp2_with fail
        refine (HCDS.out w5).mono ?_
        rintro e w6 ⟨rfl, b6⟩
        have HI6 := HI5.old b6
        have CP3 := eput8 (q : Int) HI6 (HK.out w6 (HJ.out _ _ HI6).kp).2.1 (by rw [List.length_append, List.length_append, bN_len]; omega)
        clear HI6 HI5 cd2 b6
        go_wp2_with fail
        refine CP3.mono ?_
        rintro e w7 ⟨rfl, HI7⟩
        have CP4 := put8 HI7 V2 M2 HV2.out (by omega) (by rw [List.length_append, List.length_append, List.length_append, bN_len]; omega)
        rw [← HFI.out] at CP4
        clear CP3 HI7 HFI
        generalize errP ZD (q : Int) = E2 at *
        go_wp2_with fail
        refine CP4.mono ?_
        rintro e w8 ⟨rfl, HI8⟩
        have HI9 := HJ.out _ _ HI8
        clear CP4 HI8 HJ HY
        go_wp2_with fail
        go_roundw
        case rel => exact ⟨i + 1, by omega, by go_num, HI9⟩
        case measure => simp [intOf]; omega
    · obtain rfl : i = n := by omega
      have hta : l.take i = l := List.take_of_length_le (by rw [hn.out]; exact Nat.le_refl _)
      rw [hta] at HI hml
      have CP := eput8 256 HI EN (by omega)
      rw [List.append_assoc] at CP
      clear HI EN EN2 ST hta
      go_wp2_with fail
      refine CP.mono ?_
      rintro e w5 ⟨rfl, HI5⟩
      clear CP
      generalize errP ZL 256 = E at *
      go_wp2_with fail
      refine bodyPost_end (results_none rfl _ _ _) rfl ?_
      exact ⟨rfl, WrI.up HB2.out HI5⟩
end Go.Proofs.YtcifalelnfeggaaGreatDoor

namespace Go.Proofs.YtcifalelnfeggaaGreatDoor
open Go.RowKit
set_option linter.unusedVariables false

/-! The document's Whole, of bytes wherever they lie apart from the writer. -/
set_option maxRecDepth 100000 in
set_option maxHeartbeats 1000000 in
theorem rwhole9 (b B : Nat) (v : Value) (L : List Bool) (pa : Option Addr) (p : List Int) (pc : Nat) (w : World) (h : RwL w b B v L) (hs : Seg w pa p) (hfar : ∀ g off, pa = some ⟨g, off, none⟩ → 0 < p.length → ¬ WS b v g ∧ g < w.heap.size)
    (hl : L.length + 8 * p.length ≤ 140737488355200) :
    Calls Tryz.prog 59 #[.pointer (some ⟨b, 0, none⟩), .slice pa p.length pc] w fun e w' => e = .returned (.tuple #[]) ∧ ∃ v', RwL w' b B v' (alignL L ++ bB p) ∧ Kp (WS b v) w w' ∧ Fresh w v v' := by
  have C := rwalign_any b B v L w h (by omega)
  have hlA := alignL_len L
  have hpad : padN L.length < 8 := by unfold padN; omega
  have hAl : (alignL L).length ≤ L.length + 7 := by omega
  have HF : Hid (∀ v5, Fresh w v v5 → ∀ g off, pa = some ⟨g, off, none⟩ → 0 < p.length → ¬ WS b v5 g) := by
    intro v5 hf g off e hp
    have hg := hfar g off e hp
    rintro (e2 | e2)
    · exact hg.1 (.inl e2)
    · rcases hf g e2 with e3 | e3
      · exact hg.1 (.inr e3)
      · omega
  have HF0 : Hid (∀ g off, pa = some ⟨g, off, none⟩ → 0 < p.length → ¬ WS b v g) := fun g off e hp => (hfar g off e hp).1
  clear hlA hfar
  generalize alignL L = A at *
  go_enter Tryz.func59, Tryz.ntmps59
  go_wp2_with fail
  refine C.mono ?_
  rintro e w1 ⟨rfl, v1, g1, k1, f1⟩
  have s1 : Seg w1 pa p := hs.kp k1 HF0.out
  clear C
  go_wp2
  go_loopw [10] (fun ti wr => ∃ (i : Nat) (v5 : Value), i ≤ p.length ∧ ti = .int .i64 (i : Int) ∧ RwL wr b B v5 (A ++ bB (p.take i)) ∧ Seg wr pa p ∧ Kp (WS b v) w wr ∧ Fresh w v v5) (fun ti _ => p.length - (intOf ti).toNat)
  case atStart => exact ⟨0, v1, Nat.zero_le _, rfl, by simpa [bB] using g1, s1, k1, f1⟩
  case round =>
    obtain ⟨i, v5, hi, rfl, q2, qs, qk, qf⟩ := hrel
    clear g1 s1 k1 f1
    by_cases hlt : i < p.length
    · have hlt2 : (i : Int) < (p.length : Int) := by omega
      have s2 := qs
      obtain ⟨g, off, rfl, hcell⟩ := qs.at_ i hlt
      have hz := qs.bd i
      have HT : Hid (bB (p.take (i + 1)) = bB (p.take i) ++ bN (p.getD i 0).toNat 8) := by
        show _ = _
        rw [List.take_succ_eq_append_getElem hlt, bB_append, bB_one]
        simp [List.getD, hlt]
      have hlen : (A ++ bB (p.take i)).length = A.length + 8 * i := by rw [List.length_append, bB_len, List.length_take]; omega
      have C := rput_ok b B v5 (A ++ bB (p.take i)) (p.getD i 0).toNat 8 wr q2 (by omega) (by decide) (by omega)
      rw [Int.toNat_of_nonneg hz.1] at C
      clear hlen
      generalize p.getD i 0 = z at *
      go_wp2_with fail
      refine C.mono ?_
      rintro e wD ⟨rfl, v6, g6, k6, f6⟩
      have sD := s2.kp k6 (HF.out v5 qf)
      go_wp2
      go_roundw
      case rel => exact ⟨i + 1, v6, by omega, by go_num, by rw [HT.out, ← List.append_assoc]; exact g6, sD, qk.trans k6 (fun j hj e => ws_back qf hj e), qf.trans f6 qk.size⟩
      case measure => simp [intOf]; omega
    · have HI : Hid (i = p.length) := by show _ = _; omega
      have hge : (p.length : Int) ≤ (i : Int) := by omega
      clear hlt hi
      go_wp2
      go_end0
      rw [HI.out, List.take_length] at q2
      exact ⟨rfl, v5, q2, qk, qf⟩

end Go.Proofs.YtcifalelnfeggaaGreatDoor

namespace Go.Proofs.YtcifalelnfeggaaGreatDoor
open Go.RowKit
set_option linter.unusedVariables false

/-! The document's Write: a Plain block. -/
theorem segB3_9 (w : World) (x y z : Bool) : SegB (w.alloc (.cells #[.bool x, .bool y, .bool z] 4)) (some ⟨w.heap.size, 0, none⟩) [x, y, z] := by
  have hh := heap_alloc_new w (.cells #[.bool x, .bool y, .bool z] 4)
  refine ⟨fun i hi => ⟨w.heap.size, 0, rfl, ?_⟩⟩
  simp only [List.length_cons, List.length_nil] at hi
  rw [Nat.zero_add, cell_of_row _ _ i _ _ _ hh]
  match i, hi with
  | 0, _ => rfl
  | 1, _ => rfl
  | 2, _ => rfl
set_option maxRecDepth 100000 in
set_option maxHeartbeats 8000000 in
theorem rwr9_plain (bx B : Nat) (u : Value) (L : List Bool) (last : Bool) (xa : Option Addr) (nx xc : Nat) (l : List Tok7) (a : Option Addr) (n cap : Nat) (hn : Hid (l.length = n)) (w : World) (hw : RwL w bx B u L) (hL : L.length ≤ 100000000000) (hs : SegT w a l) (hm : mer9 l = 0) (hx : siz7 l = nx) (fa : ∀ g o, a = some ⟨g, o, none⟩ → 0 < l.length → ¬ WS bx u g) :
    Calls Tryz.prog 35 #[.pointer (some ⟨bx, 0, none⟩), .int .i64 1, .bool last, .slice xa nx xc, .slice a n cap] w fun e w' => e = .returned (.int .i64 0) ∧ RwI w w' bx B u (L ++ ([last, true, false] ++ bdy9 plnL9 plnD9 l)) := by
  obtain ⟨ib, hib, hb0, hb1, hb2⟩ := info_parts info_b1
  have hn6 : n ≤ 65536 := by have := (mer9_zero hm).1; rw [hn.out] at this; exact this
  have CM := rmay9 l a n cap hn w hs (by omega)
  rw [hm] at CM
  have HSZ : Hid (∀ W, Below w.heap.size w W → Calls Tryz.prog 32 #[.slice a n cap] W fun e w' => e = .returned (.int .i64 (nx : Int)) ∧ Below W.heap.size W w') := fun W hW => by
    have := rsize7 l a n cap hn W (hs.old hW) (by omega)
    rw [hx] at this
    exact this
  have HS : Hid (SegT w a l) := hs
  have HMM : Hid (mer9 l = 0) := hm
  have HRW : Hid (RwL w bx B u L) := hw
  have HFA : Hid (∀ g o, a = some ⟨g, o, none⟩ → 0 < l.length → ¬ WS bx u g) := fa
  have a1 : bits .and .i64 1 1 = 1 := by decide
  have a2 : bits .and .i64 1 2 = 0 := by decide
  clear hs hm hx hw fa
  go_enter Tryz.func35, Tryz.ntmps35
  go_wp2_with fail
  refine CM.mono ?_
  rintro e w1 ⟨rfl, b1⟩
  clear CM
  go_wp2_with fail
  refine (HSZ.out w1 b1).mono ?_
  rintro e w2 ⟨rfl, b2⟩
  have B2 : Below w.heap.size w w2 := b1.trans (b2.mono b1.size)
  have R2 := HRW.out.below8 B2
  obtain ⟨ua, uc, rfl, r7⟩ := R2
  have hd0 := r7.cell0
  have hdf := r7.free 0
  have hne := r7.ne
  have hB7 := r7.bB
  have hl7 := r7.b_lt
  have HR7 : Hid (RB w2 bx B 67 [] ua uc L) := r7
  clear b1 b2 HSZ r7
  have b3 := below_box8 w2 (.cells #[.bool last, .bool true, .bool false] 4)
  have HR3 : Hid (RB (w2.alloc (.cells #[.bool last, .bool true, .bool false] 4)) bx B 67 [] ua uc L) := HR7.out.kp (kp_of_below b3 (fun _ => False)) (fun h => h) (fun _ _ h => h)
  have hd1 := HR3.out.cell0
  have hdf1 := HR3.out.free 0
  have hl3 := HR3.out.b_lt
  have hB3 := HR3.out.bB
  have S3 := segB3_9 w2 last true false
  have HB3 : Hid (Below w.heap.size w (w2.alloc (.cells #[.bool last, .bool true, .bool false] 4))) := B2.trans (b3.mono B2.size)
  clear HR7 b3 hB7 hl7
  go_wp2_with (first | (at_builtin; refine wpList_appB rfl (.tmp 45) (.tmp 53) 65 rfl B 4 ib _ 1 Tryz.underlying65 hib hb0 hb1 hb2 rfl HR3.out.own S3 (by intro h; cases h) rfl rfl (by simp only [List.length_cons, List.length_nil]; omega) (by simp only [List.length_cons, List.length_nil]; omega) hB3 ?_; intro b8 c8 w8 own8 gr8 fr8; have hx0 := (gr8.cell_far ⟨bx, 0, none⟩ hl3 (Ne.symm hne)).trans hd1; have hxf := (gr8.frozen_far ⟨bx, 0, none⟩ hl3 (Ne.symm hne)).trans hdf1))
  have hlen : (L ++ [last, true, false]).length = L.length + 3 := by rw [List.length_append]; rfl
  have hst := HR3.out.store (L' := L ++ [last, true, false]) (a' := b8) (cap' := c8) (Kp.grown gr8 (fun i e => e)) (by rw [hlen, List.map_append]; exact own8) (by rw [hlen]; exact fr8)
  rw [hlen] at hst
  have HI10 : RwI w (w8.setCell ⟨bx, 0, none⟩ (.slice b8 (L.length + 3) c8)) bx B (.slice ua L.length uc) (L ++ [last, true, false]) := RwI.next (kp_of_below HB3.out (WS bx (.slice ua L.length uc))) (fun k e => .inl e) ⟨b8, c8, by rw [hlen], hst.1⟩ hst.2.1 hst.2.2
  generalize w8.setCell ⟨bx, 0, none⟩ (.slice b8 (L.length + 3) c8) = w10 at *
  clear hst own8 gr8 fr8 hx0 hxf HR3 hd1 hdf1 hl3 hB3 S3 HB3 hd0 hdf hne
  obtain ⟨U, hU⟩ : ∃ U, U = Value.slice ua L.length uc := ⟨_, rfl⟩
  have HUU : Hid (Value.slice ua L.length uc = U) := hU.symm
  rw [← hU] at HI10 HFA HRW
  obtain ⟨v1, r1, k1, f1⟩ := HI10
  refine (rplain9 w10).mono ?_
  rintro e w11 ⟨la, lc, da, dc, rfl, sL, sD, fL, fD, b11⟩
  have hbx : bx < w10.heap.size := by obtain ⟨_, _, _, r⟩ := r1; exact r.b_lt
  have hown : ∀ k, v1.ownBlock = some k → k < w10.heap.size := fun k e => by obtain ⟨_, _, rfl, r⟩ := r1; exact (r.own.lt k e).2
  have hfar : ∀ g, w10.heap.size ≤ g → ¬ WS bx v1 g := fun g hg => by
    rintro (e | e)
    · omega
    · have := hown g e; omega
  have K11 : Kp (WS bx U) w w11 := k1.trans (S' := fun _ => False) (kp_of_below b11 _) (fun _ _ e => e.elim)
  have HNX : Hid (∀ W M, RwI w11 W bx B v1 M → RwI w W bx B U M) := fun W M h => by
    obtain ⟨v2, r2, kk, ff⟩ := h
    exact RwI.next K11 f1 r2 kk ff
  have hsA := HS.out
  have CB := rbody9 bx B v1 (L ++ [last, true, false]) l a n cap hn plnL9 plnD9 la da 288 lc 32 dc plnL9_len rfl w11 (r1.below8 b11) (by rw [hlen]; omega) (hsA.kp K11 HFA.out) sL sD pln_ok9.1 pln_ok9.2 hn6 (by omega) (by omega) (mer9_zero HMM.out).2 (hc9_plain HMM.out hsA.fit) (fun g o e hp => by
      have h1 := HFA.out g o e hp
      have h2 := hsA.lt g o e hp
      rintro (e2 | e2)
      · exact h1 (.inl e2)
      · rcases f1 g e2 with e3 | e3
        · exact h1 (.inr e3)
        · omega) (fun g o e _ => hfar g (fL _ e)) (fun g o e _ => hfar g (fD _ e))
  rw [List.append_assoc] at CB
  have HEND : Hid (∀ W, RwI w11 W bx B v1 (L ++ ([last, true, false] ++ bdy9 plnL9 plnD9 l)) → RwI w W bx B (.slice ua L.length uc) (L ++ ([last, true, false] ++ bdy9 plnL9 plnD9 l))) := fun W h => by rw [HUU.out]; exact HNX.out W _ h
  clear sL sD fL fD b11 hbx hown hfar K11 r1 k1 f1 hU hsA hlen
  go_wp2_with fail
  refine CB.mono ?_
  rintro e w12 ⟨rfl, HI12⟩
  have HF := HEND.out w12 HI12
  clear CB HI12
  go_wp2_with fail
  go_ret
  exact ⟨rfl, HF⟩
end Go.Proofs.YtcifalelnfeggaaGreatDoor

namespace Go.Proofs.YtcifalelnfeggaaGreatDoor
open Go.RowKit
set_option linter.unusedVariables false

/-! The document's Write: a Stored block. -/
theorem xor16_nat9 {n : Nat} (h : n ≤ 65535) : n ^^^ 65535 = 65535 - n := by
  refine Nat.eq_of_testBit_eq fun i => ?_
  have e1 : (65535 : Nat).testBit i = decide (i < 16) := by
    have := Nat.testBit_two_pow_sub_one 16 i
    simpa using this
  have e2 : (65535 - n).testBit i = (decide (i < 16) && !n.testBit i) := by
    have := Nat.testBit_two_pow_sub_succ (x := n) (n := 16) (by omega) i
    rwa [show 2 ^ 16 - (n + 1) = 65535 - n by omega] at this
  rw [Nat.testBit_xor, e1, e2]
  by_cases hi : i < 16
  · simp [hi]
  · have : n.testBit i = false := Nat.testBit_lt_two_pow (Nat.lt_of_lt_of_le (show n < 2 ^ 16 by omega) (Nat.pow_le_pow_right (by omega) (by omega)))
    simp [hi, this]
theorem xor16_9 {n : Nat} (h : n ≤ 65535) : bits .xor .u64 (n : Int) 65535 = ((65535 - n : Nat) : Int) := by
  have := u64_xor_nat n 65535 (by omega) (by omega)
  rw [xor16_nat9 h] at this
  exact this
set_option maxRecDepth 100000 in
set_option maxHeartbeats 8000000 in
theorem rwr9_stored (bx B : Nat) (u : Value) (L : List Bool) (last : Bool) (data : List Int) (xa : Option Addr) (nx xc : Nat) (hdl : Hid (data.length = nx)) (l : List Tok7) (a : Option Addr) (n cap : Nat) (hn : Hid (l.length = n)) (w : World) (hw : RwL w bx B u L) (hL : L.length ≤ 100000000000) (hs : SegT w a l) (hm : mer9 l = 0) (hx : siz7 l = nx) (hx6 : nx ≤ 65535) (hsd : Seg w xa data) (fx : ∀ g o, xa = some ⟨g, o, none⟩ → 0 < data.length → ¬ WS bx u g ∧ g < w.heap.size) (fa : ∀ g o, a = some ⟨g, o, none⟩ → 0 < l.length → ¬ WS bx u g) :
    Calls Tryz.prog 35 #[.pointer (some ⟨bx, 0, none⟩), .int .i64 0, .bool last, .slice xa nx xc, .slice a n cap] w fun e w' => e = .returned (.int .i64 0) ∧ RwI w w' bx B u (L ++ ([last, false, false] ++ (List.replicate (padN (L.length + 3)) false ++ bN nx 16 ++ bN (65535 - nx) 16 ++ bB data))) := by
  obtain ⟨ib, hib, hb0, hb1, hb2⟩ := info_parts info_b1
  have hn6 : n ≤ 65536 := by have := (mer9_zero hm).1; rw [hn.out] at this; exact this
  have CM := rmay9 l a n cap hn w hs (by omega)
  rw [hm] at CM
  have HSZ : Hid (∀ W, Below w.heap.size w W → Calls Tryz.prog 32 #[.slice a n cap] W fun e w' => e = .returned (.int .i64 (nx : Int)) ∧ Below W.heap.size W w') := fun W hW => by
    have := rsize7 l a n cap hn W (hs.old hW) (by omega)
    rw [hx] at this
    exact this
  have HS : Hid (SegT w a l) := hs
  have HMM : Hid (mer9 l = 0) := hm
  have HRW : Hid (RwL w bx B u L) := hw
  have HFA : Hid (∀ g o, a = some ⟨g, o, none⟩ → 0 < l.length → ¬ WS bx u g) := fa
  have a1 : bits .and .i64 0 1 = 0 := by decide
  have a2 : bits .and .i64 0 2 = 0 := by decide
  have HSD : Hid (Seg w xa data) := hsd
  have HFX : Hid (∀ g o, xa = some ⟨g, o, none⟩ → 0 < data.length → ¬ WS bx u g ∧ g < w.heap.size) := fx
  have hxx : bits .xor .u64 (nx : Int) 65535 = ((65535 - nx : Nat) : Int) := xor16_9 hx6
  have hx6i : ¬ (65535 : Int) < (nx : Int) := by omega
  clear hs hm hx hw fa hsd fx
  go_enter Tryz.func35, Tryz.ntmps35
  go_wp2_with fail
  refine CM.mono ?_
  rintro e w1 ⟨rfl, b1⟩
  clear CM
  go_wp2_with fail
  refine (HSZ.out w1 b1).mono ?_
  rintro e w1' ⟨rfl, b1'⟩
  have b1 : Below w.heap.size w w1' := b1.trans (b1'.mono b1.size)
  clear b1'
  go_wp2_with fail
  refine (HSZ.out w1' b1).mono ?_
  rintro e w2 ⟨rfl, b2⟩
  have B2 : Below w.heap.size w w2 := b1.trans (b2.mono b1.size)
  have R2 := HRW.out.below8 B2
  obtain ⟨ua, uc, rfl, r7⟩ := R2
  have hd0 := r7.cell0
  have hdf := r7.free 0
  have hne := r7.ne
  have hB7 := r7.bB
  have hl7 := r7.b_lt
  have HR7 : Hid (RB w2 bx B 67 [] ua uc L) := r7
  clear b1 b2 HSZ r7
  have b3 := below_box8 w2 (.cells #[.bool last, .bool false, .bool false] 4)
  have HR3 : Hid (RB (w2.alloc (.cells #[.bool last, .bool false, .bool false] 4)) bx B 67 [] ua uc L) := HR7.out.kp (kp_of_below b3 (fun _ => False)) (fun h => h) (fun _ _ h => h)
  have hd1 := HR3.out.cell0
  have hdf1 := HR3.out.free 0
  have hl3 := HR3.out.b_lt
  have hB3 := HR3.out.bB
  have S3 := segB3_9 w2 last false false
  have HB3 : Hid (Below w.heap.size w (w2.alloc (.cells #[.bool last, .bool false, .bool false] 4))) := B2.trans (b3.mono B2.size)
  clear HR7 b3 hB7 hl7
  go_wp2_with (first | (at_builtin; refine wpList_appB rfl (.tmp 45) (.tmp 53) 65 rfl B 4 ib _ 1 Tryz.underlying65 hib hb0 hb1 hb2 rfl HR3.out.own S3 (by intro h; cases h) rfl rfl (by simp only [List.length_cons, List.length_nil]; omega) (by simp only [List.length_cons, List.length_nil]; omega) hB3 ?_; intro b8 c8 w8 own8 gr8 fr8; have hx0 := (gr8.cell_far ⟨bx, 0, none⟩ hl3 (Ne.symm hne)).trans hd1; have hxf := (gr8.frozen_far ⟨bx, 0, none⟩ hl3 (Ne.symm hne)).trans hdf1))
  have hlen : (L ++ [last, false, false]).length = L.length + 3 := by rw [List.length_append]; rfl
  have hst := HR3.out.store (L' := L ++ [last, false, false]) (a' := b8) (cap' := c8) (Kp.grown gr8 (fun i e => e)) (by rw [hlen, List.map_append]; exact own8) (by rw [hlen]; exact fr8)
  rw [hlen] at hst
  have HI10 : RwI w (w8.setCell ⟨bx, 0, none⟩ (.slice b8 (L.length + 3) c8)) bx B (.slice ua L.length uc) (L ++ [last, false, false]) := RwI.next (kp_of_below HB3.out (WS bx (.slice ua L.length uc))) (fun k e => .inl e) ⟨b8, c8, by rw [hlen], hst.1⟩ hst.2.1 hst.2.2
  generalize w8.setCell ⟨bx, 0, none⟩ (.slice b8 (L.length + 3) c8) = w10 at *
  clear hst own8 gr8 fr8 hx0 hxf HR3 hd1 hdf1 hl3 hB3 S3 HB3 hd0 hdf hne
  obtain ⟨U, hU⟩ : ∃ U, U = Value.slice ua L.length uc := ⟨_, rfl⟩
  have HUU : Hid (Value.slice ua L.length uc = U) := hU.symm
  rw [← hU] at HI10 HFA HRW HFX
  obtain ⟨v1, r1, k1, f1⟩ := HI10
  have CA := rwalign_any bx B v1 (L ++ [last, false, false]) w10 r1 (by rw [hlen]; omega)
  have HAL : Hid (alignL (L ++ [last, false, false]) = L ++ [last, false, false] ++ List.replicate (padN (L.length + 3)) false) := by show _ = _; unfold alignL; rw [hlen]
  have hpad : padN (L.length + 3) < 8 := by unfold padN; omega
  have hmod : (L.length + 3 + padN (L.length + 3)) % 8 = 0 := by unfold padN; omega
  rw [HAL.out] at CA
  obtain ⟨A, hA⟩ : ∃ A, A = L ++ [last, false, false] ++ List.replicate (padN (L.length + 3)) false := ⟨_, rfl⟩
  have hAl : A.length = L.length + 3 + padN (L.length + 3) := by rw [hA, List.length_append, hlen, List.length_replicate]
  rw [← hA] at CA
  have HAA : Hid (A = L ++ [last, false, false] ++ List.replicate (padN (L.length + 3)) false) := hA
  have hAm : A.length % 8 = 0 := by rw [hAl]; exact hmod
  have hAb : A.length ≤ 100000000010 := by rw [hAl]; omega
  clear hA hmod hAl hpad HAL hlen
  refine CA.mono ?_
  rintro e w11 ⟨rfl, v2, r2, k2, f2⟩
  have HI11 : RwI w w11 bx B U A := RwI.next k1 f1 r2 k2 f2
  have CP1 := rput8 HI11 nx 16 (by omega) (by omega) (by omega)
  clear CA r1 k1 f1 r2 k2 f2 HI11
  go_wp2_with fail
  refine CP1.mono ?_
  rintro e w12 ⟨rfl, HI12⟩
  have CP2 := rput8 HI12 (65535 - nx) 16 (by omega) (by omega) (by rw [List.length_append, bN_len]; omega)
  clear CP1 HI12
  go_wp2_with fail
  refine CP2.mono ?_
  rintro e w13 ⟨rfl, HI13⟩
  obtain ⟨v3, r3, k3, f3⟩ := HI13
  have hl3 : (A ++ bN nx 16 ++ bN (65535 - nx) 16).length = A.length + 32 := by rw [List.length_append, List.length_append, bN_len, bN_len]
  have CW := rwhole9 bx B v3 (A ++ bN nx 16 ++ bN (65535 - nx) 16) xa data xc w13 r3 (HSD.out.kp k3 (fun g o e hp => (HFX.out g o e hp).1)) (fun g o e hp => by
    have h1 := HFX.out g o e hp
    refine ⟨?_, Nat.lt_of_lt_of_le h1.2 k3.size⟩
    rintro (e2 | e2)
    · exact h1.1 (.inl e2)
    · rcases f3 g e2 with e3 | e3
      · exact h1.1 (.inr e3)
      · have := h1.2; omega) (by rw [hl3, hdl.out]; omega)
  have HAL2 : alignL (A ++ bN nx 16 ++ bN (65535 - nx) 16) = A ++ bN nx 16 ++ bN (65535 - nx) 16 := by
    unfold alignL
    rw [hl3, show padN (A.length + 32) = 0 by unfold padN; omega, List.replicate_zero, List.append_nil]
  rw [HAL2, hdl.out] at CW
  have HFIN : Hid (∀ W v4, RwL W bx B v4 (A ++ bN nx 16 ++ bN (65535 - nx) 16 ++ bB data) → Kp (WS bx v3) w13 W → Fresh w13 v3 v4 → RwI w W bx B (.slice ua L.length uc) (L ++ ([last, false, false] ++ (List.replicate (padN (L.length + 3)) false ++ bN nx 16 ++ bN (65535 - nx) 16 ++ bB data)))) := fun W v4 h1 h2 h3 => by
    have := RwI.next k3 f3 h1 h2 h3
    rw [HUU.out]
    rw [HAA.out] at this
    simp only [List.append_assoc] at this ⊢
    exact this
  clear CP2 hl3 HAL2 k3 f3 r3 hU
  go_wp2_with fail
  refine CW.mono ?_
  rintro e w14 ⟨rfl, v4, r4, k4, f4⟩
  have HF := HFIN.out w14 v4 r4 k4 f4
  clear CW r4 k4 f4 HFIN
  go_wp2_with fail
  go_ret
  exact ⟨rfl, HF⟩
end Go.Proofs.YtcifalelnfeggaaGreatDoor

namespace Go.Proofs.YtcifalelnfeggaaGreatDoor
open Go.RowKit
set_option linter.unusedVariables false

/-! The landed block: what stands behind a block's begin, of each kind. -/
theorem WrI.join9 {w wr w2 : World} {bw B : Nat} {v v1 : Value} {M M2 : List Bool} (hK : Kp (WS bw v) w wr) (hF : Fresh w v v1) (h : WrI wr w2 bw B v1 M2) : WrI w w2 bw B v M2 := by
  obtain ⟨v2, h1, h2, h3⟩ := h
  exact WrI.next hK hF h1 h2 h3
set_option maxRecDepth 100000 in
set_option maxHeartbeats 8000000 in
theorem pwst9 (bw B : Nat) (v : Value) (L : List Bool) (data : List Int) (xa : Option Addr) (nx xc : Nat) (hdl : Hid (data.length = nx)) (lv tv : Value) (w : World) (hw : WrL w bw B v L) (hL : L.length ≤ 1000000000000) (hx6 : nx ≤ 65535) (hsd : Seg w xa data) (hnil : xa = none → xc = 0) (fx : ∀ g o, xa = some ⟨g, o, none⟩ → 0 < data.length → ¬ WS bw v g ∧ g < w.heap.size) :
    Calls Tryz.prog 75 #[.pointer (some ⟨bw, 0, none⟩), .slice xa nx xc, lv, tv] w fun e w' => e = .returned (.tuple #[]) ∧ WrI w w' bw B v (L ++ (List.replicate (padN L.length) false ++ bN nx 16 ++ bN (65535 - nx) 16 ++ bB data)) := by
  have hxx : bits .xor .u64 (nx : Int) 65535 = ((65535 - nx : Nat) : Int) := xor16_9 hx6
  have HSD : Hid (Seg w xa data) := hsd
  have HFX : Hid (∀ g o, xa = some ⟨g, o, none⟩ → 0 < data.length → ¬ WS bw v g ∧ g < w.heap.size) := fx
  have CA := align_any bw B v L w hw (by omega)
  have hpad : padN L.length < 8 := by unfold padN; omega
  have hmod : (L.length + padN L.length) % 8 = 0 := by unfold padN; omega
  obtain ⟨A, hA⟩ : ∃ A, A = alignL L := ⟨_, rfl⟩
  have hAl : A.length = L.length + padN L.length := by rw [hA, alignL_len]
  rw [← hA] at CA
  have HAA : Hid (A = L ++ List.replicate (padN L.length) false) := hA
  have hAm : A.length % 8 = 0 := by rw [hAl]; exact hmod
  have hAb : A.length ≤ 1000000000010 := by rw [hAl]; omega
  clear hA hmod hAl hpad hw hsd fx hL
  go_enter Tryz.func75, Tryz.ntmps75
  go_wp2_with fail
  refine CA.mono ?_
  rintro e w11 ⟨rfl, v2, r2, k2, f2⟩
  have HI11 : WrI w w11 bw B v A := ⟨v2, r2, k2, f2⟩
  have CP1 := put8 HI11 nx 16 (by omega) (by omega) (by omega)
  clear CA r2 k2 f2 HI11
  go_wp2_with fail
  refine CP1.mono ?_
  rintro e w12 ⟨rfl, HI12⟩
  have CP2 := put8 HI12 (65535 - nx) 16 (by omega) (by omega) (by rw [List.length_append, bN_len]; omega)
  clear CP1 HI12
  go_wp2_with fail
  refine CP2.mono ?_
  rintro e w13 ⟨rfl, HI13⟩
  obtain ⟨v3, r3, k3, f3⟩ := HI13
  have hl3 : (A ++ bN nx 16 ++ bN (65535 - nx) 16).length = A.length + 32 := by rw [List.length_append, List.length_append, bN_len, bN_len]
  have CW := whole_any bw B v3 (A ++ bN nx 16 ++ bN (65535 - nx) 16) xa data xc w13 r3 (HSD.out.kp k3 (fun g o e hp => (HFX.out g o e hp).1)) hnil (fun g o e hp => by
    have h1 := HFX.out g o e hp
    rintro (e2 | e2)
    · exact h1.1 (.inl e2)
    · rcases f3 g e2 with e3 | e3
      · exact h1.1 (.inr e3)
      · have := h1.2; omega) (by rw [hl3, hdl.out]; omega)
  have HAL2 : alignL (A ++ bN nx 16 ++ bN (65535 - nx) 16) = A ++ bN nx 16 ++ bN (65535 - nx) 16 := by
    unfold alignL
    rw [hl3, show padN (A.length + 32) = 0 by unfold padN; omega, List.replicate_zero, List.append_nil]
  rw [HAL2, hdl.out] at CW
  have HFIN : Hid (∀ W v4, WrL W bw B v4 (A ++ bN nx 16 ++ bN (65535 - nx) 16 ++ bB data) → Kp (WS bw v3) w13 W → Fresh w13 v3 v4 → WrI w W bw B v (L ++ (List.replicate (padN L.length) false ++ bN nx 16 ++ bN (65535 - nx) 16 ++ bB data))) := fun W v4 h1 h2 h3 => by
    have := WrI.next k3 f3 h1 h2 h3
    rw [HAA.out] at this
    simp only [List.append_assoc] at this ⊢
    exact this
  clear CP2 hl3 HAL2 k3 f3 r3
  go_wp2_with fail
  refine CW.mono ?_
  rintro e w14 ⟨rfl, v4, r4, k4, f4⟩
  have HF := HFIN.out w14 v4 r4 k4 f4
  clear CW r4 k4 f4 HFIN
  go_wp2_with fail
  refine bodyPost_end (results_none rfl _ _ _) rfl ?_
  exact ⟨rfl, HF⟩
set_option maxRecDepth 100000 in
set_option maxHeartbeats 4000000 in
theorem pwpl9 (bw B : Nat) (v : Value) (L : List Bool) (l : List Tok7) (a : Option Addr) (n cap : Nat) (hn : Hid (l.length = n)) (dv tv : Value) (w : World) (hw : WrL w bw B v L) (hL : L.length ≤ 1000000000000) (hs : SegT w a l) (hl : n ≤ 65536) (hm : ∀ t ∈ l, may7 t) (hfar : ∀ g o, a = some ⟨g, o, none⟩ → 0 < n → ¬ WS bw v g) :
    Calls Tryz.prog 78 #[.pointer (some ⟨bw, 0, none⟩), dv, .slice a n cap, tv] w fun e w' => e = .returned (.tuple #[]) ∧ WrI w w' bw B v (L ++ bdy9 plnL9 plnD9 l) := by
  go_enter Tryz.func78, Tryz.ntmps78
  go_wp2_with fail
  refine (pplain9 w).mono ?_
  rintro e w1 ⟨la, lc, da, rfl, o1, o2, _, b1⟩
  have s1 : SegZ w1 la plnL9 := own_segZ o1 plnL9_bd
  have s2 : SegZ w1 (some ⟨da, 0, none⟩) plnD9 := own_segZ o2 plnD9_bd
  have n1 : la = none → lc = 0 := fun h => by
    obtain ⟨g, cp, hv, _⟩ := own_shape o1 (by omega)
    injection hv with h1 _ _
    rw [h1] at h
    cases h
  have CT := pwtok9 bw B v L l a n cap hn plnL9 plnD9 la (some ⟨da, 0, none⟩) 288 lc 32 32 plnL9_len rfl w1 (hw.below8 b1) hL (hs.old b1) s1 s2 n1 (fun h => by cases h) (by omega) (by omega) pln_ok9.1 pln_ok9.2 hl hm hfar
  clear o1 o2 s1 s2
  go_wp2_with fail
  refine CT.mono ?_
  rintro e w3 ⟨rfl, HI⟩
  clear CT
  go_wp2_with fail
  refine bodyPost_end (results_none rfl _ _ _) rfl ?_
  exact ⟨rfl, WrI.up b1 HI⟩
theorem nil_cap9 {w : World} {base n cap : Nat} {e : TypeId} {b : Option Addr} {xs : List Value} (h : w.ownsRow base e 1 (.slice b n cap) n xs) (hn : 0 < n) : b = none → cap = 0 := by
  obtain ⟨g, cp, hv, _⟩ := own_shape h hn
  injection hv with h1 _ _
  intro e
  rw [h1] at e
  cases e
set_option maxRecDepth 100000 in
set_option maxHeartbeats 4000000 in
theorem pwow9 (bw B : Nat) (v : Value) (L : List Bool) (l : List Tok7) (a : Option Addr) (n cap : Nat) (hn : Hid (l.length = n)) (dv : Value) (tb : Nat) (w : World) (hw : WrL w bw B v L) (hL : L.length ≤ 999999000000) (hs : SegT w a l) (hm : mer9 l = 0) (TA : Ta9 w tb (tal9 l)) (T : TabS w) (O : TabO w) (hbw : 2 ≤ bw) (hB : 2 ≤ B) (hfar : ∀ g o, a = some ⟨g, o, none⟩ → 0 < n → ¬ WS bw v g) :
    Calls Tryz.prog 81 #[.pointer (some ⟨bw, 0, none⟩), dv, .slice a n cap, .pointer (some ⟨tb, 0, none⟩)] w fun e w' => e = .returned (.tuple #[]) ∧ WrI w w' bw B v (L ++ (hd8 (oL9 (tal9 l)) (oD9 (tal9 l)) ++ bdy9 (oL9 (tal9 l)) (oD9 (tal9 l)) l)) := by
  obtain ⟨e1, e2, ht⟩ := own_told9 hm hs.fit
  have hct := tal9_ct hm hs.fit
  obtain ⟨n1, n2⟩ := oL9_len hct
  have CO := pol9 tb (tal9 l) w TA
  unfold OwQ at CO
  rw [n1, n2] at CO
  obtain ⟨hn6, hmay⟩ := mer9_zero hm
  rw [hn.out] at hn6
  have HN1 : Hid ((oL9 (tal9 l)).length = 286) := n1
  have HN2 : Hid ((oD9 (tal9 l)).length = 30) := n2
  have hb1 : ∀ z ∈ oL9 (tal9 l), -9223372036854775808 ≤ z ∧ z ≤ 9223372036854775807 := fun z hz => by
    have := (errS_zero (errC_zero e1).1).2 z hz
    omega
  have hb2 : ∀ z ∈ oD9 (tal9 l), -9223372036854775808 ≤ z ∧ z ≤ 9223372036854775807 := fun z hz => by
    have := (errS_zero (errC_zero e2).1).2 z hz
    omega
  have hhd := hd8_len ht
  have hcs := cst8_bd9 ht
  generalize oL9 (tal9 l) = ZL at *
  generalize oD9 (tal9 l) = ZD at *
  clear TA n1 n2 hct
  have HW : Hid (WrL w bw B v L) := hw
  have HS : Hid (SegT w a l) := hs
  have HFAR : Hid (∀ g o, a = some ⟨g, o, none⟩ → 0 < n → ¬ WS bw v g) := hfar
  go_enter Tryz.func81, Tryz.ntmps81
  go_wp2_with fail
  refine CO.mono ?_
  rintro e w1 ⟨la, lc, da, dc, rfl, OA, OB, _, b1⟩
  obtain ⟨ga, rfl, hca, hga, hgal⟩ := own_shape1 OA (by omega)
  obtain ⟨gb, rfl, hcb, hgb, hgbl⟩ := own_shape1 OB (by omega)
  have s1 : SegZ w1 (some ⟨ga, 0, none⟩) ZL := own_segZ OA hb1
  have s2 : SegZ w1 (some ⟨gb, 0, none⟩) ZD := own_segZ OB hb2
  have hol := hw.own_lt
  have hbl := hw.b_lt
  have CW := pwrite8 bw B v L ZL ZD (some ⟨ga, 0, none⟩) (some ⟨gb, 0, none⟩) 286 30 lc dc HN1 HN2 w1 (hw.below8 b1) (by omega) s1 s2 hca hcb (T.old b1) (O.old b1) hbw hB
  unfold WtQ at CW
  rw [if_pos ht, if_pos ht] at CW
  have HT : Hid (∀ W M v1, WrL W bw B v1 M → Kp (WS bw v) w1 W → Fresh w1 v v1 → M.length ≤ 1000000000000 → Calls Tryz.prog 102 #[.pointer (some ⟨bw, 0, none⟩), .slice a n cap, .slice (some ⟨ga, 0, none⟩) 286 lc, .slice (some ⟨gb, 0, none⟩) 30 dc] W fun e w' => e = .returned (.tuple #[]) ∧ WrI W w' bw B v1 (M ++ bdy9 ZL ZD l)) := fun W M v1 hW hk hf hM => by
    refine pwtok9 bw B v1 M l a n cap hn ZL ZD (some ⟨ga, 0, none⟩) (some ⟨gb, 0, none⟩) 286 lc 30 dc HN1 HN2 W hW hM ((HS.out.old b1).kp hk (fun g o e h => HFAR.out g o e (by have := hn.out; omega))) (s1.kp hk ?_) (s2.kp hk ?_) (fun h => by cases h) (fun h => by cases h) (by omega) (by omega) e1 e2 hn6 hmay ?_
    · intro g o e _
      cases e
      rintro (q | q)
      · omega
      · have := (hol _ q).2.1; omega
    · intro g o e _
      cases e
      rintro (q | q)
      · omega
      · have := (hol _ q).2.1; omega
    · intro g o e h
      rintro (q | q)
      · exact HFAR.out g o e h (.inl q)
      · rcases hf g q with q | q
        · exact HFAR.out g o e h (.inr q)
        · have h2 := HS.out.lt g o e (by have := hn.out; omega)
          have := b1.size
          omega
  have HB1 : Hid (Below w.heap.size w w1) := b1
  have HHD : Hid ((hd8 ZL ZD).length ≤ 5000) := by rw [hhd]; exact hcs
  clear CO OA OB s1 s2 hol hw hs hfar T O b1 hhd hcs hb1 hb2 ht e1 e2
  go_wp2_with fail
  refine CW.mono ?_
  rintro e w2 ⟨rfl, v2, r2, k2, f2⟩
  have CT := HT.out w2 _ v2 r2 k2 f2 (by rw [List.length_append]; have := HHD.out; omega)
  rw [List.append_assoc] at CT
  clear CW HT
  go_wp2_with fail
  refine CT.mono ?_
  rintro e w3 ⟨rfl, v3, r3, k3, f3⟩
  have HF : WrI w w3 bw B v (L ++ (hd8 ZL ZD ++ bdy9 ZL ZD l)) := WrI.up HB1.out (WrI.next k2 f2 r3 k3 f3)
  clear CT r2 k2 f2 r3 k3 f3
  go_wp2_with fail
  refine bodyPost_end (results_none rfl _ _ _) rfl ?_
  exact ⟨rfl, HF⟩
end Go.Proofs.YtcifalelnfeggaaGreatDoor

namespace Go.Proofs.YtcifalelnfeggaaGreatDoor
open Go.RowKit
set_option linter.unusedVariables false

/-! The document's Write: an Own block. -/
set_option maxRecDepth 100000 in
set_option maxHeartbeats 8000000 in
theorem rwr9_own (bx B : Nat) (u : Value) (L : List Bool) (last : Bool) (xa : Option Addr) (nx xc : Nat) (l : List Tok7) (a : Option Addr) (n cap : Nat) (hn : Hid (l.length = n)) (w : World) (hw : RwL w bx B u L) (hL : L.length ≤ 100000000000) (hs : SegT w a l) (hm : mer9 l = 0) (hx : siz7 l = nx) (fa : ∀ g o, a = some ⟨g, o, none⟩ → 0 < l.length → ¬ WS bx u g) :
    Calls Tryz.prog 35 #[.pointer (some ⟨bx, 0, none⟩), .int .i64 2, .bool last, .slice xa nx xc, .slice a n cap] w fun e w' => e = .returned (.int .i64 0) ∧ RwI w w' bx B u (L ++ ([last, false, true] ++ (hd8 (oL9 (tal9 l)) (oD9 (tal9 l)) ++ bdy9 (oL9 (tal9 l)) (oD9 (tal9 l)) l))) := by
  obtain ⟨ib, hib, hb0, hb1, hb2⟩ := info_parts info_b1
  have hn6 : n ≤ 65536 := by have := (mer9_zero hm).1; rw [hn.out] at this; exact this
  have CM := rmay9 l a n cap hn w hs (by omega)
  rw [hm] at CM
  have HSZ : Hid (∀ W, Below w.heap.size w W → Calls Tryz.prog 32 #[.slice a n cap] W fun e w' => e = .returned (.int .i64 (nx : Int)) ∧ Below W.heap.size W w') := fun W hW => by
    have := rsize7 l a n cap hn W (hs.old hW) (by omega)
    rw [hx] at this
    exact this
  have HS : Hid (SegT w a l) := hs
  have HMM : Hid (mer9 l = 0) := hm
  have HRW : Hid (RwL w bx B u L) := hw
  have HFA : Hid (∀ g o, a = some ⟨g, o, none⟩ → 0 < l.length → ¬ WS bx u g) := fa
  have a1 : bits .and .i64 2 1 = 0 := by decide
  have a2 : bits .and .i64 2 2 = 2 := by decide
  clear hs hm hx hw fa
  go_enter Tryz.func35, Tryz.ntmps35
  go_wp2_with fail
  refine CM.mono ?_
  rintro e w1 ⟨rfl, b1⟩
  clear CM
  go_wp2_with fail
  refine (HSZ.out w1 b1).mono ?_
  rintro e w2 ⟨rfl, b2⟩
  have B2 : Below w.heap.size w w2 := b1.trans (b2.mono b1.size)
  have R2 := HRW.out.below8 B2
  obtain ⟨ua, uc, rfl, r7⟩ := R2
  have hd0 := r7.cell0
  have hdf := r7.free 0
  have hne := r7.ne
  have hB7 := r7.bB
  have hl7 := r7.b_lt
  have HR7 : Hid (RB w2 bx B 67 [] ua uc L) := r7
  clear b1 b2 HSZ r7
  have b3 := below_box8 w2 (.cells #[.bool last, .bool false, .bool true] 4)
  have HR3 : Hid (RB (w2.alloc (.cells #[.bool last, .bool false, .bool true] 4)) bx B 67 [] ua uc L) := HR7.out.kp (kp_of_below b3 (fun _ => False)) (fun h => h) (fun _ _ h => h)
  have hd1 := HR3.out.cell0
  have hdf1 := HR3.out.free 0
  have hl3 := HR3.out.b_lt
  have hB3 := HR3.out.bB
  have S3 := segB3_9 w2 last false true
  have HB3 : Hid (Below w.heap.size w (w2.alloc (.cells #[.bool last, .bool false, .bool true] 4))) := B2.trans (b3.mono B2.size)
  clear HR7 b3 hB7 hl7
  go_wp2_with (first | (at_builtin; refine wpList_appB rfl (.tmp 45) (.tmp 53) 65 rfl B 4 ib _ 1 Tryz.underlying65 hib hb0 hb1 hb2 rfl HR3.out.own S3 (by intro h; cases h) rfl rfl (by simp only [List.length_cons, List.length_nil]; omega) (by simp only [List.length_cons, List.length_nil]; omega) hB3 ?_; intro b8 c8 w8 own8 gr8 fr8; have hx0 := (gr8.cell_far ⟨bx, 0, none⟩ hl3 (Ne.symm hne)).trans hd1; have hxf := (gr8.frozen_far ⟨bx, 0, none⟩ hl3 (Ne.symm hne)).trans hdf1))
  have hlen : (L ++ [last, false, true]).length = L.length + 3 := by rw [List.length_append]; rfl
  have hst := HR3.out.store (L' := L ++ [last, false, true]) (a' := b8) (cap' := c8) (Kp.grown gr8 (fun i e => e)) (by rw [hlen, List.map_append]; exact own8) (by rw [hlen]; exact fr8)
  rw [hlen] at hst
  have HI10 : RwI w (w8.setCell ⟨bx, 0, none⟩ (.slice b8 (L.length + 3) c8)) bx B (.slice ua L.length uc) (L ++ [last, false, true]) := RwI.next (kp_of_below HB3.out (WS bx (.slice ua L.length uc))) (fun k e => .inl e) ⟨b8, c8, by rw [hlen], hst.1⟩ hst.2.1 hst.2.2
  generalize w8.setCell ⟨bx, 0, none⟩ (.slice b8 (L.length + 3) c8) = w10 at *
  clear hst own8 gr8 fr8 hx0 hxf HR3 hd1 hdf1 hl3 hB3 S3 HB3 hd0 hdf hne
  obtain ⟨U, hU⟩ : ∃ U, U = Value.slice ua L.length uc := ⟨_, rfl⟩
  have HUU : Hid (Value.slice ua L.length uc = U) := hU.symm
  rw [← hU] at HI10 HFA HRW
  obtain ⟨v1, r1, k1, f1⟩ := HI10
  have KA : Kp (WS bx U) w w10 := k1
  have CO := rown9 l a n cap hn w10 (HS.out.kp KA HFA.out) (by omega)
  have hct := tal9_ct HMM.out HS.out.fit
  have HLN := oL9_len hct
  obtain ⟨ec1, ec2, htld⟩ := own_told9 HMM.out HS.out.fit
  have hhc := hc9_own HMM.out HS.out.fit
  rw [show owa9 l = oL9 (tal9 l) from if_pos HMM.out, show owd9 l = oD9 (tal9 l) from if_pos HMM.out, HMM.out] at CO
  obtain ⟨ZL, hZL⟩ : ∃ Z, Z = oL9 (tal9 l) := ⟨_, rfl⟩
  obtain ⟨ZD, hZD⟩ : ∃ Z, Z = oD9 (tal9 l) := ⟨_, rfl⟩
  rw [← hZL, ← hZD] at CO HLN htld hhc
  rw [← hZL] at ec1
  rw [← hZD] at ec2
  have HN1 : Hid (ZL.length = 286) := HLN.1
  have HN2 : Hid (ZD.length = 30) := HLN.2
  have HZZ : Hid (oL9 (tal9 l) = ZL ∧ oD9 (tal9 l) = ZD) := ⟨hZL.symm, hZD.symm⟩
  have HTL : Hid (tld8 errC ZL ZD) := htld
  have HEC : Hid (errC ZL = 0 ∧ errC ZD = 0 ∧ Hc9 ZL ZD l) := ⟨ec1, ec2, hhc⟩
  clear hct HLN htld hhc ec1 ec2 hZL hZD KA
  refine CO.mono ?_
  rintro e w11 ⟨la, lc, da, dc, rfl, sL, sD, fL, fD, b11⟩
  rw [HN1.out, HN2.out]
  have hbx : bx < w10.heap.size := by obtain ⟨_, _, _, r⟩ := r1; exact r.b_lt
  have hown : ∀ k, v1.ownBlock = some k → k < w10.heap.size := fun k e => by obtain ⟨_, _, rfl, r⟩ := r1; exact (r.own.lt k e).2
  have hfar : ∀ g, w10.heap.size ≤ g → ¬ WS bx v1 g := fun g hg => by
    rintro (e | e)
    · omega
    · have := hown g e; omega
  have K11 : Kp (WS bx U) w w11 := k1.trans (S' := fun _ => False) (kp_of_below b11 _) (fun _ _ e => e.elim)
  obtain ⟨gl, ol, rfl, _⟩ := sL.at_ 0 (by rw [HN1.out]; omega)
  obtain ⟨gd, od, rfl, _⟩ := sD.at_ 0 (by rw [HN2.out]; omega)
  have hcl := (fL _ rfl).2
  have hcd := (fD _ rfl).2
  rw [HN1.out] at hcl
  rw [HN2.out] at hcd
  have CW := rwrite8 bx B v1 (L ++ [last, false, true]) ZL ZD (some ⟨gl, ol, none⟩) (some ⟨gd, od, none⟩) 286 30 lc dc HN1 HN2 w11 (r1.below8 b11) (by rw [hlen]; omega) sL sD hcl hcd (by intro h; cases h) (by intro h; cases h)
  unfold DwQ at CW
  rw [if_pos HTL.out, if_pos HTL.out] at CW
  have HF1 : Hid (¬ WS bx v1 gl ∧ ¬ WS bx v1 gd) := ⟨hfar gl (fL _ rfl).1, hfar gd (fD _ rfl).1⟩
  have hsA := HS.out
  have HFA1 : Hid (∀ g o, a = some ⟨g, o, none⟩ → 0 < l.length → ¬ WS bx v1 g ∧ g < w.heap.size) := fun g o e hp => by
    have h1 := HFA.out g o e hp
    have h2 := hsA.lt g o e hp
    refine ⟨?_, h2⟩
    rintro (e2 | e2)
    · exact h1 (.inl e2)
    · rcases f1 g e2 with e3 | e3
      · exact h1 (.inr e3)
      · omega
  have HSW : Hid (SegT w11 a l ∧ SegZ w11 (some ⟨gl, ol, none⟩) ZL ∧ SegZ w11 (some ⟨gd, od, none⟩) ZD) := ⟨hsA.kp K11 HFA.out, sL, sD⟩
  have HNX : Hid (∀ W M, RwI w11 W bx B v1 M → RwI w W bx B U M) := fun W M h => by
    obtain ⟨v2, r2, kk, ff⟩ := h
    exact RwI.next K11 f1 r2 kk ff
  have HLT : Hid (gl < w11.heap.size ∧ gd < w11.heap.size ∧ w.heap.size ≤ w11.heap.size) := ⟨sL.lt gl ol rfl (by rw [HN1.out]; omega), sD.lt gd od rfl (by rw [HN2.out]; omega), K11.size⟩
  have HHL : Hid ((hd8 ZL ZD).length ≤ 5000) := by show _ ≤ _; rw [hd8_len HTL.out]; exact cst8_bd9 HTL.out
  clear CO sL sD fL fD b11 hbx hown hfar K11 r1 k1 f1 hsA hcl hcd
  go_wp2_with fail
  refine CW.mono ?_
  rintro e w12 ⟨rfl, HI12⟩
  clear CW
  have HI12b := HI12
  obtain ⟨v2, r2, k2, f2⟩ := HI12
  have hv2 : ∀ g, ¬ WS bx v1 g → g < w11.heap.size → ¬ WS bx v2 g := fun g h1 h2 => by
    rintro (e | e)
    · exact h1 (.inl e)
    · rcases f2 g e with e3 | e3
      · exact h1 (.inr e3)
      · omega
  have CB := rbody9 bx B v2 (L ++ [last, false, true] ++ hd8 ZL ZD) l a n cap hn ZL ZD (some ⟨gl, ol, none⟩) (some ⟨gd, od, none⟩) 286 lc 30 dc HN1 HN2 w12 r2 (by rw [List.length_append, hlen]; have := HHL.out; omega) (HSW.out.1.kp k2 (fun g o e hp => (HFA1.out g o e hp).1)) (HSW.out.2.1.kp k2 (fun g o e _ => by cases e; exact HF1.out.1)) (HSW.out.2.2.kp k2 (fun g o e _ => by cases e; exact HF1.out.2)) HEC.out.1 HEC.out.2.1 hn6 (by omega) (by omega) (mer9_zero HMM.out).2 HEC.out.2.2 (fun g o e hp => hv2 g (HFA1.out g o e hp).1 (by have := (HFA1.out g o e hp).2; have := HLT.out.2.2; omega)) (fun g o e _ => by cases e; exact hv2 _ HF1.out.1 HLT.out.1) (fun g o e _ => by cases e; exact hv2 _ HF1.out.2 HLT.out.2.1)
  have HEND : Hid (∀ W, RwI w12 W bx B v2 (L ++ [last, false, true] ++ hd8 ZL ZD ++ bdy9 ZL ZD l) → RwI w W bx B (.slice ua L.length uc) (L ++ ([last, false, true] ++ (hd8 (oL9 (tal9 l)) (oD9 (tal9 l)) ++ bdy9 (oL9 (tal9 l)) (oD9 (tal9 l)) l)))) := fun W h => by
    obtain ⟨v3, r3, k3, f3⟩ := h
    have := HNX.out W _ (RwI.next k2 f2 r3 k3 f3)
    rw [HUU.out, HZZ.out.1, HZZ.out.2]
    simp only [List.append_assoc] at this ⊢
    exact this
  clear r2 k2 f2 hv2 HI12b hU hlen
  go_wp2_with fail
  refine CB.mono ?_
  rintro e w13 ⟨rfl, HI13⟩
  have HF := HEND.out w13 HI13
  clear CB HI13
  go_wp2_with fail
  go_ret
  exact ⟨rfl, HF⟩
end Go.Proofs.YtcifalelnfeggaaGreatDoor

namespace Go.Proofs.YtcifalelnfeggaaGreatDoor
open Go.RowKit
set_option linter.unusedVariables false

/-! The document's Write, whatever the kind. -/
theorem pad9_mod (n : Nat) : padN (n + 3) = (8 - (n % 8 + 3) % 8) % 8 := by unfold padN; omega
theorem rwr9_any (bx B : Nat) (u : Value) (L : List Bool) (last : Bool) (data : List Int) (xa : Option Addr) (nx xc : Nat) (hdl : Hid (data.length = nx)) (l : List Tok7) (a : Option Addr) (n cap : Nat) (hn : Hid (l.length = n)) (k : Nat) (hk : k < 3) (w : World) (hw : RwL w bx B u L) (hL : L.length ≤ 100000000000) (hs : SegT w a l) (hm : mer9 l = 0) (hx : siz7 l = nx) (hx6 : k = 0 → nx ≤ 65535) (hsd : Seg w xa data) (fx : ∀ g o, xa = some ⟨g, o, none⟩ → 0 < data.length → ¬ WS bx u g ∧ g < w.heap.size) (fa : ∀ g o, a = some ⟨g, o, none⟩ → 0 < l.length → ¬ WS bx u g) :
    Calls Tryz.prog 35 #[.pointer (some ⟨bx, 0, none⟩), .int .i64 (k : Int), .bool last, .slice xa nx xc, .slice a n cap] w fun e w' => e = .returned (.int .i64 0) ∧ RwI w w' bx B u (L ++ blk9 k (L.length % 8) last data l) := by
  obtain rfl | rfl | rfl : k = 0 ∨ k = 1 ∨ k = 2 := by omega
  · have := rwr9_stored bx B u L last data xa nx xc hdl l a n cap hn w hw hL hs hm hx (hx6 rfl) hsd fx fa
    unfold blk9
    rw [if_pos rfl, ← pad9_mod, hdl.out]
    exact this
  · have := rwr9_plain bx B u L last xa nx xc l a n cap hn w hw hL hs hm hx fa
    unfold blk9
    rw [if_neg (by omega), if_pos rfl]
    exact this
  · have := rwr9_own bx B u L last xa nx xc l a n cap hn w hw hL hs hm hx fa
    unfold blk9
    rw [if_neg (by omega), if_neg (by omega)]
    exact this
theorem ple9_zero {k x : Int} {l : List Tok7} (h : ple9 k x l = 0) : (0 ≤ k ∧ k ≤ 2) ∧ (0 ≤ x ∧ x ≤ 7) ∧ mer9 l = 0 ∧ (tal9 l).getD 0 0 ≤ mst9 k.toNat := by
  unfold ple9 at h
  split at h
  · omega
  · split at h
    · rename_i h2
      exact absurd h h2
    · split at h
      · omega
      · rename_i h1 h2 h3
        exact ⟨by omega, by omega, Decidable.of_not_not h2, by omega⟩
theorem ple9_in' {x i : Nat} (hx : x < 8) (hi : i < 3) {l : List Tok7} (hm : mer9 l = 0) : ple9 (i : Int) (x : Int) l = if mst9 i < (tal9 l).getD 0 0 then 90 else 0 := by
  unfold ple9
  rw [if_neg (by omega), if_neg (by omega), Int.toNat_natCast]
theorem info_b9 : (Tryz.prog.info? 4).map (fun i => (i.zero, i.size, i.bytes)) = some (some (.bool false), 1, 1) := by kernel_rfl
theorem made_falses9 (n : Nat) : madeCells #[.bool false] n = ((List.replicate n false).map Value.bool).toArray := by
  apply Array.toList_inj.1
  rw [toList_madeCells_one]
  simp
theorem run_make_bools9 (n : Nat) (h : n ≤ 140737488355328) (w : World) :
    (Instr.makeSlice 65 (.int .i64 (n : Int)) (.int .i64 (n : Int))).run Tryz.prog w = .ok (.slice (some ⟨w.heap.size, 0, none⟩) n n) (w.alloc (.cells ((List.replicate n false).map Value.bool).toArray 4)) := by
  rw [← made_falses9]
  exact run_make_row' 65 4 (.bool false) 1 Tryz.underlying65 info_b9 rfl .i64 .i64 n (by omega) (by omega) w
theorem made_rowB9 (w : World) (bs : List Bool) (e : TypeId) (h : bs.length ≤ 140737488355328) : (w.alloc (.cells (bs.map Value.bool).toArray e)).ownsRow w.heap.size e 1 (.slice (some ⟨w.heap.size, 0, none⟩) bs.length bs.length) bs.length (bs.map Value.bool) := by
  refine ⟨by simp, .inr ⟨w.heap.size, bs.length, (bs.map Value.bool).toArray, rfl, Nat.le_refl _, heap_alloc_new w _, Nat.le_refl _, ?_, by simp, ?_⟩⟩
  · unfold maxLen
    omega
  · simp only [Nat.mul_one]
    exact List.take_of_length_le (by simp)
end Go.Proofs.YtcifalelnfeggaaGreatDoor

namespace Go.Proofs.YtcifalelnfeggaaGreatDoor
open Go.RowKit
set_option linter.unusedVariables false

/-! The landed block: Write, kind 0. -/
set_option maxRecDepth 100000 in
set_option maxHeartbeats 8000000 in
theorem pwr9_0f (bw B : Nat) (v : Value) (L : List Bool) (data : List Int) (xa : Option Addr) (nx xc : Nat) (hdl : Hid (data.length = nx)) (l : List Tok7) (a : Option Addr) (n cap : Nat) (hn : Hid (l.length = n)) (w : World) (hw : WrL w bw B v L) (hL : L.length ≤ 900000000000) (hs : SegT w a l) (hm : mer9 l = 0) (hx : siz7 l = nx) (hsz : (tal9 l).getD 0 0 ≤ mst9 0) (hsd : Seg w xa data) (hnil : xa = none → xc = 0) (fx : ∀ g o, xa = some ⟨g, o, none⟩ → 0 < data.length → ¬ WS bw v g ∧ g < w.heap.size) (fa : ∀ g o, a = some ⟨g, o, none⟩ → 0 < n → ¬ WS bw v g) (T : TabS w) (O : TabO w) (hbw : 2 ≤ bw) (hB : 2 ≤ B) :
    Calls Tryz.prog 34 #[.pointer (some ⟨bw, 0, none⟩), .int .i64 0, .bool false, .slice xa nx xc, .slice a n cap] w fun e w' => e = .returned (.int .i64 0) ∧ WrI w w' bw B v (L ++ blk9 0 (L.length % 8) false data l) := by
  have CL := len_any bw B v L w hw (by omega)
  have hSZ : (tal9 l).getD 0 0 = (nx : Int) := by rw [tal9_size hm hs.fit, hx]
  have HPL : Hid (∀ W, Below w.heap.size w W → ∀ x : Int, x = ((L.length % 8 : Nat) : Int) → Calls Tryz.prog 51 #[.int .i64 0, .int .i64 x, .slice a n cap] W fun e w' => ∃ b, W.heap.size ≤ b ∧ e = .returned (.tuple #[.agg (fk9 0), .pointer (some ⟨b, 0, none⟩), .int .i64 0]) ∧ Ta9 w' b (tal9 l) ∧ Below W.heap.size W w') := fun W hW x hx => by
    subst hx
    exact pplan9_ok l a n cap hn 0 (by omega) _ (by omega) W (hs.old hW) (by have := (mer9_zero hm).1; rw [hn.out] at this; exact this) (mer9_zero hm).2 hsz
  have HS : Hid (SegT w a l) := hs
  have HM : Hid (mer9 l = 0) := hm
  have HSD : Hid (Seg w xa data) := hsd
  have HSZ : Hid ((tal9 l).getD 0 0 = (nx : Int)) := hSZ
  have HNX : Hid (nx ≤ 65535 ∨ 0 ≠ 0) := by
    have h : (nx : Int) ≤ mst9 0 := by rw [← hSZ]; exact hsz
    unfold mst9 at h
    first | (left; rw [if_pos rfl] at h; omega) | (right; omega)
  have HFX : Hid (∀ g o, xa = some ⟨g, o, none⟩ → 0 < data.length → ¬ WS bw v g ∧ g < w.heap.size) := fx
  have HFA : Hid (∀ g o, a = some ⟨g, o, none⟩ → 0 < n → ¬ WS bw v g) := fa
  have HTO : Hid (TabS w ∧ TabO w) := ⟨T, O⟩
  have HBB : Hid (2 ≤ bw ∧ 2 ≤ B) := ⟨hbw, hB⟩
  have HOL : Hid (bw < w.heap.size ∧ ∀ k, v.ownBlock = some k → B ≤ k ∧ k < w.heap.size) := ⟨hw.b_lt, fun k e => ⟨(hw.own_lt k e).1, (hw.own_lt k e).2.1⟩⟩
  have HW : Hid (WrL w bw B v L) := hw
  clear hw hs hm hx hsz hsd fx fa T O hbw hB hSZ
  go_enter Tryz.func34, Tryz.ntmps34
  go_wp2_with fail
  refine CL.mono ?_
  rintro e w1 ⟨rfl, b1⟩
  clear CL
  go_wp2_with fail
  refine (HPL.out w1 b1 _ (by first | omega | (rw [Int.tmod_eq_emod_of_nonneg (by omega)]; omega))).mono ?_
  rintro e w2 ⟨tb, htb, rfl, TA, b2⟩
  have B2 : Below w.heap.size w w2 := b1.trans (b2.mono b1.size)
  obtain ⟨fi, fs, fo, f0⟩ := fk9_facts 0 (by omega)
  have f2 : (fk9 0)[2]? = some (fnv9 75) := by kernel_rfl
  have q3 := setRow_heap _ w2.heap.size _ (fk9 0) _ _ (heap_alloc_new w2 (.cells #[.int .i64 0, .nilFunc, .nilFunc, .nilFunc] 111))
  have b3 : Below w2.heap.size w2 ((w2.alloc (.cells #[.int .i64 0, .nilFunc, .nilFunc, .nilFunc] 111)).setRow w2.heap.size (fk9 0)) := ((Below.refl w2.heap.size w2).alloc (Nat.le_refl _) _).grown (grown_setRow _ _ _) (by simp) (fun j e => by cases e; exact Nat.le_refl _)
  have HT3 : Hid (Ta9 ((w2.alloc (.cells #[.int .i64 0, .nilFunc, .nilFunc, .nilFunc] 111)).setRow w2.heap.size (fk9 0)) tb (tal9 l)) := TA.keep (b3.block tb TA.lt)
  have c0 := HT3.out.cell (i := 0) (by omega)
  rw [HSZ.out] at c0
  have HB3 : Hid (Below w.heap.size w ((w2.alloc (.cells #[.int .i64 0, .nilFunc, .nilFunc, .nilFunc] 111)).setRow w2.heap.size (fk9 0))) := B2.trans (b3.mono B2.size)
  have HQ3 : Hid (((w2.alloc (.cells #[.int .i64 0, .nilFunc, .nilFunc, .nilFunc] 111)).setRow w2.heap.size (fk9 0)).heap[w2.heap.size]? = some (.cells (fk9 0) 111 (0, 0))) := q3
  have hw2 : w.heap.size ≤ w2.heap.size := B2.size
  have htw : w.heap.size ≤ tb := Nat.le_trans b1.size htb
  clear b1 b2 b3 q3 TA B2 htb HPL f0
  go_wp2_with (refine wpList_store_row rfl 111 (.tmp 11) (.tmp 24) rfl w2.heap.size (fk9 0) rfl rfl _ _ (heap_alloc_new w2 _) fi fs fo ?_)
  generalize (w2.alloc (.cells #[.int .i64 0, .nilFunc, .nilFunc, .nilFunc] 111)).setRow w2.heap.size (fk9 0) = w3 at *
  have HI0 : WrI w3 w3 bw B v L := WrI.start (HW.out.below8 HB3.out)
  have CPU := put8 HI0 0 3 (by decide) (by omega) (by omega)
  refine CPU.mono ?_
  rintro e w4 ⟨rfl, v4, W4, K4, F4⟩
  have hww : w2.heap.size < w3.heap.size := (Array.getElem?_eq_some_iff.1 HQ3.out).1
  have hfr : ∀ k, w.heap.size ≤ k → ¬ WS bw v k := fun k hk => by
    have h := HOL.out
    rintro (e | e)
    · omega
    · have := (h.2 k e).2; omega
  have q4 := K4.heap HQ3.out (hfr _ hw2)
  have d2 : w4.cell? ⟨w2.heap.size, 2, none⟩ = some (.func (.func 75) #[] #[]) := (cell_of_row w4 _ 2 _ _ _ q4).trans f2
  have hown : ∀ g, g < w.heap.size → ¬ WS bw v g → ¬ WS bw v4 g := fun g hg h => by
    rintro (q | q)
    · exact h (.inl q)
    · rcases F4 g q with q | q
      · exact h (.inr q)
      · have := HB3.out.size; omega
  have ST4 : SegT w4 a l := (HS.out.old HB3.out).kp K4 (fun g o e h => HFA.out g o e (by have := hn.out; omega))
  have fa4 : ∀ g o, a = some ⟨g, o, none⟩ → 0 < n → ¬ WS bw v4 g := fun g o e h => hown g (HS.out.lt g o e (by have := hn.out; omega)) (HFA.out g o e h)
  have hl4 : (L ++ bN 0 3).length = L.length + 3 := by rw [List.length_append, bN_len]
  have CT := fun lv tv => pwst9 bw B v4 (L ++ bN 0 3) data xa nx xc hdl lv tv w4 W4 (by omega) (HNX.out.resolve_right (by omega)) ((HSD.out.old HB3.out).kp K4 (fun g o e h => (HFX.out g o e h).1)) hnil (fun g o e h => ⟨hown g (HFX.out g o e h).2 (HFX.out g o e h).1, by have := (HFX.out g o e h).2; have := HB3.out.size; have := K4.size; omega⟩)
  rw [hl4] at CT
  have HFIN : Hid (∀ W, WrI w4 W bw B v4 ((L ++ bN 0 3) ++ (List.replicate (padN (L.length + 3)) false ++ bN nx 16 ++ bN (65535 - nx) 16 ++ bB data)) → WrI w W bw B v (L ++ blk9 0 (L.length % 8) false data l)) := fun W h => by
    obtain ⟨v5, r5, k5, f5⟩ := h
    have := WrI.up HB3.out (WrI.next K4 F4 r5 k5 f5)
    rw [List.append_assoc] at this
    unfold blk9
    rw [if_pos rfl, ← pad9_mod, hdl.out]
    exact this
  clear HI0 CPU c0 q4 ST4 fa4 hown hfr K4 F4 W4 HT3 HQ3 HB3 hl4
  go_wp2_with fail
  refine (CT _ _).mono ?_
  rintro e w6 ⟨rfl, HI6⟩
  have HF := HFIN.out w6 HI6
  clear CT HFIN HI6
  go_wp2_with fail
  go_ret
  exact ⟨rfl, HF⟩
set_option maxRecDepth 100000 in
set_option maxHeartbeats 8000000 in
theorem pwr9_0t (bw B : Nat) (v : Value) (L : List Bool) (data : List Int) (xa : Option Addr) (nx xc : Nat) (hdl : Hid (data.length = nx)) (l : List Tok7) (a : Option Addr) (n cap : Nat) (hn : Hid (l.length = n)) (w : World) (hw : WrL w bw B v L) (hL : L.length ≤ 900000000000) (hs : SegT w a l) (hm : mer9 l = 0) (hx : siz7 l = nx) (hsz : (tal9 l).getD 0 0 ≤ mst9 0) (hsd : Seg w xa data) (hnil : xa = none → xc = 0) (fx : ∀ g o, xa = some ⟨g, o, none⟩ → 0 < data.length → ¬ WS bw v g ∧ g < w.heap.size) (fa : ∀ g o, a = some ⟨g, o, none⟩ → 0 < n → ¬ WS bw v g) (T : TabS w) (O : TabO w) (hbw : 2 ≤ bw) (hB : 2 ≤ B) :
    Calls Tryz.prog 34 #[.pointer (some ⟨bw, 0, none⟩), .int .i64 0, .bool true, .slice xa nx xc, .slice a n cap] w fun e w' => e = .returned (.int .i64 0) ∧ WrI w w' bw B v (L ++ blk9 0 (L.length % 8) true data l) := by
  have CL := len_any bw B v L w hw (by omega)
  have hSZ : (tal9 l).getD 0 0 = (nx : Int) := by rw [tal9_size hm hs.fit, hx]
  have HPL : Hid (∀ W, Below w.heap.size w W → ∀ x : Int, x = ((L.length % 8 : Nat) : Int) → Calls Tryz.prog 51 #[.int .i64 0, .int .i64 x, .slice a n cap] W fun e w' => ∃ b, W.heap.size ≤ b ∧ e = .returned (.tuple #[.agg (fk9 0), .pointer (some ⟨b, 0, none⟩), .int .i64 0]) ∧ Ta9 w' b (tal9 l) ∧ Below W.heap.size W w') := fun W hW x hx => by
    subst hx
    exact pplan9_ok l a n cap hn 0 (by omega) _ (by omega) W (hs.old hW) (by have := (mer9_zero hm).1; rw [hn.out] at this; exact this) (mer9_zero hm).2 hsz
  have HS : Hid (SegT w a l) := hs
  have HM : Hid (mer9 l = 0) := hm
  have HSD : Hid (Seg w xa data) := hsd
  have HSZ : Hid ((tal9 l).getD 0 0 = (nx : Int)) := hSZ
  have HNX : Hid (nx ≤ 65535 ∨ 0 ≠ 0) := by
    have h : (nx : Int) ≤ mst9 0 := by rw [← hSZ]; exact hsz
    unfold mst9 at h
    first | (left; rw [if_pos rfl] at h; omega) | (right; omega)
  have HFX : Hid (∀ g o, xa = some ⟨g, o, none⟩ → 0 < data.length → ¬ WS bw v g ∧ g < w.heap.size) := fx
  have HFA : Hid (∀ g o, a = some ⟨g, o, none⟩ → 0 < n → ¬ WS bw v g) := fa
  have HTO : Hid (TabS w ∧ TabO w) := ⟨T, O⟩
  have HBB : Hid (2 ≤ bw ∧ 2 ≤ B) := ⟨hbw, hB⟩
  have HOL : Hid (bw < w.heap.size ∧ ∀ k, v.ownBlock = some k → B ≤ k ∧ k < w.heap.size) := ⟨hw.b_lt, fun k e => ⟨(hw.own_lt k e).1, (hw.own_lt k e).2.1⟩⟩
  have HW : Hid (WrL w bw B v L) := hw
  clear hw hs hm hx hsz hsd fx fa T O hbw hB hSZ
  go_enter Tryz.func34, Tryz.ntmps34
  go_wp2_with fail
  refine CL.mono ?_
  rintro e w1 ⟨rfl, b1⟩
  clear CL
  go_wp2_with fail
  refine (HPL.out w1 b1 _ (by first | omega | (rw [Int.tmod_eq_emod_of_nonneg (by omega)]; omega))).mono ?_
  rintro e w2 ⟨tb, htb, rfl, TA, b2⟩
  have B2 : Below w.heap.size w w2 := b1.trans (b2.mono b1.size)
  obtain ⟨fi, fs, fo, f0⟩ := fk9_facts 0 (by omega)
  have f2 : (fk9 0)[2]? = some (fnv9 75) := by kernel_rfl
  have q3 := setRow_heap _ w2.heap.size _ (fk9 0) _ _ (heap_alloc_new w2 (.cells #[.int .i64 0, .nilFunc, .nilFunc, .nilFunc] 111))
  have b3 : Below w2.heap.size w2 ((w2.alloc (.cells #[.int .i64 0, .nilFunc, .nilFunc, .nilFunc] 111)).setRow w2.heap.size (fk9 0)) := ((Below.refl w2.heap.size w2).alloc (Nat.le_refl _) _).grown (grown_setRow _ _ _) (by simp) (fun j e => by cases e; exact Nat.le_refl _)
  have HT3 : Hid (Ta9 ((w2.alloc (.cells #[.int .i64 0, .nilFunc, .nilFunc, .nilFunc] 111)).setRow w2.heap.size (fk9 0)) tb (tal9 l)) := TA.keep (b3.block tb TA.lt)
  have c0 := HT3.out.cell (i := 0) (by omega)
  rw [HSZ.out] at c0
  have i3 : bits .or .u64 0 1 = 1 := by decide
  have HB3 : Hid (Below w.heap.size w ((w2.alloc (.cells #[.int .i64 0, .nilFunc, .nilFunc, .nilFunc] 111)).setRow w2.heap.size (fk9 0))) := B2.trans (b3.mono B2.size)
  have HQ3 : Hid (((w2.alloc (.cells #[.int .i64 0, .nilFunc, .nilFunc, .nilFunc] 111)).setRow w2.heap.size (fk9 0)).heap[w2.heap.size]? = some (.cells (fk9 0) 111 (0, 0))) := q3
  have hw2 : w.heap.size ≤ w2.heap.size := B2.size
  have htw : w.heap.size ≤ tb := Nat.le_trans b1.size htb
  clear b1 b2 b3 q3 TA B2 htb HPL f0
  go_wp2_with (refine wpList_store_row rfl 111 (.tmp 11) (.tmp 24) rfl w2.heap.size (fk9 0) rfl rfl _ _ (heap_alloc_new w2 _) fi fs fo ?_)
  generalize (w2.alloc (.cells #[.int .i64 0, .nilFunc, .nilFunc, .nilFunc] 111)).setRow w2.heap.size (fk9 0) = w3 at *
  have HI0 : WrI w3 w3 bw B v L := WrI.start (HW.out.below8 HB3.out)
  have CPU := put8 HI0 1 3 (by decide) (by omega) (by omega)
  refine CPU.mono ?_
  rintro e w4 ⟨rfl, v4, W4, K4, F4⟩
  have hww : w2.heap.size < w3.heap.size := (Array.getElem?_eq_some_iff.1 HQ3.out).1
  have hfr : ∀ k, w.heap.size ≤ k → ¬ WS bw v k := fun k hk => by
    have h := HOL.out
    rintro (e | e)
    · omega
    · have := (h.2 k e).2; omega
  have q4 := K4.heap HQ3.out (hfr _ hw2)
  have d2 : w4.cell? ⟨w2.heap.size, 2, none⟩ = some (.func (.func 75) #[] #[]) := (cell_of_row w4 _ 2 _ _ _ q4).trans f2
  have hown : ∀ g, g < w.heap.size → ¬ WS bw v g → ¬ WS bw v4 g := fun g hg h => by
    rintro (q | q)
    · exact h (.inl q)
    · rcases F4 g q with q | q
      · exact h (.inr q)
      · have := HB3.out.size; omega
  have ST4 : SegT w4 a l := (HS.out.old HB3.out).kp K4 (fun g o e h => HFA.out g o e (by have := hn.out; omega))
  have fa4 : ∀ g o, a = some ⟨g, o, none⟩ → 0 < n → ¬ WS bw v4 g := fun g o e h => hown g (HS.out.lt g o e (by have := hn.out; omega)) (HFA.out g o e h)
  have hl4 : (L ++ bN 1 3).length = L.length + 3 := by rw [List.length_append, bN_len]
  have CT := fun lv tv => pwst9 bw B v4 (L ++ bN 1 3) data xa nx xc hdl lv tv w4 W4 (by omega) (HNX.out.resolve_right (by omega)) ((HSD.out.old HB3.out).kp K4 (fun g o e h => (HFX.out g o e h).1)) hnil (fun g o e h => ⟨hown g (HFX.out g o e h).2 (HFX.out g o e h).1, by have := (HFX.out g o e h).2; have := HB3.out.size; have := K4.size; omega⟩)
  rw [hl4] at CT
  have HFIN : Hid (∀ W, WrI w4 W bw B v4 ((L ++ bN 1 3) ++ (List.replicate (padN (L.length + 3)) false ++ bN nx 16 ++ bN (65535 - nx) 16 ++ bB data)) → WrI w W bw B v (L ++ blk9 0 (L.length % 8) true data l)) := fun W h => by
    obtain ⟨v5, r5, k5, f5⟩ := h
    have := WrI.up HB3.out (WrI.next K4 F4 r5 k5 f5)
    rw [List.append_assoc] at this
    unfold blk9
    rw [if_pos rfl, ← pad9_mod, hdl.out]
    exact this
  clear HI0 CPU c0 i3 q4 ST4 fa4 hown hfr K4 F4 W4 HT3 HQ3 HB3 hl4
  go_wp2_with fail
  refine (CT _ _).mono ?_
  rintro e w6 ⟨rfl, HI6⟩
  have HF := HFIN.out w6 HI6
  clear CT HFIN HI6
  go_wp2_with fail
  go_ret
  exact ⟨rfl, HF⟩
end Go.Proofs.YtcifalelnfeggaaGreatDoor
