import Derived.Test.YthcmebmohhajaaaDoorPv
import Derived.Test.YthcmebmohhajaaaDoorPj
import Derived.Deep.RegionHeld3
import Derived.Test.YthcmebmohhajaaaDoorPn
import Derived.Test.YthcmebmohhajaaaDoorPo
import Derived.Test.YthcmebmohhajaaaDoorPa
import Derived.WalkKit
import Derived.ProofKit
import Derived.OpenShut
import Derived.SizedLaws
import Derived.Test.YthcmebmohhajaaaDoorRows
import Derived.Test.YthcmebmohhajaaaDoorPh
import Derived.Deep.DeepHandedRow
import Derived.Lib.LaidTab
import Derived.LaidSub
namespace Go.Proofs.YthcmebmohhajaaaDoor
open Go.RowKit
set_option linter.unusedVariables false

/-! A head's bits; a writer on its way. -/
def szb8 (Z : List Int) : Nat → List Bool
  | 0 => []
  | i + 1 => szb8 Z i ++ bN (Z.getD (ordL.getD i 0).toNat 0).toNat 3
def rnb8 (Z : List Int) : List Rn8 → List Bool
  | [] => []
  | r :: R => (putB Z r.sy ++ bN (r.ct - lst8 r.sy).toNat (mor8 r.sy)) ++ rnb8 Z R
theorem rnb8_app (Z : List Int) (b : List Rn8) : ∀ a, rnb8 Z (a ++ b) = rnb8 Z a ++ rnb8 Z b
  | [] => rfl
  | r :: a => by simp only [List.cons_append, rnb8, rnb8_app Z b a, List.append_assoc]
def hd8 (lit dist : List Int) : List Bool := bN ((sht8 lit 257).length - 257) 5 ++ bN ((sht8 dist 1).length - 1) 5 ++ bN (tol8 (sz8 lit dist) 19 - 4) 4 ++ szb8 (sz8 lit dist) (tol8 (sz8 lit dist) 19) ++ rnb8 (sz8 lit dist) (rs8 lit dist)
theorem szb8_len (Z : List Int) : ∀ k, (szb8 Z k).length = 3 * k
  | 0 => rfl
  | k + 1 => by rw [szb8, List.length_append, szb8_len Z k, bN_len]; omega
theorem mor8_le (s : Int) : mor8 s ≤ 7 := by rcases mor8_in s with h | h | h | h <;> omega
theorem rnb8_len {Z : List Int} (h : errC Z = 0) : ∀ R, (rnb8 Z R).length ≤ 22 * R.length
  | [] => by simp [rnb8]
  | r :: R => by
    have h1 := putB_le h r.sy
    have h2 := mor8_le r.sy
    have h3 := rnb8_len h R
    rw [rnb8, List.length_append, List.length_append, bN_len, List.length_cons]
    omega
theorem ct8_lt {r : Rn8} (h : ok8 r) : (r.ct - lst8 r.sy).toNat < 2 ^ mor8 r.sy := by
  obtain ⟨h1, h2, h3, h4⟩ := h
  rw [grt8_lst r.sy h2] at h4
  have : ((2 : Int) ^ mor8 r.sy) = ((2 ^ mor8 r.sy : Nat) : Int) := by norm_cast
  omega
/-- A writer on its way: what it has, and what is kept. -/
def WrI (W wr : World) (bw B : Nat) (v : Value) (M : List Bool) : Prop := ∃ v', WrL wr bw B v' M ∧ Kp (WS bw v) W wr ∧ Fresh W v v'
theorem WrI.start {W : World} {bw B : Nat} {v : Value} {M : List Bool} (h : WrL W bw B v M) : WrI W W bw B v M := ⟨v, h, Kp.refl _ _, fun k e => .inl e⟩
theorem WrI.size {W wr : World} {bw B : Nat} {v : Value} {M : List Bool} (h : WrI W wr bw B v M) : W.heap.size ≤ wr.heap.size := by
  obtain ⟨v', _, h2, _⟩ := h
  exact h2.size
theorem WrI.kp {W wr : World} {bw B : Nat} {v : Value} {M : List Bool} (h : WrI W wr bw B v M) : Kp (WS bw v) W wr := by
  obtain ⟨v', _, h2, _⟩ := h
  exact h2
theorem WrI.next {W wr w' : World} {bw B : Nat} {v v1 v2 : Value} {M2 : List Bool} (hK : Kp (WS bw v) W wr) (hF : Fresh W v v1) (h : WrL w' bw B v2 M2) (hk : Kp (WS bw v1) wr w') (hf : Fresh wr v1 v2) : WrI W w' bw B v M2 := by
  refine ⟨v2, h, hK.trans (S' := WS bw v1) hk (fun k hlt e => ?_), fun k e => ?_⟩
  · rcases e with e | e
    · exact .inl e
    · rcases hF k e with e2 | e2
      · exact .inr e2
      · omega
  · rcases hf k e with e2 | e2
    · exact hF k e2
    · exact .inr (Nat.le_trans hK.size e2)
theorem kp_of_below {w w' : World} (h : Below w.heap.size w w') (S : Nat → Prop) : Kp S w w' := ⟨h.os, h.tape, h.output, h.size, fun k hk _ => h.block k hk⟩
theorem WrL.below8 {w w' : World} {b B : Nat} {v : Value} {L : List Bool} (h : WrL w b B v L) (hb : Below w.heap.size w w') : WrL w' b B v L := h.kp (kp_of_below hb (fun _ => False)) (fun h => h) (fun _ _ h => h)
theorem WrI.old {W wr w' : World} {bw B : Nat} {v : Value} {M : List Bool} (h : WrI W wr bw B v M) (hb : Below wr.heap.size wr w') : WrI W w' bw B v M := by
  obtain ⟨v', h1, h2, h3⟩ := h
  exact ⟨v', h1.below8 hb, h2.trans (S' := fun _ => False) (kp_of_below hb _) (fun _ _ e => e.elim), h3⟩
def PuQ (W : World) (bw B : Nat) (v : Value) (M : List Bool) (e : Ending) (w' : World) : Prop := e = .returned (.int .i64 0) ∧ WrI W w' bw B v M
/-- Put, on the way. -/
theorem put8 {W wr : World} {bw B : Nat} {v : Value} {M : List Bool} (h : WrI W wr bw B v M) (x k : Nat) (hx : x < 2 ^ k) (hk : k ≤ 56) (hl : M.length ≤ 1125899906842560) :
    Calls Tryd.prog 33 #[.pointer (some ⟨bw, 0, none⟩), .int .u64 (x : Int), .int .i64 (k : Int)] wr (PuQ W bw B v (M ++ bN x k)) := by
  obtain ⟨v', h1, h2, h3⟩ := h
  refine (put_ok bw B v' M x k wr h1 hx hk hl).mono ?_
  rintro e w' ⟨rfl, v2, q1, q2, q3⟩
  exact ⟨rfl, WrI.next h2 h3 q1 q2 q3⟩
def EpQ (W : World) (bw B : Nat) (v : Value) (M : List Bool) (er : Int) (e : Ending) (w' : World) : Prop := e = .returned (.int .i64 er) ∧ WrI W w' bw B v M
/-- An encoder's Put, on the way. -/
theorem eput8 {W wr : World} {bw B b N : Nat} {v : Value} {M : List Bool} {Z : List Int} (s : Int) (h : WrI W wr bw B v M) (hE : En wr b N Z) (hl : M.length ≤ 1125899906842560) :
    Calls Tryd.prog 35 #[.pointer (some ⟨b, 0, none⟩), .pointer (some ⟨bw, 0, none⟩), .int .i64 s] wr (EpQ W bw B v (M ++ putB Z s) (errP Z s)) := by
  obtain ⟨v', h1, h2, h3⟩ := h
  refine (put5_any b N Z s bw B v' M wr hE h1 hl).mono ?_
  rintro e w' ⟨rfl, v2, q1, q2, q3⟩
  exact ⟨rfl, WrI.next h2 h3 q1 q2 q3⟩
end Go.Proofs.YthcmebmohhajaaaDoor

namespace Go.Proofs.YthcmebmohhajaaaDoor
open Go.RowKit
set_option linter.unusedVariables false

/-! The landed head: Write. -/
def WtQ (w : World) (bw B : Nat) (v : Value) (L : List Bool) (lit dist : List Int) (e : Ending) (w' : World) : Prop := e = .returned (.int .i64 (if tld8 errC lit dist then 0 else 80)) ∧ WrI w w' bw B v (L ++ if tld8 errC lit dist then hd8 lit dist else [])
set_option maxRecDepth 100000 in
theorem pwrite_nil8 (a b : Option Addr) (n m ca cb : Nat) (w : World) : Calls Tryd.prog 14 #[.pointer none, .slice a n ca, .slice b m cb] w fun e w' => e = .returned (.int .i64 2) ∧ w' = w := by
  go_enter Tryd.func14, Tryd.ntmps14
  go_wp2_with fail
  go_ret
  exact ⟨rfl, rfl⟩
theorem WrI.drew8 {W wr : World} {bw B : Nat} {v : Value} {M : List Bool} (h : WrI W wr bw B v M) : WrI W wr.drew bw B v M := h.old ((Below.refl wr.heap.size wr).drew)
theorem own_blk28 {w : World} {base n cap : Nat} {e : TypeId} {b : Option Addr} {xs : List Value} (h : w.ownsRow base e 2 (.slice b n cap) n xs) : ∀ x, b = some x → base ≤ x.block := by
  rcases h.2 with ⟨h1, _⟩ | ⟨g, cp, cur, h1, hb, _⟩
  · simp only [Value.slice.injEq] at h1
    intro x e; rw [h1.1] at e; cases e
  · simp only [Value.slice.injEq] at h1
    intro x e; rw [h1.1] at e; cases e; exact hb
theorem WrI.up {w W wr : World} {bw B : Nat} {v : Value} {M : List Bool} (hb : Below w.heap.size w W) (h : WrI W wr bw B v M) : WrI w wr bw B v M := by
  obtain ⟨v', h1, h2, h3⟩ := h
  refine ⟨v', h1, (kp_of_below hb (WS bw v)).trans (S' := WS bw v) h2 (fun _ _ e => e), fun k e => ?_⟩
  rcases h3 k e with e2 | e2
  · exact .inl e2
  · exact .inr (Nat.le_trans hb.size e2)
set_option maxRecDepth 100000 in
set_option maxHeartbeats 4000000 in
theorem pwrite8 (bw B : Nat) (v : Value) (L : List Bool) (lit dist : List Int) (a b : Option Addr) (n m ca cb : Nat) (hn : Hid (lit.length = n)) (hm : Hid (dist.length = m)) (w : World) (hw : WrL w bw B v L) (hL : L.length ≤ 1125899906800000) (hx : SegZ w a lit) (hy : SegZ w b dist) (hca : n ≤ ca) (hcb : m ≤ cb) (T : TabS w) (O : TabO w) (hbw : 2 ≤ bw) (hB : 2 ≤ B) :
    Calls Tryd.prog 14 #[.pointer (some ⟨bw, 0, none⟩), .slice a n ca, .slice b m cb] w (WtQ w bw B v L lit dist) := by
  have CP := pplan8 lit dist a b n m ca cb hn hm w hx hy hca hcb T O
  have HTS : Hid (TabS w) := T
  have HTO : Hid (TabO w) := O
  have HWR : Hid (WrL w bw B v L) := hw
  have hbl := hw.b_lt
  have HOW := hw.own_lt
  clear hx hy T O hw
  by_cases ht : tld8 errC lit dist
  · have hZ := sz8_ok ht
    have hR := runs8_ok (tld8_ok ht).2.2.1
    have hR3 : (rs8 lit dist).length ≤ 320 := by have := (tld8_ok ht).2.2.1.1; unfold rs8; omega
    have hto := tol8_bd (sz8 lit dist) 19 (by omega)
    have HHD : Hid (hd8 lit dist = bN ((sht8 lit 257).length - 257) 5 ++ bN ((sht8 dist 1).length - 1) 5 ++ bN (tol8 (sz8 lit dist) 19 - 4) 4 ++ szb8 (sz8 lit dist) (tol8 (sz8 lit dist) 19) ++ rnb8 (sz8 lit dist) (rs8 lit dist)) := rfl
    obtain ⟨_, _, _, hla, hlb⟩ := tld8_ok ht
    have HQ : Hid (∀ w', WrI w w' bw B v (L ++ hd8 lit dist) → WtQ w bw B v L lit dist (.returned (.int .i64 0)) w') := fun w' h => by
      unfold WtQ
      rw [if_pos ht, if_pos ht]
      exact ⟨rfl, h⟩
    go_enter Tryd.func14, Tryd.ntmps14
    go_wp2_with fail
    refine CP.mono ?_
    rintro e w1 ⟨hyes, _, B1⟩
    obtain ⟨za, zc, ra, rc, rfl, OZ, OR⟩ := hyes ht
    have HOKR : Hid (∀ r ∈ rs8 lit dist, ok8 r) := fun r hr => hR.1 r hr
    clear hyes ht CP hR
    generalize (sht8 lit 257).length = nA at *
    generalize (sht8 dist 1).length = nB at *
    obtain ⟨Z, hZe⟩ : ∃ Z, Z = sz8 lit dist := ⟨_, rfl⟩
    obtain ⟨R, hRe⟩ : ∃ R, R = rs8 lit dist := ⟨_, rfl⟩
    rw [← hZe, ← hRe] at HHD
    rw [← hZe] at hZ hto OZ ⊢
    rw [← hRe] at hZ hR3 OR HOKR ⊢
    clear hZe hRe
    generalize tol8 Z 19 = tq at *
    obtain ⟨kA, rfl⟩ : ∃ kA, nA = kA + 257 := ⟨nA - 257, by omega⟩
    obtain ⟨kB, rfl⟩ : ∃ kB, nB = kB + 1 := ⟨nB - 1, by omega⟩
    obtain ⟨kt, rfl⟩ : ∃ kt, tq = kt + 4 := ⟨tq - 4, by omega⟩
    rw [show kA + 257 - 257 = kA by omega, show kB + 1 - 1 = kB by omega, show kt + 4 - 4 = kt by omega] at HHD
    obtain ⟨nR, hnR⟩ : ∃ nR, nR = R.length := ⟨_, rfl⟩
    have HNR : Hid (R.length = nR) := hnR.symm
    rw [← hnR] at hR3 OR ⊢
    clear hnR
    obtain ⟨zg, rfl, hzc, hzg, hzl⟩ := own_shape1 OZ (by omega)
    obtain ⟨hZC, hZ19, hZb, _⟩ := hZ
    have HZC : Hid (errC Z = 0) := hZC
    have SZ1 : SegZ w1 (some ⟨zg, 0, none⟩) Z := own_segZ OZ (fun z hz => by
      obtain ⟨i, hi, rfl⟩ := List.mem_iff_getElem.1 hz
      have := hZb i (by rw [hZ19] at hi; exact hi)
      simp only [List.getD, List.getElem?_eq_getElem hi, Option.getD_some] at this
      omega)
    have SR1 : SegN w1 ra R := own_segN OR HNR.out
    have hrg : ∀ g o, ra = some ⟨g, o, none⟩ → w.heap.size ≤ g := fun g o e => own_blk28 OR _ e
    obtain ⟨W, hW⟩ : ∃ W, W = w1.alloc (.cells #[.int .i64 ((kA : Int) + 257), .int .i64 ((kB : Int) + 1), .slice (some ⟨zg, 0, none⟩) 19 zc, .int .i64 ((kt : Int) + 4), .slice ra nR rc] 88) := ⟨_, rfl⟩
    have HWE : Hid (w1.alloc (.cells #[.int .i64 ((kA : Int) + 257), .int .i64 ((kB : Int) + 1), .slice (some ⟨zg, 0, none⟩) 19 zc, .int .i64 ((kt : Int) + 4), .slice ra nR rc] 88) = W) := hW.symm
    have BW : Below w1.heap.size w1 W := by rw [hW]; exact below_box8 _ _
    have hPW : W.heap[w1.heap.size]? = some (.cells #[.int .i64 ((kA : Int) + 257), .int .i64 ((kB : Int) + 1), .slice (some ⟨zg, 0, none⟩) 19 zc, .int .i64 ((kt : Int) + 4), .slice ra nR rc] 88 (0, 0)) := by rw [hW]; exact heap_alloc_new _ _
    have hlW : w1.heap.size < W.heap.size := (Array.getElem?_eq_some_iff.1 hPW).1
    obtain ⟨⟨p0, p1, p2, p3, p4⟩, _⟩ := five_cells hPW
    have SZW := SZ1.old BW
    have SRW := SR1.old BW
    have xW : Below w.heap.size w W := B1.trans (BW.mono B1.size)
    have TW : TabS W := SegZ.old HTS.out xW
    have OW : TabO W := SegZ.old HTO.out xW
    have HI0 : WrI W W bw B v L := WrI.start ((show WrL w bw B v L from HWR.out).below8 xW)
    have hPs : w.heap.size ≤ w1.heap.size := B1.size
    -- what stays while the writer writes
    have HK : Hid (∀ wr, Kp (WS bw v) W wr → (wr.cell? ⟨w1.heap.size, 0, none⟩ = some (.int .i64 ((kA : Int) + 257)) ∧ wr.cell? ⟨w1.heap.size, 1, none⟩ = some (.int .i64 ((kB : Int) + 1)) ∧ wr.cell? ⟨w1.heap.size, 2, none⟩ = some (.slice (some ⟨zg, 0, none⟩) 19 zc) ∧ wr.cell? ⟨w1.heap.size, 3, none⟩ = some (.int .i64 ((kt : Int) + 4)) ∧ wr.cell? ⟨w1.heap.size, 4, none⟩ = some (.slice ra nR rc)) ∧ SegZ wr (some ⟨zg, 0, none⟩) Z ∧ SegN wr ra R ∧ TabS wr ∧ TabO wr) := fun wr hk => by
      have hfar : ∀ k, w.heap.size ≤ k → ¬ WS bw v k := fun k hk2 e => by
        rcases e with e | e
        · omega
        · have := (HOW k e).2.1; omega
      have hlow : ∀ k, k < 2 → ¬ WS bw v k := fun k hk2 e => by
        rcases e with e | e
        · omega
        · have := (HOW k e).1; omega
      refine ⟨⟨hk.cellN p0 (hfar w1.heap.size hPs), hk.cellN p1 (hfar w1.heap.size hPs), hk.cellN p2 (hfar w1.heap.size hPs), hk.cellN p3 (hfar w1.heap.size hPs), hk.cellN p4 (hfar w1.heap.size hPs)⟩, SZW.kp hk (fun g o e _ => by cases e; exact hfar _ hzg), SRW.kp hk (fun g o e => hfar _ (hrg g o e)), SegZ.kp TW hk (fun g o e _ => by cases e; exact hlow 0 (by omega)), SegZ.kp OW hk (fun g o e _ => by cases e; exact hlow 1 (by omega))⟩
    clear OZ OR SZ1 SR1 hPW p0 p1 p2 p3 p4 SZW SRW TW OW BW hW
    have HKA : Hid (kA < 2 ^ 5 ∧ kB < 2 ^ 5 ∧ kt < 2 ^ 4) := ⟨by omega, by omega, by omega⟩
    go_wp2_with fail
    rw [HWE.out]
    refine (put8 HI0 kA 5 HKA.out.1 (by omega) (by omega)).mono ?_
    rintro e w2 ⟨rfl, HI1⟩
    obtain ⟨⟨q0, q1, q2, q3, q4⟩, _⟩ := HK.out w2 HI1.kp
    clear HWE HI0
    go_wp2_with fail
    refine (put8 HI1 kB 5 HKA.out.2.1 (by omega) (by simp [bN_len]; omega)).mono ?_
    rintro e w3 ⟨rfl, HI2⟩
    obtain ⟨⟨q0, q1, q2, q3, q4⟩, _⟩ := HK.out w3 HI2.kp
    clear HI1
    go_wp2_with fail
    refine (put8 HI2 kt 4 HKA.out.2.2 (by omega) (by simp [bN_len]; omega)).mono ?_
    rintro e w4 ⟨rfl, HI3⟩
    obtain ⟨⟨q0, q1, q2, q3, q4⟩, _⟩ := HK.out w4 HI3.kp
    clear HI2
    obtain ⟨M3, hM3⟩ : ∃ M3, M3 = L ++ bN kA 5 ++ bN kB 5 ++ bN kt 4 := ⟨_, rfl⟩
    have HM3 : Hid (M3 = L ++ bN kA 5 ++ bN kB 5 ++ bN kt 4) := hM3
    have hM3l : M3.length = L.length + 14 := by rw [hM3]; simp [bN_len]
    rw [← hM3] at HI3
    clear hM3
    go_wp2_with fail
    go_loopw [46] (fun ti wr => ∃ i : Nat, i ≤ kt + 4 ∧ ti = .int .i64 (i : Int) ∧ WrI W wr bw B v (M3 ++ szb8 Z i)) (fun ti _ => kt + 4 - (intOf ti).toNat)
    case atStart => exact ⟨0, by omega, rfl, by rw [szb8, List.append_nil]; exact HI3⟩
    case round =>
      obtain ⟨i, hit, rfl, HI⟩ := hrel
      clear HI3 q0 q1 q2 q3 q4
      obtain ⟨⟨q0, q1, q2, q3, q4⟩, SZ, SR, TS, TO⟩ := HK.out wr HI.kp
      by_cases hlt : i < kt + 4
      · have hlti : (i : Int) < (kt : Int) + 4 := by omega
        have c0 := TabO.at8 TO i (by omega)
        have hob := ord_bd ⟨i, by omega⟩
        simp only at hob
        have KR2 : Hid (∀ w' M, WrI W w' bw B v M → w'.cell? ⟨w1.heap.size, 2, none⟩ = some (.slice (some ⟨zg, 0, none⟩) 19 zc) ∧ w'.cell? ⟨1, i, none⟩ = some (.int .i64 (ordL.getD i 0)) ∧ w'.cell? ⟨zg, (ordL.getD i 0).toNat, none⟩ = some (.int .i64 (Z.getD (ordL.getD i 0).toNat 0))) := fun w' M h => by
          obtain ⟨⟨_, _, r2, _⟩, RZ, _, _, RO⟩ := HK.out w' h.kp
          obtain ⟨zg', off', ez, cz⟩ := RZ.at_ (ordL.getD i 0).toNat (by omega)
          cases ez
          rw [Nat.zero_add] at cz
          exact ⟨r2, TabO.at8 RO i (by omega), cz⟩
        have HSB : Hid (szb8 Z (i + 1) = szb8 Z i ++ bN (Z.getD (ordL.getD i 0).toNat 0).toNat 3) := rfl
        have hl3 := szb8_len Z i
        generalize ordL.getD i 0 = oq at *
        obtain ⟨s, rfl⟩ : ∃ s : Nat, oq = (s : Int) := ⟨oq.toNat, by omega⟩
        rw [Int.toNat_natCast] at HSB KR2
        obtain ⟨zg', off', ez, cz⟩ := SZ.at_ s (by omega)
        cases ez
        rw [Nat.zero_add] at cz
        have hzb := hZb s (by omega)
        generalize Z.getD s 0 = z at *
        obtain ⟨zn, rfl⟩ : ∃ zn : Nat, z = (zn : Int) := ⟨z.toNat, by omega⟩
        rw [Int.toNat_natCast] at HSB
        have hs19 : (s : Int) < 19 := by omega
        have hi19 : (i : Int) < 19 := by omega
        have CPU := put8 (HI.drew8) zn 3 (by omega) (by omega) (by rw [List.length_append, hl3]; omega)
        rw [List.append_assoc, ← HSB.out] at CPU
        have KR : Hid (wr.cell? ⟨w1.heap.size, 2, none⟩ = some (.slice (some ⟨zg, 0, none⟩) 19 zc) ∧ wr.cell? ⟨1, i, none⟩ = some (.int .i64 (s : Int)) ∧ wr.cell? ⟨zg, s, none⟩ = some (.int .i64 (zn : Int))) := ⟨q2, c0, cz⟩
        clear HI SZ SR TS TO q0 q1 q3 q4 HSB
        go_wp2_with fail
        have r2 : wr.drew.cell? ⟨w1.heap.size, 2, none⟩ = some (.slice (some ⟨zg, 0, none⟩) 19 zc) := KR.out.1
        have r3 : wr.drew.cell? ⟨1, i, none⟩ = some (.int .i64 (s : Int)) := KR.out.2.1
        have r4 : wr.drew.cell? ⟨zg, s, none⟩ = some (.int .i64 (zn : Int)) := KR.out.2.2
        have HCV : Hid (IntKind.u64.wrap (zn : Int) = (zn : Int)) := IntWalk.u64_in _ (by omega)
        clear KR KR2 q2 c0 cz HK HOW
        go_region_law (first | (go_simp; go_at_call 33; rw [HCV.out]; refine CPU.mono ?_; rintro e w5 ⟨rfl, HI5⟩))
        all_goals
          go_wp2_with fail
          go_roundw
          case rel => exact ⟨i + 1, by omega, by go_num, HI5⟩
          case measure => simp [intOf]; omega
      · have hge : ¬ (i : Int) < (kt : Int) + 4 := by omega
        obtain rfl : i = kt + 4 := by omega
        have hl3 := szb8_len Z (kt + 4)
        obtain ⟨M4, hM4⟩ : ∃ M4, M4 = M3 ++ szb8 Z (kt + 4) := ⟨_, rfl⟩
        have HM4 : Hid (M4 = M3 ++ szb8 Z (kt + 4)) := hM4
        have hM4l : M4.length ≤ L.length + 80 := by rw [hM4, List.length_append, hl3]; omega
        rw [← hM4] at HI
        clear hM4
        have CE := newEnc_far (some ⟨zg, 0, none⟩) Z 19 zc hZ19 wr SZ (fun h => by cases h) (by omega)
        have hws := HI.size
        generalize wr = w5 at *
        clear SZ SR TS TO
        go_wp2_with fail
        refine CE.mono ?_
        rintro e w6 ⟨hE, _, B6⟩
        obtain ⟨eb, rfl, heb, hEn, hEK⟩ := hE HZC.out
        obtain ⟨v6, hw5, K5, F5⟩ := HI
        have K6 : Kp (WS bw v) W w6 := K5.trans (S' := fun _ => False) (kp_of_below B6 _) (fun _ _ e => e.elim)
        have hw6 := hw5.below8 B6
        have hb5 := hw5.b_lt
        have ho5 := hw5.own_lt
        have HK2 : Hid (∀ wr, Kp (WS bw v6) w6 wr → SegN wr ra R ∧ TabS wr ∧ En wr eb w6.heap.size Z) := fun wr hk => by
          have hk2 : Kp (WS bw v) W wr := K6.trans (S' := WS bw v6) hk (fun k hlt e => by
            rcases e with e | e
            · exact .inl e
            · rcases F5 k e with e2 | e2
              · exact .inr e2
              · omega)
          obtain ⟨_, _, h1, h2, _⟩ := HK.out wr hk2
          refine ⟨h1, h2, hEK wr ((Kp.refl (fun k => k < w5.heap.size) w6).trans (S' := WS bw v6) hk (fun k hlt e => ?_))⟩
          rcases e with e | e
          · omega
          · exact (ho5 k e).2.1
        obtain ⟨⟨r0, r1, r2, r3, r4⟩, _⟩ := HK.out w6 K6
        have HJ : Hid (∀ wr, WrI w6 wr bw B v6 (M4 ++ rnb8 Z R) → WtQ w bw B v L lit dist (.returned (.int .i64 0)) wr) := fun wr h => by
          refine HQ.out wr ?_
          have e : L ++ hd8 lit dist = M4 ++ rnb8 Z R := by
            rw [HHD.out, HM4.out, HM3.out]
            simp only [List.append_assoc]
          rw [e]
          obtain ⟨v7, h1, h2, h3⟩ := h
          exact WrI.up xW (WrI.next K6 F5 h1 h2 h3)
        have HI6 : WrI w6 w6 bw B v6 M4 := WrI.start hw6
        clear hE CE hEK hEn K5 hw5 K6 F5 HK HQ HHD HM3 HM4 r0 r1 r2 r3 hw6 B6 hws
        have hs5 : bw < w6.heap.size := by have := HI6.kp.size; obtain ⟨_, h, _⟩ := HI6; exact h.b_lt
        go_wp2_with fail
        clear r4
        go_loopw [69] (fun ti wr => ∃ i : Nat, i ≤ nR ∧ ti = .int .i64 (i : Int) ∧ WrI w6 wr bw B v6 (M4 ++ rnb8 Z (R.take i))) (fun ti _ => nR - (intOf ti).toNat)
        case atStart => exact ⟨0, by omega, rfl, by rw [List.take_zero, rnb8, List.append_nil]; exact HI6⟩
        case round =>
          obtain ⟨i, hin, rfl, HI⟩ := hrel
          clear HI6
          by_cases hlt : i < nR
          · have hlti : (i : Int) < (nR : Int) := by omega
            have hil : i < R.length := by rw [HNR.out]; exact hlt
            obtain ⟨SR, TS, hEn⟩ := HK2.out wr HI.kp
            obtain ⟨rb, off, rfl, cs, cc⟩ := SR.at_ i hil
            have HTK : Hid (R.take (i + 1) = R.take i ++ [R.getD i ⟨0, 0⟩]) := take_snocN hil
            have hok := HOKR.out (R.getD i ⟨0, 0⟩) (by simp [List.getD, hil])
            have hml : (M4 ++ rnb8 Z (R.take i)).length ≤ L.length + 8000 := by
              have := rnb8_len HZC.out (R.take i)
              rw [List.length_take] at this
              rw [List.length_append]
              omega
            have hctl := ct8_lt hok
            have HRB : Hid (M4 ++ rnb8 Z (R.take (i + 1)) = (M4 ++ rnb8 Z (R.take i)) ++ putB Z (R.getD i ⟨0, 0⟩).sy ++ bN ((R.getD i ⟨0, 0⟩).ct - lst8 (R.getD i ⟨0, 0⟩).sy).toNat (mor8 (R.getD i ⟨0, 0⟩).sy)) := by
              show _ = _
              rw [HTK.out, rnb8_app, rnb8, rnb8, List.append_nil]
              simp only [List.append_assoc]
            generalize M4 ++ rnb8 Z (R.take i) = MM at *
            generalize R.getD i ⟨0, 0⟩ = r at *
            obtain ⟨sy, ct⟩ := r
            simp only [ok8] at cs cc hok hctl HRB
            obtain ⟨s, rfl⟩ : ∃ s : Nat, sy = (s : Int) := ⟨sy.toNat, by omega⟩
            have hs19 : (s : Int) < 19 := by omega
            obtain ⟨v7, h71, h72, h73⟩ := HI
            have hb7 := h71.b_lt
            have ho7 := h71.own_lt
            obtain ⟨wA, hwA⟩ : ∃ wA, wA = wr.alloc (.cells #[.int .i64 (s : Int), .int .i64 ct] 78) := ⟨_, rfl⟩
            have HWA : Hid (wr.alloc (.cells #[.int .i64 (s : Int), .int .i64 ct] 78) = wA) := hwA.symm
            have hA : wA.heap[wr.heap.size]? = some (.cells #[.int .i64 (s : Int), .int .i64 ct] 78 (0, 0)) := by rw [hwA]; exact heap_alloc_new wr _
            have bA : Below wr.heap.size wr wA := by rw [hwA]; exact below_box8 wr _
            have cA0 : wA.cell? ⟨wr.heap.size, 0, none⟩ = some (.int .i64 (s : Int)) := (cell_of_row wA _ 0 _ _ _ hA).trans rfl
            have cA1 : wA.cell? ⟨wr.heap.size, 1, none⟩ = some (.int .i64 ct) := (cell_of_row wA _ 1 _ _ _ hA).trans rfl
            have hEA := hEn.old (bA.mono (by have := h72.size; omega))
            have CE2 := put5_any eb w6.heap.size Z (s : Int) bw B v7 MM wA hEA (h71.below8 bA) (by omega)
            have h72A : Kp (WS bw v6) w6 wA := h72.trans (S' := fun _ => False) (kp_of_below bA _) (fun _ _ e => e.elim)
            clear hwA hA bA SR TS hEn hEA h71 h72
            go_wp2_with fail
            rw [HWA.out]
            refine CE2.mono ?_
            rintro e w7 ⟨rfl, v8, h81, h82, h83⟩
            have hfarA : ¬ WS bw v7 wr.heap.size := fun e => by
              rcases e with e | e
              · omega
              · have := (ho7 _ e).2.1; omega
            have c70 := h82.cellN cA0 hfarA
            have c71 := h82.cellN cA1 hfarA
            obtain ⟨v9, h91, h92, h93⟩ := WrI.next h72A h73 h81 h82 h83
            obtain ⟨_, TS, _⟩ := HK2.out w7 h92
            obtain ⟨t0, t1, t2⟩ := TabS.at8 TS s (by omega)
            have hl1 := lst8_bd (s : Int)
            have hm1 := mor8_le (s : Int)
            have hl7 : (MM ++ putB Z (s : Int)).length ≤ L.length + 9000 := by
              have := putB_le HZC.out (s : Int)
              rw [List.length_append]
              omega
            clear CE2 h81 h82 h83 hfarA cA0 cA1 cs cc TS HWA h72A h73 HTK
            generalize sln8 (s : Int) = x0 at *
            generalize lst8 (s : Int) = x1 at *
            generalize mor8 (s : Int) = mo at *
            obtain ⟨k, rfl⟩ : ∃ k : Nat, ct = x1 + (k : Int) := ⟨(ct - x1).toNat, by omega⟩
            rw [show x1 + (k : Int) - x1 = (k : Int) by omega, Int.toNat_natCast] at hctl HRB
            have hkb : k ≤ 127 := by
              have : 2 ^ mo ≤ 2 ^ 7 := Nat.pow_le_pow_right (by omega) hm1
              omega
            have hlt7 : wr.heap.size < w7.heap.size := World.block_lt_of_cell? w7 _ c70
            have h07 : 0 < w7.heap.size := by omega
            have HI9 : WrI w6 w7 bw B v6 (MM ++ putB Z (s : Int)) := ⟨v9, h91, h92, h93⟩
            have HI10 := HI9.old (below_box8 w7 (.cells #[.int .i64 x0, .int .i64 x1, .int .i64 (mo : Int)] 92))
            have CPU := put8 HI10 k mo hctl (by omega) (by omega)
            rw [← HRB.out] at CPU
            clear HI9 HI10 h91 h92 h93 HRB
            go_wp2_with fail
            rw [show x1 + (k : Int) - x1 = (k : Int) by omega]
            refine CPU.mono ?_
            rintro e w8 ⟨rfl, HI8⟩
            go_wp2_with fail
            go_roundw
            case rel => exact ⟨i + 1, by omega, by go_num, HI8⟩
            case measure => simp [intOf]; omega
          · have hge : ¬ (i : Int) < (nR : Int) := by omega
            have hTA : R.take i = R := List.take_of_length_le (by rw [HNR.out]; omega)
            rw [hTA] at HI
            have HF := HJ.out wr HI
            clear HJ HK2
            go_wp2_with fail
            go_ret
            exact HF
  · have HF : Hid (∀ w', Below w.heap.size w w' → WtQ w bw B v L lit dist (.returned (.int .i64 80)) w') := fun w' hb => by
      unfold WtQ
      rw [if_neg ht, if_neg ht, List.append_nil]
      exact ⟨rfl, (WrI.start HWR.out).old hb⟩
    go_enter Tryd.func14, Tryd.ntmps14
    go_wp2_with fail
    refine CP.mono ?_
    rintro e w1 ⟨_, hno, B1⟩
    obtain rfl := hno ht
    clear CP hno ht
    go_wp2_with fail
    go_ret
    exact HF.out _ (B1.trans ((below_box8 w1 _).mono B1.size))
end Go.Proofs.YthcmebmohhajaaaDoor

namespace Go.Proofs.YthcmebmohhajaaaDoor
open Go.RowKit
set_option linter.unusedVariables false

/-! HeadTold. -/
theorem tabO_two8 {w : World} (h : TabO w) : 2 ≤ w.heap.size := by
  have := World.block_lt_of_cell? w _ (h.at8 0 (by omega))
  simp at this
  omega
theorem feed_one8 (br : Nat) (H : List Bool) (t : Nat) (g o : Nat) (x : Int) (c : Nat) (w : World) (h : Rd w br H t) (hs : Seg w (some ⟨g, o, none⟩) [x]) (hc : 1 ≤ c) (hg : g ≠ br) (hH : H.length ≤ 56) :
    Calls Tryd.prog 19 #[.pointer (some ⟨br, 0, none⟩), .slice (some ⟨g, o, none⟩) 1 c] w fun e w' => e = .returned (.int .i64 1) ∧ Rd w' br (H ++ bB [x]) t ∧ Kp (fun k => k = br) w w' := by
  have := feed_any br H t (some ⟨g, o, none⟩) [x] c w h hs hc (fun g2 o2 e _ => by cases e; exact hg) (by simp)
  have e : feedN H [x].length = 1 := by unfold feedN; simp; omega
  rw [e] at this
  exact this
theorem seg_one8 {w : World} {g o : Nat} {z : List Int} (h : Seg w (some ⟨g, o, none⟩) z) {i : Nat} (hi : i < z.length) : Seg w (some ⟨g, o + i, none⟩) [z.getD i 0] := by
  have := (h.drop i).take 1
  have e : (z.drop i).take 1 = [z.getD i 0] := by
    rw [List.drop_eq_getElem_cons hi, List.take_succ_cons, List.take_zero]
    simp only [List.getD, List.getElem?_eq_getElem hi, Option.getD_some]
  rw [e] at this
  exact this
set_option maxRecDepth 100000 in
set_option maxHeartbeats 4000000 in
theorem headTold_walk (w : World) (tab : TabS w ∧ TabO w) (a : Option Addr) (z : List Int) (cap : Nat) (hs : Seg w a z) (hc : z.length ≤ cap) (hnil : a = none → cap = 0) (hl : z.length ≤ 140737488351232) :
    Calls Tryd.prog 5 #[.slice a z.length cap] w fun e w' => e = .returned (.bool true) ∧ Below w.heap.size w w' := by
  obtain ⟨TS, TO⟩ := tab
  have h2 := tabO_two8 TO
  obtain ⟨n, hnn⟩ : ∃ n, n = z.length := ⟨_, rfl⟩
  have HN : Hid (z.length = n) := hnn.symm
  rw [← hnn] at hl hc ⊢
  clear hnn
  have HTS : Hid (TabS w) := TS
  have HTO : Hid (TabO w) := TO
  have HS : Hid (Seg w a z) := hs
  clear hs TO
  go_enter Tryd.func5, Tryd.ntmps5
  go_wp2_with fail
  refine (pnew8 w).mono ?_
  rintro e w1 ⟨b, hb, rfl, RB, B1⟩
  go_wp2_with fail
  refine (awake8 w1 (SegZ.old TS B1)).mono ?_
  rintro e w2 ⟨rfl, B2⟩
  have R2 : RdH w2 b ini8 := (pnew_rd8 RB).keep (B2.block b RB.lt)
  have B12 := B1.trans (B2.mono B1.size)
  have hb2 := R2.lt
  clear RB B1 B2 TS
  go_wp2_with fail
  have q3 := heap_alloc_new w2 (.cells #[.int .u64 0, .int .i64 0, .int .i64 0] 52)
  have K3 : Kp (fun _ => False) w2 (w2.alloc (.cells #[.int .u64 0, .int .i64 0, .int .i64 0] 52)) := Kp.alloc w2 _
  have B3 : Below w.heap.size w (w2.alloc (.cells #[.int .u64 0, .int .i64 0, .int .i64 0] 52)) := B12.alloc B12.size _
  generalize w2.alloc (.cells #[.int .u64 0, .int .i64 0, .int .i64 0] 52) = w3 at *
  obtain ⟨br, hbr⟩ : ∃ br, br = w2.heap.size := ⟨_, rfl⟩
  rw [← hbr] at q3 ⊢
  have hne : b ≠ br := by omega
  have hbr2 : w.heap.size ≤ br := by have := B12.size; omega
  have R3 : RdH w3 b ini8 := R2.keep (K3.block b hb2 (fun e => e))
  have r3 : Rd w3 br [] 0 := Rd.new q3
  have HI : Hid (RdH w3 b ini8 ∧ Rd w3 br [] 0 ∧ Below w.heap.size w w3) := ⟨R3, r3, B3⟩
  clear R2 B12 hb2 q3 K3 B3 hbr R3 r3
  go_loopw [5] (fun ti wr => ∃ (i : Nat) (s : S8) (H : List Bool) (t : Nat), i ≤ n ∧ ti = .int .i64 (i : Int) ∧ Ok8 s ∧ s.nx < 4 ∧ Wait8 s H ∧ t + H.length = 8 * i ∧ RdH wr b s ∧ Rd wr br H t ∧ Below w.heap.size w wr) (fun ti _ => n - (intOf ti).toNat)
  case atStart => exact ⟨0, ini8, [], 0, by omega, rfl, ini8_ok, by decide, .inl ⟨rfl, by decide⟩, rfl, HI.out.1, HI.out.2.1, HI.out.2.2⟩
  case round =>
    obtain ⟨i, s, H, t, hin, rfl, ok, h4, hw, hth, hR, hr, Bw⟩ := hrel
    clear HI
    by_cases hlt : i < n
    · have hlti : (i : Int) < (n : Int) := by omega
      obtain ⟨g, o, rfl, c0⟩ := (HS.out.old Bw).at_ i (by have := HN.out; omega)
      have hgl : g < w.heap.size := HS.out.lt g o rfl (by have := HN.out; omega)
      have hsh := hw.short ok h4
      have CF := feed_one8 br H t g (o + i) (z.getD i 0) (cap - i) wr hr (seg_one8 (HS.out.old Bw) (by have := HN.out; omega)) (by omega) (by omega) (by omega)
      have HOK : Hid (Ok8 s) := ok
      have HR : Hid (RdH wr b s) := hR
      have HBw : Hid (Below w.heap.size w wr) := Bw
      have HWT : Hid (Wait8 s H) := hw
      have i1 : IntKind.i64.wrap ((i : Int) + 1) = (i : Int) + 1 := IntWalk.i64_in _ (by omega)
      generalize z.getD i 0 = x at CF
      clear ok hR hr Bw hw c0
      go_wp2_with fail
      refine CF.mono ?_
      rintro e w4 ⟨rfl, r4, k4⟩
      have R4 : RdH w4 b s := HR.out.keep (k4.block b HR.out.lt hne)
      have B4 : Below w.heap.size w w4 := HBw.out.trans (k4.below (fun _ e => by omega) HBw.out.size)
      have CS := pstep8 b br s (H ++ bB [x]) t w4 (SegZ.old HTS.out B4) (SegZ.old HTO.out B4) hne (by omega) (by omega) HOK.out R4 r4 (by omega)
      have HB4 : Hid (Below w.heap.size w w4) := B4
      clear CF R4 k4 B4 r4
      go_wp2_with fail
      refine CS.mono ?_
      rintro e w5 ⟨s', m, run, wt, rfl, R5, r5, k5⟩
      have ok5 := run.ok HOK.out
      have B5 : Below w.heap.size w w5 := HB4.out.trans (k5.below (fun _ e => by rcases e with e | e <;> omega) HB4.out.size)
      have top := ok5.top
      have HB5 : Hid (Below w.heap.size w w5) := B5
      have HOK5 : Hid (Ok8 s') := ok5
      clear CS k5 B5 ok5
      obtain hx | hx | hx : s'.nx = 5 ∨ s'.nx = 4 ∨ s'.nx < 4 := by omega
      · rw [if_pos hx, decide_eq_false (by omega)]
        clear run wt R5 r5
        go_wp2_with fail
        go_ret
        exact ⟨rfl, HB5.out⟩
      · rw [if_neg (by omega), decide_eq_true hx]
        have CL := plens84 b s' w5 R5 HOK5.out hx
        have h45 := HOK5.out.at4 hx
        have hol := HOK5.out.ol
        have hob := HOK5.out.ob
        clear run wt R5 r5
        go_wp2_with fail
        refine CL.mono ?_
        rintro e w6 ⟨g1, g2, rfl, o1, o2, hg, b6⟩
        have B6 : Below w.heap.size w w6 := HB5.out.trans (b6.mono HB5.out.size)
        obtain ⟨L, hL⟩ : ∃ L, L = s'.out.take s'.lit := ⟨_, rfl⟩
        obtain ⟨D, hD⟩ : ∃ D, D = s'.out.drop s'.lit := ⟨_, rfl⟩
        have hLl : L.length = s'.lit := by rw [hL, List.length_take]; omega
        have hDl : D.length = s'.dist := by rw [hD, List.length_drop]; omega
        have sL : SegZ w6 (some ⟨g1, 0, none⟩) L := by rw [hL]; exact own_segZ o1.own (fun z hz => by have := hob z (List.mem_of_mem_take hz); omega)
        have sD : SegZ w6 (some ⟨g2, 0, none⟩) D := by rw [hD]; exact own_segZ o2.own (fun z hz => by have := hob z (List.mem_of_mem_drop hz); omega)
        have ht : tld8 errC L D := by rw [hL, hD]; exact h45.2
        have hsum : s'.lit + s'.dist ≤ 316 := by omega
        have HL : Hid (L.length = s'.lit) := hLl
        have HD : Hid (D.length = s'.dist) := hDl
        generalize s'.lit = l at *
        generalize s'.dist = d at *
        have hsumi : (l : Int) + (d : Int) ≤ 316 := by omega
        have HT : Hid (tld8 errC L D) := ht
        have CC := pcost8 L D (some ⟨g1, 0, none⟩) (some ⟨g2, 0, none⟩) l d l d HL HD w6 sL sD (Nat.le_refl _) (Nat.le_refl _) (SegZ.old HTS.out B6) (SegZ.old HTO.out B6)
        unfold CsQ at CC
        rw [if_pos ht] at CC
        clear CL hL hD hLl hDl h45 hol hob o1 o2 ht b6 HOK5
        generalize cst8 L D = c at CC
        go_wp2_with fail
        refine CC.mono ?_
        rintro e w7 ⟨rfl, b7⟩
        have CT := told8 L D (some ⟨g1, 0, none⟩) (some ⟨g2, 0, none⟩) l d l d HL HD w7 (sL.old b7) (sD.old b7) HT.out
        have B7 : Below w.heap.size w w7 := B6.trans (b7.mono B6.size)
        have i2 : IntKind.i64.wrap ((l : Int) + (d : Int)) = (l : Int) + (d : Int) := IntWalk.i64_in _ (by omega)
        clear CC b7 sL sD B6
        go_wp2_with fail
        refine CT.mono ?_
        rintro e w8 ⟨rfl, b8⟩
        have B8 : Below w.heap.size w w8 := B7.trans (b8.mono B7.size)
        clear CT b8 B7
        go_wp2_with fail
        go_ret
        exact ⟨rfl, B8⟩
      · rw [if_neg (by omega), decide_eq_false (by omega)]
        have HREL : Hid (∃ (i' : Nat) (s : S8) (H : List Bool) (t : Nat), i' ≤ n ∧ Value.int .i64 ((i : Int) + 1) = .int .i64 (i' : Int) ∧ Ok8 s ∧ s.nx < 4 ∧ Wait8 s H ∧ t + H.length = 8 * i' ∧ RdH w5 b s ∧ Rd w5 br H t ∧ Below w.heap.size w w5) := by
          refine ⟨i + 1, s', _, _, by omega, rfl, HOK5.out, hx, wt, ?_, R5, r5, HB5.out⟩
          have := run.le
          rw [List.length_append, bB_len] at this
          rw [List.length_drop, List.length_append, bB_len]
          simp at this ⊢
          omega
        clear run wt R5 r5 HB5 HOK5
        go_wp2_with fail
        go_roundw
        case rel => exact HREL.out
        case measure => simp [intOf]; omega
    · obtain rfl : i = n := by omega
      go_wp2_with fail
      go_ret
      exact ⟨rfl, Bw⟩
end Go.Proofs.YthcmebmohhajaaaDoor

namespace Go.Proofs.YthcmebmohhajaaaDoor
open Go.ChangeShapes Go.WideShapes Go.ChangeAt Go.RowKit
set_option linter.unusedVariables false

/-- A slice of whole numbers that came in: what lies there, and how it was read. -/
theorem open_seg {H : Type} {enc : TypeId × Value → H} {P : Program} {W : World} {T e : TypeId} {k : IntKind} {M : Int} {a : Option Addr} {len cap : Nat} {d : DataW H} {p : List MemPlace}
    (hT : P.underlying T = some (.slice e)) (he : P.underlying e = some (.int k)) (hc : P.cellsOf e = 1) (hM : 0 ≤ M) (hwf : ∀ n, (Lit.int k n).wf = true → 0 ≤ n ∧ n ≤ M)
    (h : DataW.Trod enc P W 0 (fun _ => true) true T (.slice a len cap) d p) :
    ∃ zs : List Int, zs.length = len ∧ SegK k M W a zs ∧ len ≤ cap ∧ (a = none → cap = 0) ∧ ((d = .nil ∧ len = 0) ∨ ∃ elems spare, d = .slice elems spare ∧ elems.length = len) := by
  obtain ⟨fuel, hf⟩ := h
  rcases open_ints hT he hc hf with ⟨hcs, hx⟩ | ⟨x, l, c, zs, hcs, _, hl, hm, hz, hx, hcell, hwz⟩
  · simp [Value.cells] at hcs
    obtain ⟨rfl, rfl, rfl⟩ := hcs
    simp only [Prod.mk.injEq] at hx
    exact ⟨[], rfl, SegK.nil hM _ _, Nat.le_refl _, fun _ => rfl, Or.inl ⟨hx.1, rfl⟩⟩
  · simp [Value.cells] at hcs
    obtain ⟨rfl, rfl, rfl⟩ := hcs
    simp only [Prod.mk.injEq] at hx
    simp only [if_true] at hz
    refine ⟨zs.take len, by simp; omega, ⟨fun i hi => ?_, hM, getD_bd hM ?_⟩, hl, (by intro h; cases h), Or.inr ⟨_, _, hx.1, by simp [ChangeShapes.lits]; omega⟩⟩
    · simp at hi
      have hi2 : i < len := by omega
      have h1 := hcell i (by omega)
      obtain ⟨b, off, spot⟩ := x
      have hs : spot = none := by
        have := hcell 0 (by omega)
        simpa [Addr.add] using World.cell?_spot this
      subst hs
      refine ⟨b, off, rfl, ?_⟩
      have hadd : (⟨b, off, none⟩ : Addr).add i = ⟨b, off + i, none⟩ := by unfold Addr.add; split <;> simp_all
      rw [hadd] at h1
      rw [h1]
      simp [List.getD, hi2]
    · intro z hz1
      exact hwf z (hwz z (List.mem_of_mem_take hz1))
end Go.Proofs.YthcmebmohhajaaaDoor

namespace Go.Proofs.YthcmebmohhajaaaDoor
open Go.ChangeShapes Go.WideShapes Go.ChangeAt Go.RowKit
set_option linter.unusedVariables false

theorem gSns : Tryd.prog.globalNamed "sapper/head.senses" = some 0 := by kernel_rfl
theorem gSnsType : (Tryd.prog.globals[0]?).map (·.type) = some 93 := by kernel_rfl
theorem gOrd : Tryd.prog.globalNamed "sapper/head.order" = some 1 := by kernel_rfl
theorem gOrdType : (Tryd.prog.globals[1]?).map (·.type) = some 95 := by kernel_rfl
theorem cellsSns : Tryd.prog.cellsOf 93 = 57 := by kernel_rfl
theorem cellsSense : Tryd.prog.cellsOf 92 = 3 := by kernel_rfl
theorem cellsOrd : Tryd.prog.cellsOf 95 = 19 := by kernel_rfl
theorem cellsInt8 : Tryd.prog.cellsOf 3 = 1 := by kernel_rfl

/-- A table of rows of three numbers as a row of the statements lists it. -/
def rowsData {H : Type} (l : List (Int × Int × Int)) : DataW H := .agg (l.map fun r => .agg [.lit (.int .i64 r.1), .lit (.int .i64 r.2.1), .lit (.int .i64 r.2.2)])
def flat3 (l : List (Int × Int × Int)) : List Value := l.flatMap fun r => [.int .i64 r.1, .int .i64 r.2.1, .int .i64 r.2.2]
theorem flat3_get : ∀ (l : List (Int × Int × Int)) (k j : Nat) (x : Int × Int × Int), l[k]? = some x → j < 3 → (flat3 l)[k * 3 + j]? = ([.int .i64 x.1, .int .i64 x.2.1, .int .i64 x.2.2] : List Value)[j]?
  | [], k, j, x, h, _ => by simp at h
  | t :: r, 0, j, x, h, hj => by
    simp at h
    subst h
    have e : flat3 (t :: r) = [.int .i64 t.1, .int .i64 t.2.1, .int .i64 t.2.2] ++ flat3 r := rfl
    rw [e, Nat.zero_mul, Nat.zero_add, List.getElem?_append_left (by simpa using hj)]
  | t :: r, k + 1, j, x, h, hj => by
    have := flat3_get r k j x (by simpa using h) hj
    have e : flat3 (t :: r) = [.int .i64 t.1, .int .i64 t.2.1, .int .i64 t.2.2] ++ flat3 r := rfl
    rw [e, List.getElem?_append_right (by simp; omega), show (k + 1) * 3 + j - ([.int .i64 t.1, .int .i64 t.2.1, .int .i64 t.2.2] : List Value).length = k * 3 + j by simp; omega]
    exact this
theorem flat3_len : ∀ l : List (Int × Int × Int), (flat3 l).length = l.length * 3
  | [] => rfl
  | t :: r => by
    have e : flat3 (t :: r) = [.int .i64 t.1, .int .i64 t.2.1, .int .i64 t.2.2] ++ flat3 r := rfl
    rw [e, List.length_append, flat3_len r, List.length_cons]
    simp
    omega
/-- Three numbers that read as a row of the table. -/
theorem cells_of_three {H : Type} {enc : TypeId × Value → H} {P : Program} {w : World} {base : Nat} {sp : Nat → Bool} {held : Bool} {fuel : Nat} {t e : TypeId} {fs : Array Field} {cs : List Value} {a b c : Int} {p : List MemPlace}
    (ht : P.underlying t = some (.struct fs)) (hf : fs.toList.map (fun f => (f.type, f.offset)) = [(e, 0), (e, 1), (e, 2)]) (he : P.underlying e = some (.int .i64)) (hce : P.cellsOf e = 1) (hct : P.cellsOf t = 3)
    (h : DataW.trod enc P w base sp held fuel t cs = some (.agg [.lit (.int .i64 a), .lit (.int .i64 b), .lit (.int .i64 c)], p)) : cs = [.int .i64 a, .int .i64 b, .int .i64 c] := by
  cases fuel with
  | zero => simp [DataW.trod] at h
  | succ fuel =>
    simp only [DataW.trod, ht, hct] at h
    split at h
    · rename_i hl
      obtain ⟨xs, hm, hx⟩ := Option.map_eq_some_iff.1 h
      have hxs : xs.map (·.1) = [.lit (.int .i64 a), .lit (.int .i64 b), .lit (.int .i64 c)] := by
        have := congrArg Prod.fst hx
        simpa using this
      have key : ∀ (i : Nat) (z : Int), i < 3 → ([a, b, c] : List Int)[i]? = some z → cs[i]? = some (.int .i64 z) := by
        intro i z hi hz
        have hfi : ∃ f, fs.toList[i]? = some f ∧ f.type = e ∧ f.offset = i := by
          have h1 := congrArg (·[i]?) hf
          simp only [List.getElem?_map] at h1
          rcases i with _ | _ | _ | i
          · obtain ⟨f, e1, e2⟩ := Option.map_eq_some_iff.1 h1
            simp only [Prod.mk.injEq] at e2
            exact ⟨f, e1, e2.1, e2.2⟩
          · obtain ⟨f, e1, e2⟩ := Option.map_eq_some_iff.1 h1
            simp only [Prod.mk.injEq] at e2
            exact ⟨f, e1, e2.1, e2.2⟩
          · obtain ⟨f, e1, e2⟩ := Option.map_eq_some_iff.1 h1
            simp only [Prod.mk.injEq] at e2
            exact ⟨f, e1, e2.1, e2.2⟩
          · omega
        obtain ⟨f, hf1, hf2, hf3⟩ := hfi
        obtain ⟨y, hy, hfy⟩ := Lib.mapM_at hm i f hf1
        rw [hf2, hf3, hce] at hfy
        obtain ⟨z', hc, hyz, _⟩ := DataW.trod_int he hfy
        have h1 : cs[i]? = some (.int .i64 z') := by
          have := congrArg (·[0]?) hc
          simpa [List.getElem?_take, List.getElem?_drop] using this
        have h2 : (xs.map (·.1))[i]? = some (DataW.lit (.int .i64 z') : DataW H) := by simp [hy, hyz]
        rw [hxs] at h2
        rw [h1]
        rcases i with _ | _ | _ | i
        · simp at h2 hz; rw [← h2, hz]
        · simp at h2 hz; rw [← h2, hz]
        · simp at h2 hz; rw [← h2, hz]
        · omega
      apply List.ext_getElem?
      intro i
      rcases i with _ | _ | _ | i
      · rw [key 0 a (by omega) rfl]; rfl
      · rw [key 1 b (by omega) rfl]; rfl
      · rw [key 2 c (by omega) rfl]; rfl
      · rw [List.getElem?_eq_none (by omega), List.getElem?_eq_none (by simp)]
    · cases h
theorem cells_of_rows {H : Type} {enc : TypeId × Value → H} {P : Program} {w : World} {base : Nat} {sp : Nat → Bool} {held : Bool} {fuel : Nat} {t u e : TypeId} {n : Nat} {fs : Array Field} {cs : List Value} {l : List (Int × Int × Int)} {p : List MemPlace}
    (ht : P.underlying t = some (.array n u)) (hu : P.underlying u = some (.struct fs)) (hf : fs.toList.map (fun f => (f.type, f.offset)) = [(e, 0), (e, 1), (e, 2)]) (he : P.underlying e = some (.int .i64)) (hce : P.cellsOf e = 1) (hcu : P.cellsOf u = 3) (hct : P.cellsOf t = n * 3)
    (h : DataW.trod enc P w base sp held fuel t cs = some (rowsData l, p)) : cs = flat3 l := by
  cases fuel with
  | zero => simp [DataW.trod] at h
  | succ fuel =>
    simp only [DataW.trod, ht, hct, hcu] at h
    split at h
    · rename_i hl
      obtain ⟨xs, hm, hx⟩ := Option.map_eq_some_iff.1 h
      have hxs : xs.map (·.1) = l.map fun r => (.agg [.lit (.int .i64 r.1), .lit (.int .i64 r.2.1), .lit (.int .i64 r.2.2)] : DataW H) := by
        have := congrArg Prod.fst hx
        simpa [rowsData] using this
      have hxl : xs.length = n := by simpa using Lib.mapM_length hm
      have hzl : l.length = n := by
        have := congrArg List.length hxs
        simp at this
        omega
      apply List.ext_getElem?
      intro q
      by_cases hq : q < n * 3
      · obtain ⟨i, j, hj, rfl⟩ : ∃ i j, j < 3 ∧ q = i * 3 + j := ⟨q / 3, q % 3, by omega, by omega⟩
        have hi : i < n := by omega
        obtain ⟨y, hy, hfy⟩ := Lib.mapM_at hm i i (by simp [hi])
        obtain ⟨r, hr⟩ : ∃ r, l[i]? = some r := ⟨l[i]'(by omega), by simp [show i < l.length by omega]⟩
        have hy1 : y.1 = .agg [.lit (.int .i64 r.1), .lit (.int .i64 r.2.1), .lit (.int .i64 r.2.2)] := by
          have h2 : (xs.map (·.1))[i]? = some y.1 := by simp [hy]
          rw [hxs] at h2
          simp [hr] at h2
          exact h2.symm
        obtain ⟨y1, y2⟩ := y
        simp only at hy1
        subst hy1
        have hc := cells_of_three hu hf he hce hcu hfy
        rw [flat3_get l i j r hr hj, ← hc, List.getElem?_take, if_pos hj, List.getElem?_drop]
      · rw [List.getElem?_eq_none (by omega), List.getElem?_eq_none (by rw [flat3_len]; omega)]
    · cases h
def snsR : List (Int × Int × Int) := [(0, 1, 0), (1, 1, 0), (2, 1, 0), (3, 1, 0), (4, 1, 0), (5, 1, 0), (6, 1, 0), (7, 1, 0), (8, 1, 0), (9, 1, 0), (10, 1, 0), (11, 1, 0), (12, 1, 0), (13, 1, 0), (14, 1, 0), (15, 1, 0), (-1, 3, 2), (0, 3, 3), (0, 11, 7)]
theorem flat3_sns : flat3 snsR = snsL.map (Value.int .i64) := rfl
theorem sense_struct : ∃ fs, Tryd.prog.underlying 92 = some (.struct fs) ∧ fs.toList.map (fun f => (f.type, f.offset)) = [(3, 0), (3, 1), (3, 2)] := ⟨_, Tryd.underlying92, rfl⟩
theorem tabS_of {W : World} {rest : List (String × DataW Unit)} (h : laidMet Tryd.prog (("sapper/head.senses", Rows.laid_sapper_head_senses) :: rest) W) : TabS W := by
  obtain ⟨ps, ⟨g', t', cs, fuel, p, q, hg', ht', hvar, hd, _, _⟩, _⟩ := h
  obtain rfl := Option.some.inj (gSns.symm.trans hg')
  obtain rfl := Option.some.inj (gSnsType.symm.trans ht')
  obtain ⟨fs, hs, hf⟩ := sense_struct
  have hd' : DataW.trod _ Tryd.prog W _ _ _ fuel 93 cs.toList = some (rowsData snsR, p) := hd
  have hc := cells_of_rows (n := 19) Tryd.underlying93 hs hf Tryd.underlying3 cellsInt8 cellsSense cellsSns hd'
  rw [flat3_sns] at hc
  have hcs : cs = (snsL.map (Value.int .i64)).toArray := by rw [← hc]
  rw [hcs] at hvar
  refine ⟨fun i hi => ⟨0, 0, rfl, ?_⟩, getD_bdz (by decide)⟩
  have := World.var?_cell gSns hvar i
  rw [Nat.zero_add]
  simpa [List.getD, hi] using this
theorem tabO_of {W : World} {rest : List (String × DataW Unit)} (h : laidMet Tryd.prog (("sapper/head.order", Rows.laid_sapper_head_order) :: rest) W) : TabO W := by
  have ht : Lib.TabIs Tryd.prog W "sapper/head.order" .i64 ordL :=
    Lib.tabIs_of_head (rest := rest) gOrd gOrdType Tryd.underlying95 Tryd.underlying3 cellsInt8 cellsOrd h
  refine ⟨fun i hi => ⟨1, 0, rfl, ?_⟩, getD_bdz (by decide)⟩
  rw [Nat.zero_add]
  exact ht.cell gOrd i hi
theorem tabB_of {W : World} (h : laidMetH Tryd.prog [("sapper/head.senses", Rows.laid_sapper_head_senses), ("sapper/head.order", Rows.laid_sapper_head_order)] W) : TabS W ∧ TabO W := by
  have h' : laidMet Tryd.prog [("sapper/head.senses", Rows.laid_sapper_head_senses), ("sapper/head.order", Rows.laid_sapper_head_order)] W := h
  have h2 : laidMet Tryd.prog [("sapper/head.order", Rows.laid_sapper_head_order)] W := laidMet.filter (fun x => x.1 == "sapper/head.order") h'
  exact ⟨tabS_of h', tabO_of h2⟩
end Go.Proofs.YthcmebmohhajaaaDoor
