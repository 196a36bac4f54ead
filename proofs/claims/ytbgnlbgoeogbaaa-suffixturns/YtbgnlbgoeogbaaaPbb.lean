import Derived.Test.YtbgnlbgoeogbaaaPay
import Derived.Test.YtbgnlbgoeogbaaaPba
import Derived.Test.YtbgnlbgoeogbaaaPat
import Derived.Test.YtbgnlbgoeogbaaaPas
import Derived.Test.YtbgnlbgoeogbaaaPaa
import Derived.WalkKit
import Derived.ProofKit
import Derived.OpenShut
import Derived.SizedLaws
namespace Go.Proofs.Ytbgnlbgoeogbaaa
open Go.RowKit
set_option linter.unusedVariables false

/-! SuffixTurns. -/
set_option maxRecDepth 100000 in
theorem pturnn13 (a : Option Addr) (n cap : Nat) (w : World) (hb : 16777216 < n) (hb2 : n ≤ 9223372036854775807) :
    Calls Try.prog 24 #[.slice a n cap] w fun en w' => en = .returned (.tuple #[.slice none 0 0, .int .i64 0, .int .i64 130]) ∧ w' = w := by
  have HSO := psortn13 a n cap w hb hb2
  go_enter Try.func24, Try.ntmps24
  go_wp2_with (first
    | (go_at_call 43; refine HSO.mono ?_; rintro e1 w1 ⟨rfl, hw1⟩; subst hw1))
  go_ret3
  exact ⟨rfl, rfl⟩
set_option maxRecDepth 100000 in
theorem rturnn13 (a : Option Addr) (n cap : Nat) (w : World) (hb : 16777216 < n) (hb2 : n ≤ 9223372036854775807) :
    Calls Try.prog 25 #[.slice a n cap] w fun en w' => en = .returned (.tuple #[.slice none 0 0, .int .i64 0, .int .i64 130]) ∧ w' = w := by
  have h24 : (16777216 : Int) < (n : Int) := by omega
  go_enter Try.func25, Try.ntmps25
  go_wp2_with fail
  go_ret3
  exact ⟨rfl, rfl⟩
set_option maxRecDepth 100000 in
theorem runtn13 (a : Option Addr) (n cap : Nat) (e : Int) (w : World) (hb : 16777216 < n) (hb2 : n ≤ 9223372036854775807) :
    Calls Try.prog 30 #[.slice a n cap, .int .i64 e] w fun en w' => en = .returned (.tuple #[.slice none 0 0, .int .i64 130]) ∧ w' = w := by
  have h24 : (16777216 : Int) < (n : Int) := by omega
  go_enter Try.func30, Try.ntmps30
  go_wp2_with fail
  refine bodyPost_ret (results_tmp2 rfl _ _ _) rfl ?_
  exact ⟨rfl, rfl⟩
set_option maxRecDepth 100000 in
theorem runte13 (a : Option Addr) (n cap : Nat) (e : Int) (w : World) (hb : n ≤ 16777216) (he : e < 0 ∨ (0 ≤ e ∧ (n : Int) < e)) :
    Calls Try.prog 30 #[.slice a n cap, .int .i64 e] w fun en w' => en = .returned (.tuple #[.slice none 0 0, .int .i64 132]) ∧ w' = w := by
  have h24 : ¬ (16777216 : Int) < (n : Int) := by omega
  rcases he with h1 | ⟨h1, h2⟩
  · go_enter Try.func30, Try.ntmps30
    go_wp2_with fail
    refine bodyPost_ret (results_tmp2 rfl _ _ _) rfl ?_
    exact ⟨rfl, rfl⟩
  · have h3 : ¬ e < 0 := by omega
    go_enter Try.func30, Try.ntmps30
    go_wp2_with fail
    refine bodyPost_ret (results_tmp2 rfl _ _ _) rfl ?_
    exact ⟨rfl, rfl⟩
/-- What Turn answers of bytes. -/
def TV13 (z : List Int) (n : Nat) (x : List Int) (te er : Int) : Prop :=
  (n ≤ 16777216 ∧ ∃ A, Ar12 n (S12 z) A ∧ x = tn13 z (n :: A) ∧ te = ((te13 n A : Nat) : Int) ∧ er = 0) ∨ (16777216 < n ∧ x = [] ∧ te = 0 ∧ er = 130)
theorem TV13.unique {z : List Int} {n : Nat} {x x' : List Int} {te te' er er' : Int} (h : TV13 z n x te er) (h' : TV13 z n x' te' er') : x = x' ∧ te = te' ∧ er = er' := by
  rcases h with ⟨h1, A, h2, rfl, rfl, rfl⟩ | ⟨h1, rfl, rfl, rfl⟩
  · rcases h' with ⟨h1', A', h2', rfl, rfl, rfl⟩ | ⟨h1', rfl, rfl, rfl⟩
    · obtain rfl := h2.unique h2'
      exact ⟨rfl, rfl, rfl⟩
    · omega
  · rcases h' with ⟨h1', A', h2', rfl, rfl, rfl⟩ | ⟨h1', rfl, rfl, rfl⟩
    · omega
    · exact ⟨rfl, rfl, rfl⟩
theorem tn13_all {z : List Int} {n : Nat} {S : Nat → Int} {A : List Nat} (h : Ar12 n S A) : (tn13 z (n :: A)).length = n := by
  have h1 := tn13_len (z := z) h (n + 1) (Nat.le_refl _)
  rw [List.take_of_length_le (by simp [h.len])] at h1
  rw [h1]
  exact la13_all (te13_le h)
theorem TV13.len {z : List Int} {n : Nat} {x : List Int} {te er : Int} (h : TV13 z n x te er) : x.length ≤ n := by
  rcases h with ⟨h1, A, h2, rfl, rfl, rfl⟩ | ⟨h1, rfl, rfl, rfl⟩
  · exact Nat.le_of_eq (tn13_all h2)
  · exact Nat.zero_le _
theorem TV13.bd {z : List Int} {n : Nat} {x : List Int} {te er : Int} (h : TV13 z n x te er) (hz : ∀ y ∈ z, 0 ≤ y ∧ y ≤ 255) : ∀ y ∈ x, 0 ≤ y ∧ y ≤ 255 := by
  rcases h with ⟨h1, A, h2, rfl, rfl, rfl⟩ | ⟨h1, rfl, rfl, rfl⟩
  · exact tn13_bd hz _
  · intro y hy; simp at hy
def TuQ13 (w : World) (x : List Int) (te er : Int) (e : Ending) (w' : World) : Prop := ∃ ra rc, e = .returned (.tuple #[.slice ra x.length rc, .int .i64 te, .int .i64 er]) ∧ w'.ownsRow w.heap.size 5 1 (.slice ra x.length rc) x.length (x.map (Value.int .u8)) ∧ Below w.heap.size w w'
def TuP13 (w : World) (z : List Int) (n : Nat) (e : Ending) (w' : World) : Prop := ∃ x te er, TV13 z n x te er ∧ TuQ13 w x te er e w'
theorem pturnU13 (a : Option Addr) (z : List Int) (n cap : Nat) (w : World) (hs : Seg w a z) (hn : Hid (z.length = n)) (hb : n ≤ 140737488351232) :
    Calls Try.prog 24 #[.slice a n cap] w (TuP13 w z n) := by
  by_cases h : n ≤ 16777216
  · refine (pturn13 a z n cap w hs hn h).mono ?_
    rintro e w' ⟨A, hA, ra, rc, rfl, o, B⟩
    refine ⟨tn13 z (n :: A), _, 0, Or.inl ⟨h, A, hA, rfl, rfl, rfl⟩, ra, rc, ?_, ?_, B⟩
    · rw [tn13_all hA]
    · rw [tn13_all hA]; exact o
  · refine (pturnn13 a n cap w (by omega) (by omega)).mono ?_
    rintro e w' ⟨rfl, rfl⟩
    exact ⟨[], 0, 130, Or.inr ⟨by omega, rfl, rfl, rfl⟩, none, 0, rfl, World.ownsRow_nil _ _ _ _, Below.refl _ _⟩
theorem rturnU13 (a : Option Addr) (z : List Int) (n cap : Nat) (x : List Int) (te er : Int) (w : World) (hs : Seg w a z) (hc : n ≤ cap) (hn : Hid (z.length = n)) (hb : n ≤ 140737488351232) (hT : TV13 z n x te er) :
    Calls Try.prog 25 #[.slice a n cap] w (TuQ13 w x te er) := by
  rcases hT with ⟨h, A, hA, rfl, rfl, rfl⟩ | ⟨h, rfl, rfl, rfl⟩
  · refine (rturn13 a z n cap A w hs hc hn hA h).mono ?_
    rintro e w' ⟨ra, rc, rfl, o, B⟩
    refine ⟨ra, rc, ?_, ?_, B⟩
    · rw [tn13_all hA]
    · rw [tn13_all hA]; exact o
  · refine (rturnn13 a n cap w h (by omega)).mono ?_
    rintro e w' ⟨rfl, rfl⟩
    exact ⟨none, 0, rfl, World.ownsRow_nil _ _ _ _, Below.refl _ _⟩
def UuQ13 (w : World) (x : List Int) (er : Int) (e : Ending) (w' : World) : Prop := ∃ ra rc, e = .returned (.tuple #[.slice ra x.length rc, .int .i64 er]) ∧ w'.ownsRow w.heap.size 5 1 (.slice ra x.length rc) x.length (x.map (Value.int .u8)) ∧ Below w.heap.size w w'
theorem Rd13.unique {B : Nat → Int} {n e : Nat} {x y : List Int} (h : Rd13 B n e x) (k : Rd13 B n e y) : x = y := by
  refine List.ext_getElem (h.len.trans k.len.symm) fun i h1 h2 => ?_
  have hi : i < n := by rw [← h.len]; exact h1
  have e1 := h.at_ (n - 1 - i) (by omega)
  have e2 := k.at_ (n - 1 - i) (by omega)
  rw [show n - 1 - (n - 1 - i) = i by omega] at e1 e2
  have g1 : x.getD i 0 = x[i] := by simp [List.getD, h1]
  have g2 : y.getD i 0 = y[i] := by simp [List.getD, h2]
  rw [g1] at e1
  rw [g2] at e2
  rw [e1, e2]
noncomputable def ux13 (B : Nat → Int) (n e : Nat) : List Int := (List.range n).map fun i => rc13 B n e (n - 1 - i)
theorem ux13_rd (B : Nat → Int) (n e : Nat) : Rd13 B n e (ux13 B n e) := by
  refine ⟨by simp [ux13], fun k hk => ?_⟩
  have : n - 1 - k < n := by omega
  simp [ux13, List.getD, this]
  rw [show n - 1 - (n - 1 - k) = k by omega]
theorem sbd13 {b : List Int} (hv : ∀ y ∈ b, 0 ≤ y ∧ y ≤ 255) (i : Nat) : 0 ≤ S12 b i ∧ S12 b i ≤ 255 := by
  unfold S12
  by_cases c : i < b.length
  · have g1 : b.getD i 0 = b[i] := by simp [List.getD, c]
    rw [g1]; exact hv _ (List.getElem_mem c)
  · have g1 : b.getD i 0 = 0 := by simp [List.getD, Nat.le_of_not_lt c]
    rw [g1]; omega
/-- Both sides' Unturn answer alike. -/
theorem unt13_all (b : List Int) (n : Nat) (hn : b.length = n) (hv : ∀ y ∈ b, 0 ≤ y ∧ y ≤ 255) (t : Int) (hb : n ≤ 140737488351232) : ∃ (x : List Int) (er : Int), x.length ≤ n ∧ (∀ y ∈ x, 0 ≤ y ∧ y ≤ 255) ∧ (∀ W a cap, Seg W a b → Calls Try.prog 29 #[.slice a n cap, .int .i64 t] W (UuQ13 W x er)) ∧ (∀ W a cap, Seg W a b → Calls Try.prog 30 #[.slice a n cap, .int .i64 t] W (UuQ13 W x er)) := by
  by_cases h : n ≤ 16777216
  · by_cases ht : 0 ≤ t ∧ t ≤ (n : Int)
    · obtain ⟨e, rfl⟩ := Int.eq_ofNat_of_zero_le ht.1
      have he : e ≤ n := by omega
      by_cases hW : Wk13 (S12 b) n e
      · have key : ∀ W en w', UnQ13 W b n e en w' → UuQ13 W (ux13 (S12 b) n e) 0 en w' := by
          rintro W en w' (⟨hN, _⟩ | ⟨_, ra, rc, x, rfl, hx, _, o, B⟩)
          · exact absurd hW hN
          · obtain rfl := hx.unique (ux13_rd _ _ _)
            refine ⟨ra, rc, ?_, ?_, B⟩
            · rw [hx.len]
            · rw [hx.len]; exact o
        refine ⟨ux13 (S12 b) n e, 0, Nat.le_of_eq (ux13_rd _ _ _).len, ?_, fun W a cap hs => (punt13 a b n cap e W hs hn h he).mono (key W), fun W a cap hs => (runt13 a b n cap e W hs hn h he).mono (key W)⟩
        intro y hy
        unfold ux13 at hy
        rw [List.mem_map] at hy
        obtain ⟨i, hi, rfl⟩ := hy
        rw [List.mem_range] at hi
        exact sbd13 hv _
      · have key : ∀ W en w', UnQ13 W b n e en w' → UuQ13 W [] 131 en w' := by
          rintro W en w' (⟨_, rfl, B⟩ | ⟨h1, _⟩)
          · exact ⟨none, 0, rfl, World.ownsRow_nil _ _ _ _, B⟩
          · exact absurd h1 hW
        exact ⟨[], 131, Nat.zero_le _, fun y hy => by simp at hy, fun W a cap hs => (punt13 a b n cap e W hs hn h he).mono (key W), fun W a cap hs => (runt13 a b n cap e W hs hn h he).mono (key W)⟩
    · have he : t < 0 ∨ (0 ≤ t ∧ (n : Int) < t) := by omega
      have key : ∀ W en w', (en = .returned (.tuple #[.slice none 0 0, .int .i64 132]) ∧ w' = W) → UuQ13 W [] 132 en w' := by
        rintro W en w' ⟨rfl, rfl⟩
        exact ⟨none, 0, rfl, World.ownsRow_nil _ _ _ _, Below.refl _ _⟩
      exact ⟨[], 132, Nat.zero_le _, fun y hy => by simp at hy, fun W a cap hs => (punte13 a n cap t W h he).mono (key W), fun W a cap hs => (runte13 a n cap t W h he).mono (key W)⟩
  · have key : ∀ W en w', (en = .returned (.tuple #[.slice none 0 0, .int .i64 130]) ∧ w' = W) → UuQ13 W [] 130 en w' := by
      rintro W en w' ⟨rfl, rfl⟩
      exact ⟨none, 0, rfl, World.ownsRow_nil _ _ _ _, Below.refl _ _⟩
    exact ⟨[], 130, Nat.zero_le _, fun y hy => by simp at hy, fun W a cap hs => (puntn13 a n cap t W (by omega) (by omega)).mono (key W), fun W a cap hs => (runtn13 a n cap t W (by omega) (by omega)).mono (key W)⟩
end Go.Proofs.Ytbgnlbgoeogbaaa

namespace Go.Proofs.Ytbgnlbgoeogbaaa
open Go.RowKit
set_option linter.unusedVariables false

/-! SuffixTurns: the walk. -/
theorem TV13.len24 {z : List Int} {n : Nat} {x : List Int} {te er : Int} (h : TV13 z n x te er) : x.length ≤ 16777216 := by
  rcases h with ⟨h1, A, h2, rfl, rfl, rfl⟩ | ⟨h1, rfl, rfl, rfl⟩
  · rw [tn13_all h2]; exact h1
  · exact Nat.zero_le _
set_option maxRecDepth 100000 in
set_option maxHeartbeats 8000000 in
theorem suffixTurns_walk (w : World) (a : Option Addr) (z : List Int) (ca : Nat) (hs : Seg w a z) (hc : z.length ≤ ca) (hnil : a = none → ca = 0) (hl : z.length ≤ 140737488351232) (pa : Option Addr) (p : List Int) (pc : Nat) (hp : Seg w pa p) (hpc : p.length ≤ pc) (hpn : pa = none → pc = 0) (hpl : p.length ≤ 140737488351232) (t : Int) (ht0 : -9223372036854775808 ≤ t) (ht1 : t ≤ 9223372036854775807) :
    Calls Try.prog 7 #[.slice a z.length ca, .slice pa p.length pc, .int .i64 t] w fun e w' => e = .returned (.bool true) ∧ Below w.heap.size w w' := by
  have HSD : Hid (∀ W, Below w.heap.size w W → Seg W a z) := fun W b => hs.old b
  have HSP : Hid (∀ W, Below w.heap.size w W → Seg W pa p) := fun W b => hp.old b
  have HLD := lend_any a z ca w hs hnil hl
  have HLP : Hid (∀ W, Below w.heap.size w W → Calls Try.prog 23 #[.slice pa p.length pc] W fun e w' => ∃ g cap', e = .returned (.tuple #[.slice (some ⟨g, 0, none⟩) (p.length + 5) cap', .slice (some ⟨g, 0, none⟩) p.length cap']) ∧ w'.ownsRow W.heap.size 5 1 (.slice (some ⟨g, 0, none⟩) (p.length + 5) cap') (p.length + 5) ((lentL p).map (Value.int .u8)) ∧ Below W.heap.size W w') := fun W hb => lend_any pa p pc W (hp.old hb) hpn hpl
  have HKP : Hid (∀ W g cap', Below w.heap.size w W → Seg W (some ⟨g, 0, none⟩) (lentL z) → Calls Try.prog 27 #[.slice (some ⟨g, 0, none⟩) (z.length + 5) cap', .slice a z.length ca] W fun e w' => e = .returned (.bool true) ∧ Below W.heap.size W w') := fun W g cap' hb sg => by
    have h5 := kept_any a (some ⟨g, 0, none⟩) (lentL z) z cap' ca W sg (hs.old hb) hnil hl
    have e5 : (lentL z).length = z.length + 5 := by simp [lentL]
    rw [e5] at h5
    refine h5.mono ?_
    rintro e w' ⟨rfl, hB⟩
    exact ⟨by simp, hB⟩
  have HKQ : Hid (∀ W g cap', Below w.heap.size w W → Seg W (some ⟨g, 0, none⟩) (lentL p) → Calls Try.prog 27 #[.slice (some ⟨g, 0, none⟩) (p.length + 5) cap', .slice pa p.length pc] W fun e w' => e = .returned (.bool true) ∧ Below W.heap.size W w') := fun W g cap' hb sg => by
    have h5 := kept_any pa (some ⟨g, 0, none⟩) (lentL p) p cap' pc W sg (hp.old hb) hpn hpl
    have e5 : (lentL p).length = p.length + 5 := by simp [lentL]
    rw [e5] at h5
    refine h5.mono ?_
    rintro e w' ⟨rfl, hB⟩
    exact ⟨by simp, hB⟩
  have HV : Hid (∀ y ∈ z, 0 ≤ y ∧ y ≤ 255) := seg_bd13 hs
  have HVP : Hid (∀ y ∈ p, 0 ≤ y ∧ y ≤ 255) := seg_bd13 hp
  have HSM : Hid (∀ W xa xc ya yc (u : List Int), Seg W xa u → Seg W ya u → Calls Try.prog 26 #[.slice xa u.length xc, .slice ya u.length yc] W fun e w' => e = .returned (.bool true) ∧ w' = W) := fun W xa xc ya yc u s1 s2 => by
    refine (bsame_any xa ya u u xc yc W s1 s2).mono ?_
    rintro e w' ⟨rfl, hB⟩
    exact ⟨by simp, hB⟩
  clear hs hp
  generalize hn0 : z.length = n at *
  have hn : Hid (z.length = n) := hn0
  generalize hm0 : p.length = m at *
  have hm : Hid (p.length = m) := hm0
  clear hn0 hm0
  obtain ⟨ux, uer, hul, hub, HU1, HU2⟩ := unt13_all p m hm.out HVP.out t hpl
  have HUL : Hid (∀ y ∈ ux, 0 ≤ y ∧ y ≤ 255) := hub
  have HUP : Hid (∀ W a cap, Seg W a p → Calls Try.prog 29 #[.slice a m cap, .int .i64 t] W (UuQ13 W ux uer)) := HU1
  have HUR : Hid (∀ W a cap, Seg W a p → Calls Try.prog 30 #[.slice a m cap, .int .i64 t] W (UuQ13 W ux uer)) := HU2
  clear hub HU1 HU2 hul
  go_enter Try.func7, Try.ntmps7
  go_wp2_with (first
    | (go_at_call 23; refine HLD.mono ?_; rintro e1 w1 ⟨gL, cL, rfl, o1, B1⟩; clear HLD)
    | (go_at_call 24; fail))
  have sL := own_seg13 o1 (lent_bd HV.out)
  have sP : Seg w1 (some ⟨gL, 0, none⟩) z := by have h5 := sL; unfold lentL at h5; have := h5.take z.length; simpa using this
  refine (pturnU13 (some ⟨gL, 0, none⟩) z n cL w1 sP hn hl).mono ?_
  rintro e2 w2 ⟨x, te, er, hTV, ra2, rc2, rfl, o2, B2⟩
  have C2 := pturnU13 (some ⟨gL, 0, none⟩) z n cL w2 (sP.old B2) hn hl
  go_wp2_with (first
    | (go_at_call 24; fail))
  refine C2.mono ?_
  rintro e3 w3 ⟨x', te', er', hTV', ra3, rc3, rfl, o3, B3⟩
  obtain ⟨rfl, rfl, rfl⟩ := hTV.unique hTV'
  have D2 := B1.trans (B2.mono B1.size)
  have D3 := D2.trans (B3.mono D2.size)
  have C3 := rturnU13 a z n ca x te er w3 (HSD.out w3 D3) hc hn hl hTV
  have HXB : Hid (∀ y ∈ x, 0 ≤ y ∧ y ≤ 255) := hTV.bd HV.out
  have hxl := hTV.len24
  clear hTV hTV' C2
  go_wp2_with (first
    | (go_at_call 25; fail))
  refine C3.mono ?_
  rintro e4 w4 ⟨ra4, rc4, rfl, o4, B4⟩
  clear C3
  have D4 := D3.trans (B4.mono D3.size)
  have s2 := own_seg13 (own_below (own_below o2 B3) B4) HXB.out
  have s3 := own_seg13 (own_below o3 B4) HXB.out
  have s4 := own_seg13 o4 HXB.out
  have sL4 := ((sL.old B2).old B3).old B4
  have M1 := HSM.out w4 ra2 rc2 ra4 rc4 x s2 s4
  have M2 := HSM.out w4 ra3 rc3 ra4 rc4 x s3 s4
  have K4 := HKP.out w4 gL cL D4 sL4
  have r2 : Row 5 w4 w1.heap.size (.slice ra2 x.length rc2) x := own_below (own_below o2 B3) B4
  have r3 : Row 5 w4 w2.heap.size (.slice ra3 x.length rc3) x := own_below o3 B4
  have hap : Ap (Value.slice ra2 x.length rc2).ownBlock (Value.slice ra3 x.length rc3).ownBlock := ap_of (eT := 5) o2 (Nat.le_refl _) o3 (Nat.le_refl _)
  have z1 := B1.size
  have z2 := B2.size
  have z3 := B3.size
  have z4 := B4.size
  have HOW : Hid (∀ W, Below w4.heap.size w4 W → Calls Try.prog 28 #[.slice (some ⟨W.heap.size, 0, none⟩) 2 2] (W.alloc (.cells #[.slice ra2 x.length rc2, .slice ra3 x.length rc3] 41)) fun e w' => e = .returned (.bool true) ∧ Below w.heap.size W w') := fun W hb =>
    own_two w.heap.size _ _ x x W (row_base (row_below r2 hb) (by omega)) (row_base (row_below r3 hb) (by omega)) hap (by omega) (by omega) (by have := hb.size; omega)
  clear s2 s3 s4 sL4 sL sP o1 o2 o3 o4 r2 r3 hap z1 z2 z3 z4 B1 B2 B3 B4 D2 D3 HKP
  generalize x.length = xl at *
  go_wp2_with (first
    | (go_at_call 26; refine M1.mono ?_; rintro e5 w5 ⟨rfl, hw5⟩; subst hw5; clear M1)
    | (go_at_call 26; refine M2.mono ?_; rintro e6 w6 ⟨rfl, hw6⟩; subst hw6; clear M2)
    | (go_at_call 27; refine K4.mono ?_; rintro e7 w7 ⟨rfl, B7⟩; clear K4)
    | (go_at_call 28; refine (HOW.out w7 B7).mono ?_; rintro e8 w8 ⟨rfl, B8⟩; clear HOW)
    | (go_at_call 23; fail))
  have D8 := (D4.trans (B7.mono D4.size)).trans B8
  refine (HLP.out w8 D8).mono ?_
  rintro e9 w9 ⟨gM, cM, rfl, o9, B9⟩
  have sM := own_seg13 o9 (lent_bd HVP.out)
  have sQ : Seg w9 (some ⟨gM, 0, none⟩) p := by have h5 := sM; unfold lentL at h5; have := h5.take p.length; simpa using this
  have C9 := HUP.out w9 (some ⟨gM, 0, none⟩) cM sQ
  have D9 := D8.trans (B9.mono D8.size)
  clear HLP sQ o9
  go_wp2_with (first
    | (go_at_call 29; fail))
  refine C9.mono ?_
  rintro e10 w10 ⟨ra10, rc10, rfl, o10, B10⟩
  clear C9
  have D10 := D9.trans (B10.mono D9.size)
  have C10 := HUR.out w10 pa pc (HSP.out w10 D10)
  go_wp2_with (first
    | (go_at_call 30; fail))
  refine C10.mono ?_
  rintro e11 w11 ⟨ra11, rc11, rfl, o11, B11⟩
  have D11 := D10.trans (B11.mono D10.size)
  have M3 := HSM.out w11 ra10 rc10 ra11 rc11 ux (own_seg13 (own_below o10 B11) HUL.out) (own_seg13 o11 HUL.out)
  have K11 := HKQ.out w11 gM cM D11 ((sM.old B10).old B11)
  clear C10 o10 o11 sM HKQ
  generalize ux.length = ul at *
  go_wp2_with (first
    | (go_at_call 26; refine M3.mono ?_; rintro e12 w12 ⟨rfl, hw12⟩; subst hw12; clear M3)
    | (go_at_call 27; refine K11.mono ?_; rintro e13 w13 ⟨rfl, B13⟩; clear K11)
    | (go_at_call 31; refine (plives13 _).mono ?_; rintro e14 w14 ⟨rfl, B14⟩))
  go_ret
  have D13 := D11.trans (B13.mono D11.size)
  exact ⟨rfl, D13.trans (B14.mono D13.size)⟩
end Go.Proofs.Ytbgnlbgoeogbaaa

namespace Go.Proofs.Ytbgnlbgoeogbaaa
open Go.ChangeShapes Go.WideShapes Go.ChangeAt Go.RowKit
set_option linter.unusedVariables false

/-- A slice of whole numbers that came in: what lies there, and how it was read. -/
theorem open_seg {H : Type} {enc : TypeId × Value → H} {P : Program} {W : World} {T e : TypeId} {k : IntKind} {M : Int} {a : Option Addr} {len cap : Nat} {d : DataW H} {p : List MemPlace}
    (hT : P.underlying T = some (.slice e)) (he : P.underlying e = some (.int k)) (hc : P.cellsOf e = 1) (hM : 0 ≤ M) (hwf : ∀ n, (Lit.int k n).wf = true → 0 ≤ n ∧ n ≤ M)
    (h : DataW.Trod enc P W 0 (fun _ => true) true T (.slice a len cap) d p) :
    ∃ zs : List Int, zs.length = len ∧ SegK k M W a zs ∧ len ≤ cap ∧ (a = none → cap = 0) ∧ ((d = .nil ∧ len = 0) ∨ ∃ elems spare, d = .slice elems spare ∧ elems.length = len) := by
  obtain ⟨fuel, hf⟩ := h
  rcases open_ints hT he hc hf with ⟨hcs, hx⟩ | ⟨x, l, c, zs, hcs, _, hl, hm, hz, hx, hcell, hwz⟩
  · simp [Value.cells] at hcs
    obtain ⟨rfl, rfl, rfl⟩ := hcs
    simp only [Prod.mk.injEq] at hx
    exact ⟨[], rfl, SegK.nil hM _ _, Nat.le_refl _, fun _ => rfl, Or.inl ⟨hx.1, rfl⟩⟩
  · simp [Value.cells] at hcs
    obtain ⟨rfl, rfl, rfl⟩ := hcs
    simp only [Prod.mk.injEq] at hx
    simp only [if_true] at hz
    refine ⟨zs.take len, by simp; omega, ⟨fun i hi => ?_, hM, getD_bd hM ?_⟩, hl, (by intro h; cases h), Or.inr ⟨_, _, hx.1, by simp [ChangeShapes.lits]; omega⟩⟩
    · simp at hi
      have hi2 : i < len := by omega
      have h1 := hcell i (by omega)
      obtain ⟨b, off, spot⟩ := x
      have hs : spot = none := by
        have := hcell 0 (by omega)
        simpa [Addr.add] using World.cell?_spot this
      subst hs
      refine ⟨b, off, rfl, ?_⟩
      have hadd : (⟨b, off, none⟩ : Addr).add i = ⟨b, off + i, none⟩ := by unfold Addr.add; split <;> simp_all
      rw [hadd] at h1
      rw [h1]
      simp [List.getD, hi2]
    · intro z hz1
      exact hwf z (hwz z (List.mem_of_mem_take hz1))
end Go.Proofs.Ytbgnlbgoeogbaaa
