
import Derived.Test.YtcgaembnibnglaaCu7
namespace Go.Proofs.Ytcgaembnibnglaa
open Go.RowKit Go.Shelf
set_option linter.unusedVariables false

/-! The law's faces: in the program's types, in new memory. -/
/-- An edit lies in memory, however great. -/
structure Ed17 (w : World) (sa : Option Addr) (n : Nat) (S : List St16) (da : Option Addr) (m : Nat) (D : List Int) (xa : Option Addr) (k : Nat) (X : List Int) : Prop where
  ss : SegS w sa S
  sd : Seg w da D
  sx : Seg w xa X
  hn : S.length = n
  hm : D.length = m
  hk : X.length = k
  ln : n ≤ 5864062014804
  lm : m ≤ 140737488351232
  lk : k ≤ 140737488351232
theorem Ed17.old {w w' : World} {sa da xa : Option Addr} {n m k : Nat} {S : List St16} {D X : List Int} (h : Ed17 w sa n S da m D xa k X) (hb : Below w.heap.size w w') : Ed17 w' sa n S da m D xa k X :=
  ⟨h.ss.old hb, h.sd.old hb, h.sx.old hb, h.hn, h.hm, h.hk, h.ln, h.lm, h.lk⟩
theorem apps17 (V : World) {base : Nat} {v : Value} {n : Nat} {xs : List Value} (y : St16) (hown : V.ownsRow base 75 3 v n xs) (hn : n + 1 ≤ 5864062014805) (hbase : base ≤ V.heap.size) :
    ∃ g rc w', (Builtin.append_ #[27, 27] 27 #[v, .slice (some ⟨V.heap.size, 0, none⟩) 1 1]).run Try.prog (V.alloc (.cells #[.int .i64 y.1, .int .i64 y.2.1, .int .i64 y.2.2] 75)) = .ok (.slice (some ⟨g, 0, none⟩) (n + 1) rc) w' ∧
      w'.ownsRow base 75 3 (.slice (some ⟨g, 0, none⟩) (n + 1) rc) (n + 1) (xs ++ [.int .i64 y.1, .int .i64 y.2.1, .int .i64 y.2.2]) ∧ Kp (fun k => v.ownBlock = some k) V w' ∧ (v.ownBlock = some g ∨ V.heap.size ≤ g) := by
  obtain ⟨i0, hi, hz0, hz1, hz2⟩ := info_parts info_st16
  obtain ⟨g, rc, w', hr, h1, h2, h3, h4⟩ := run_append_lies (P := Try.prog) (V.alloc (.cells #[.int .i64 y.1, .int .i64 y.2.1, .int .i64 y.2.2] 75)) 27 27 base 75 i0 _ 3 24 Try.underlying27 hi hz0 hz1 hz2 rfl (by omega) v n xs (hown.alloc _) ⟨V.heap.size, 0, none⟩ 1 1 [.int .i64 y.1, .int .i64 y.2.1, .int .i64 y.2.2] rfl
    (World.news_of_block (heap_alloc_new V (.cells #[.int .i64 y.1, .int .i64 y.2.1, .int .i64 y.2.2] 75 (0, 0)))) (by intro u hu; simp at hu; rcases hu with rfl | rfl | rfl <;> rfl) (by omega) (by unfold maxLen; omega) (by omega) (by simp; omega) (V.heap.size + 1) (by simp)
  refine ⟨g, rc, w', hr, h1, (Kp.alloc V _).trans (Kp.grown (S := fun k => v.ownBlock = some k) h2 (fun i e => e)) (fun _ _ e => e), ?_⟩
  rcases h3 with h | h
  · exact .inl h
  · exact .inr (by omega)
/-- A copy of bytes. -/
def CpQ17 (w : World) (D : List Int) (e : Ending) (w' : World) : Prop := ∃ v, e = .returned v ∧ w'.ownsRow w.heap.size 5 1 v D.length (D.map (Value.int .u8)) ∧ Below w.heap.size w w'
def FsQ17 (w : World) (S : List St16) (e : Ending) (w' : World) : Prop := ∃ v, e = .returned v ∧ w'.ownsRow w.heap.size 75 3 v S.length (flat16 S) ∧ Below w.heap.size w w'
set_option maxRecDepth 100000 in
set_option maxHeartbeats 4000000 in
theorem pfs17 (a : Option Addr) (n cap : Nat) (S : List St16) (w : World) (hs : SegS w a S) (hn : Hid (S.length = n)) (hl : n ≤ 5864062014804) :
    Calls Try.prog 28 #[.slice a n cap] w (FsQ17 w S) := by
  go_enter Try.func28, Try.ntmps28
  go_wp2_with fail
  go_loopw [3, 8] (fun t3 t8 wr => ∃ i : Nat, i ≤ n ∧ t8 = .int .i64 (i : Int) ∧ wr.ownsRow w.heap.size 75 3 t3 i (flat16 (S.take i)) ∧ Below w.heap.size w wr) (fun _ t8 _ => n - (intOf t8).toNat)
  case atStart => exact ⟨0, by omega, rfl, ⟨by simp [flat16], .inl ⟨rfl, rfl⟩⟩, Below.refl _ _⟩
  case round =>
    obtain ⟨i, hi, rfl, own, BR⟩ := hrel
    by_cases hin : i < n
    · have hii : (i : Int) < (n : Int) := by omega
      have hi0 : (0 : Int) ≤ (i : Int) := by omega
      have hil : i < S.length := by rw [hn.out]; exact hin
      obtain ⟨b, off, rfl, hT⟩ := (hs.old BR).at_ i hil
      have c0 := hT.c0
      have c1 := hT.c1
      have c2 := hT.c2
      have hget : S.getD i z16 = S[i] := by simp [List.getD, hil]
      have HTK : Hid (flat16 (S.take (i + 1)) = flat16 (S.take i) ++ [.int .i64 (S.getD i z16).1, .int .i64 (S.getD i z16).2.1, .int .i64 (S.getD i z16).2.2]) := by
        show _ = _
        rw [List.take_succ_eq_append_getElem hil, flat16_app, hget]; rfl
      clear hget
      generalize S.getD i z16 = s at *
      obtain ⟨A, C, K⟩ := s
      simp only at c0 c1 c2 HTK
      obtain ⟨wB, hwB⟩ : ∃ wB, wB = wr.alloc (.cells #[.int .i64 A, .int .i64 C, .int .i64 K] 95) := ⟨_, rfl⟩
      have cB : Cb16 wr #[.int .i64 A, .int .i64 C, .int .i64 K] 95 wB := by rw [hwB]; exact cb16 _ _ _
      have BB : Below w.heap.size w wB := BR.trans (cB.bl.mono BR.size)
      obtain ⟨p, cc, hv⟩ := own_sl17 own
      obtain ⟨g, rc, w', hr, ow, k1, at1⟩ := apps17 wB (A, C, K) (own_kp16 own (Kp.of_below (S := fun _ => False) cB.bl) (fun _ _ x => x)) (by omega) BB.size
      simp only at hr ow
      rw [cB.sz, hwB] at hr
      have HO : Hid (w'.ownsRow w.heap.size 75 3 (.slice (some ⟨g, 0, none⟩) (i + 1) rc) (i + 1) (flat16 (S.take (i + 1)))) := by rw [HTK.out]; exact ow
      have HB : Hid (Below w.heap.size w w') := BB.trans (k1.below (fun k x => (own.lt k x).1) BB.size)
      subst hv
      clear own ow k1 at1 hT hwB cB BB HTK
      go_wp2_with (first | (at_builtin; refine wpList_app17 rfl (.tmp 12) (.tmp 20) 27 rfl rfl rfl hr ?_))
      go_roundw
      case rel => exact ⟨i + 1, by omega, by simp, HO.out, HB.out⟩
      case measure => simp [intOf]; omega
    · have hk2 : i = n := by omega
      subst hk2
      have hneg : ¬ (i : Int) < (i : Int) := by omega
      obtain ⟨p, cc, hv⟩ := own_sl17 own
      subst hv
      have HO : Hid (wr.ownsRow w.heap.size 75 3 (.slice p i cc) i (flat16 (S.take i))) := own
      clear own
      go_wp2_with fail
      go_ret
      have h1 := HO.out
      have h2 : S.take i = S := by rw [← hn.out, List.take_length]
      rw [h2] at h1
      exact ⟨_, rfl, by rw [hn.out]; exact h1, BR⟩
end Go.Proofs.Ytcgaembnibnglaa
