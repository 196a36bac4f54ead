import Derived.Test.YtmpbaabmpcejdaaProg
import Derived.Test.YtmpbaabmpcejdaaTellMath
import Derived.Test.YtmpbaabmpcejdaaRead
import Derived.Test.YtmpbaabmpcejdaaPush
import Derived.Test.YtmpbaabmpcejdaaOwnSeg
import Derived.WalkKit
import Derived.WalkSpells
import Derived.WalkLawsBesides
namespace Go.Proofs.Ytmpbaabmpcejdaa
open Go.RowKit
set_option linter.unusedVariables false

theorem info_u8c : (Try.prog.info? 5).map (fun i => (i.zero, i.size, i.bytes)) = some (some (.int .u8 0), 1, 1) := by kernel_rfl
theorem info_at : (Try.prog.info? 55).map (fun i => (i.zero, i.size, i.bytes)) = some (some (.agg #[.int .i64 0, .int .u64 0]), 2, 16) := by kernel_rfl

/-- Bytes of one's own, behind a call. -/
structure OwnB (w w' : World) (zs : List Int) (a' : Option Addr) (c' : Nat) : Prop where
  seg : Seg w' a' zs
  le : zs.length ≤ c'
  nil : a' = none → c' = 0
  off : ∀ x, a' = some x → x.off = 0
  new : ∀ x, a' = some x → w.heap.size ≤ x.block
  b : Below w.heap.size w w'

set_option maxHeartbeats 400000 in
theorem clone_any (a : Option Addr) (zs : List Int) (cap : Nat) (w : World) (hs : Seg w a zs) (hnil : a = none → cap = 0) (hl : zs.length ≤ 140737488351232) :
    Calls Try.prog 34 #[.slice a zs.length cap] w fun e w' => ∃ a' c', e = .returned (.slice a' zs.length c') ∧ OwnB w w' zs a' c' := by
  obtain ⟨i0, hi, hz0, hz1, hz2⟩ := info_parts info_u8c
  have hm0 : (w.alloc (.cells #[] 5)).ownsRow w.heap.size 5 1 (.slice (some ⟨w.heap.size, 0, none⟩) 0 0) 0 [] := World.ownsRow_made w #[] 0 (Nat.le_refl _) (by decide) rfl
  have hb0 : Below w.heap.size w (w.alloc (.cells #[] 5)) := (Below.refl _ _).alloc (Nat.le_refl _) _
  cases a with
  | none =>
    have hz : zs = [] := by
      cases zs with
      | nil => rfl
      | cons z r => obtain ⟨b, off, hx, _⟩ := hs.at_ 0 (by simp); cases hx
    subst hz
    obtain rfl := hnil rfl
    have hq := Lib.run_eql_slice_nil (P := Try.prog) w 24 5 none 0 0 0 0 Try.underlying24
    go_enter Try.func34, Try.ntmps34
    go_wp2
    go_ret
    exact ⟨none, 0, rfl, ⟨SegK.nil (by decide) _ _, by simp, fun _ => rfl, (by intro x e; cases e), (by intro x e; cases e), Below.refl _ _⟩⟩
  | some x =>
    have hq := Lib.run_eql_slice_nil (P := Try.prog) w 24 5 (some x) zs.length cap 0 0 Try.underlying24
    go_enter Try.func34, Try.ntmps34
    go_wp2_with (at_builtin; refine wpList_append_seg rfl (.tmp 5) (.tmp 6) 24 rfl w.heap.size 5 i0 (.int .u8 0) 1 Try.underlying24 hi hz0 hz1 hz2 rfl hm0 (hs.alloc _) hnil rfl rfl (by omega) (by omega) (by simp) ?_; intro v1 w1 hown1 hg1 hb1)
    go_ret
    simp only [List.nil_append, Nat.zero_add] at hown1
    obtain ⟨_, a', c', rfl, hseg, hblk, hc, _⟩ := own_seg hown1 (M := 255) (by decide) hs.mem
    refine ⟨a', c', rfl, ⟨hseg, hc, ?_, fun x e => (hblk x e).1, fun x e => (hblk x e).2.2.1, hb0.trans hb1⟩⟩
    intro e
    subst e
    rcases hown1.2 with ⟨h0, _⟩ | ⟨g, cp, cur, h0, _⟩
    · simp at h0; exact h0.2
    · simp at h0

/-- The iterator's value: a closure over a box that holds the bytes' own copy. -/
theorem all_any (a : Option Addr) (zs : List Int) (cap : Nat) (w : World) (hs : Seg w a zs) (hnil : a = none → cap = 0) (hl : zs.length ≤ 140737488351232) :
    Calls Try.prog 23 #[.slice a zs.length cap] w fun e w' => ∃ Bs a' c', e = .returned (.func (.func 35) #[] #[.pointer (some ⟨Bs, 0, none⟩)]) ∧ w'.cell? ⟨Bs, 0, none⟩ = some (.slice a' zs.length c') ∧ w.heap.size ≤ Bs ∧ Bs < w'.heap.size ∧ OwnB w w' zs a' c' := by
  go_enter Try.func23, Try.ntmps23
  go_wp2_with fail
  refine (clone_any a zs cap _ hs hnil hl).mono ?_
  rintro e w1 ⟨a', c', rfl, hB⟩
  have hz := hB.b.size
  go_wp2
  go_ret
  exact ⟨w1.heap.size, a', c', rfl, by simp, hz, by simp, ⟨hB.seg.alloc _, hB.le, hB.nil, hB.off, hB.new, hB.b.alloc hz _⟩⟩

theorem read_is (a : Option Addr) (zs : List Int) (n cap : Nat) (v m e : Int) (w : World) (hs : Seg w a zs) (hn : zs.length = n) (hl : n ≤ 140737488355328) (hcap : n ≤ cap) (hd : decL 0 0 zs = (v, m, e)) :
    Calls Try.prog 22 #[.slice a n cap] w fun x w' => x = .returned (.tuple #[.int .u64 v, .int .i64 m, .int .i64 e]) ∧ w' = w := by
  subst hn
  have := read_any a zs cap w hs hl hcap
  rw [hd] at this
  exact this
theorem two_new (w : World) (x y : Value) (t : TypeId) : ∀ j u, [x, y][j]? = some u → (w.alloc (.cells #[x, y] t)).cell? ((⟨w.heap.size, 0, none⟩ : Addr).add j) = some u := by
  intro j u hu
  match j, hu with
  | 0, hu => simp at hu; subst hu; simp [Addr.add]
  | 1, hu => simp at hu; subst hu; simp [Addr.add]

set_option maxHeartbeats 1000000 in
theorem rall_any (a : Option Addr) (zs : List Int) (cap : Nat) (w : World) (hs : Seg w a zs) (hcap : zs.length ≤ cap) (hnil : a = none → cap = 0) (hl : zs.length ≤ 1048576) :
    Calls Try.prog 24 #[.slice a zs.length cap] w fun e w' => ∃ v, e = .returned v ∧ w'.ownsRow w.heap.size 55 2 v (tells zs).length (cellsP (tells zs)) ∧ Below w.heap.size w w' := by
  obtain ⟨i0, hi, hz0, hz1, hz2⟩ := info_parts info_at
  go_enter Try.func24, Try.ntmps24
  go_wp2
  go_loopw [3, 4] (fun o t wr => ∃ (pre : List (Int × Int)) (p : Nat), t = .int .i64 p ∧ Told zs pre p ∧ wr.ownsRow w.heap.size 55 2 o pre.length (cellsP pre) ∧ Below w.heap.size w wr) (fun _ t _ => zs.length - (intOf t).toNat)
  case atStart => exact ⟨[], 0, rfl, Told.start zs, World.ownsRow_nil _ _ _ _, Below.refl _ _⟩
  case round =>
    obtain ⟨pre, p, rfl, htold, hown, hb⟩ := hrel
    have hp := htold.le
    have hpl := htold.len
    have hszr := hb.size
    have hsr := hs.old hb
    by_cases hlt : p < zs.length
    · have hlti : (p : Int) < (zs.length : Int) := by omega
      have hlc : (p : Int) < (cap : Int) := by omega
      obtain ⟨b, off, rfl, _⟩ := hsr.at_ p hlt
      have hdr := hsr.drop p
      have hdl : (zs.drop p).length = zs.length - p := List.length_drop
      obtain ⟨V, N, E, hD⟩ : ∃ V N E, decL 0 0 (zs.drop p) = (V, N, E) := ⟨_, _, _, rfl⟩
      by_cases hE : E = 0
      · subst hE
        obtain ⟨m, hm1, hm2, rfl, hV0, hV1, _⟩ := decI_ok (zs.drop p) V N (fun z hz' => hs.mem z (List.mem_of_mem_drop hz')) hD
        have hstep := htold.step hm1 hm2 hD
        have HR : Hid (∀ (W : World) (c : Nat), Seg W (some ⟨b, off + p, none⟩) (zs.drop p) → zs.length - p ≤ c → Calls Try.prog 22 #[.slice (some ⟨b, off + p, none⟩) (zs.length - p) c] W fun e w' => e = .returned (.tuple #[.int .u64 V, .int .i64 m, .int .i64 0]) ∧ w' = W) := fun W c h hc => read_is _ _ _ c _ _ _ W h hdl (by omega) hc hD
        rw [hdl] at hm2
        have hpre : (pre ++ [((p : Int), V)]).length = pre.length + 1 := by simp
        have HC : Hid (cellsP (pre ++ [((p : Int), V)]) = cellsP pre ++ [.int .i64 p, .int .u64 V]) := by show cellsP _ = _; rw [cellsP_append]; rfl
        clear hD hdl
        go_wp2_with fail
        refine (HR.out _ _ hdr (by omega)).mono ?_
        rintro e w1 ⟨rfl, hw1⟩
        subst w1
        go_wp2_with (at_builtin; refine wpList_append_own _ rfl (.tmp 19) (.tmp 23) 52 rfl w.heap.size 55 i0 (.agg #[.int .i64 0, .int .u64 0]) 2 16 Try.underlying52 hi hz0 hz1 hz2 rfl (by decide) _ _ _ rfl (hown.alloc _) ⟨wr.heap.size, 0, none⟩ 1 1 [.int .i64 p, .int .u64 V] rfl rfl (two_new _ _ _ _) (by intro u hu; simp at hu; rcases hu with rfl | rfl <;> rfl) (by unfold maxLen; omega) (by omega) (by simp; omega) ?_; intro v' w2 hown2 hg2 _)
        have hg3 : wr.grownBy w2 (u3.ownBlock) := grownBy_trans (World.grownBy_alloc wr _ _) hg2
        go_roundw
        case rel => exact ⟨pre ++ [((p : Int), V)], p + m, by go_num, hstep, by rw [hpre, HC.out]; exact hown2, hb.trans ((Below.refl _ _).grown hg3 hszr (fun k hk => (hown.lt k hk).1))⟩
        case measure => simp [intOf]; omega
      · have hstop := htold.stop (by rw [hD]; exact hE)
        have hne : (E != 0) = true := by simp [hE]
        have HR : Hid (∀ (W : World) (c : Nat), Seg W (some ⟨b, off + p, none⟩) (zs.drop p) → zs.length - p ≤ c → Calls Try.prog 22 #[.slice (some ⟨b, off + p, none⟩) (zs.length - p) c] W fun e w' => e = .returned (.tuple #[.int .u64 V, .int .i64 N, .int .i64 E]) ∧ w' = W) := fun W c h hc => read_is _ _ _ c _ _ _ W h hdl (by omega) hc hD
        have HS : Hid (tells zs = pre) := hstop
        clear hD hdl hstop
        go_wp2_with fail
        refine (HR.out _ _ hdr (by omega)).mono ?_
        rintro e w1 ⟨rfl, hw1⟩
        subst w1
        go_wp2
        go_ret
        exact ⟨_, rfl, by rw [HS.out]; exact hown, hb⟩
    · obtain rfl : p = zs.length := by omega
      have hstop := htold.stop (tell_end zs _ (Nat.le_refl _))
      have HS : Hid (tells zs = pre) := hstop
      have HR : Hid (∀ (W : World) (x : Option Addr) (c : Nat), Calls Try.prog 22 #[.slice x 0 c] W fun e w' => e = .returned (.tuple #[.int .u64 0, .int .i64 0, .int .i64 11]) ∧ w' = W) := fun W x c => read_is _ [] _ c _ _ _ W (SegK.nil (by decide) _ _) rfl (by omega) (by simp) rfl
      have hzc : (zs.length : Int) ≤ (cap : Int) := by omega
      clear hstop hlt
      go_wp2_with fail
      all_goals
        refine (HR.out _ _ _).mono ?_
        rintro e w1 ⟨rfl, hw1⟩
        subst w1
        go_wp2
        go_ret
        exact ⟨_, rfl, by rw [HS.out]; exact hown, hb⟩
end Go.Proofs.Ytmpbaabmpcejdaa
