import Derived.Test.YtcifalelnfeggaaGreatDoorPm
import Derived.Deep.RegionLaw
import Derived.Deep.OwnRows
import Derived.Deep.RegionHeld3
namespace Go.Proofs.YtcifalelnfeggaaGreatDoor
open Go.RowKit
set_option linter.unusedVariables false

theorem Fresh.refl (w : World) (v : Value) : Fresh w v v := fun k e => .inl e
theorem info_b1 : (Tryz.prog.info? 4).map (fun i => (i.zero, i.size, i.bytes)) = some (some (.bool false), 1, 1) := by kernel_rfl

/-- A block whose first cell is a list of bits in a row of its own. -/
structure RB (w : World) (b B : Nat) (T : TypeId) (xs : List Value) (a : Option Addr) (cap : Nat) (L : List Bool) : Prop where
  hp : w.heap[b]? = some (.cells (.slice a L.length cap :: xs).toArray T (0, 0))
  own : w.ownsRow B 4 1 (.slice a L.length cap) L.length (L.map Value.bool)
  ne : (Value.slice a L.length cap).ownBlock ≠ some b
  bB : B ≤ w.heap.size
variable {w w' wr w2 : World} {b B : Nat} {T : TypeId} {xs : List Value} {a : Option Addr} {cap : Nat} {L : List Bool}
theorem RB.b_lt (h : RB w b B T xs a cap L) : b < w.heap.size := (Array.getElem?_eq_some_iff.1 h.hp).1
theorem RB.kp {S : Nat → Prop} (h : RB w b B T xs a cap L) (hk : Kp S w w') (h1 : ¬ S b) (h2 : ∀ k, (Value.slice a L.length cap).ownBlock = some k → ¬ S k) : RB w' b B T xs a cap L :=
  ⟨hk.heap h.hp h1, own_kp h.own hk h2, h.ne, Nat.le_trans h.bB hk.size⟩
theorem RB.cell0 (h : RB w b B T xs a cap L) : w.cell? ⟨b, 0, none⟩ = some (.slice a L.length cap) := by simp [World.cell?, h.hp]
theorem RB.free (h : RB w b B T xs a cap L) (i : Nat) : w.frozen? ⟨b, i, none⟩ = false := by simp [World.frozen?, h.hp]
theorem RB.seg (h : RB w b B T xs a cap L) : SegB w a L := own_segB h.own
theorem RB.own_lt (h : RB w b B T xs a cap L) : ∀ k, (Value.slice a L.length cap).ownBlock = some k → B ≤ k ∧ k < w.heap.size ∧ k ≠ b :=
  fun k e => ⟨(h.own.lt k e).1, (h.own.lt k e).2, fun e2 => h.ne (e2 ▸ e)⟩

/-- A new row is laid into the first cell. -/
theorem RB.store (h : RB wr b B T xs a cap L) {a' : Option Addr} {cap' : Nat} {L' : List Bool} (hk : Kp (fun k => (Value.slice a L.length cap).ownBlock = some k) wr w2)
    (hown : w2.ownsRow B 4 1 (.slice a' L'.length cap') L'.length (L'.map Value.bool)) (hf : Fresh wr (.slice a L.length cap) (.slice a' L'.length cap')) :
    RB (w2.setCell ⟨b, 0, none⟩ (.slice a' L'.length cap')) b B T xs a' cap' L' ∧ Kp (WS b (.slice a L.length cap)) wr (w2.setCell ⟨b, 0, none⟩ (.slice a' L'.length cap')) ∧ Fresh wr (.slice a L.length cap) (.slice a' L'.length cap') := by
  have hp2 : w2.heap[b]? = some (.cells (.slice a L.length cap :: xs).toArray T (0, 0)) := hk.heap h.hp h.ne
  have hne : (Value.slice a' L'.length cap').ownBlock ≠ some b := by
    intro e
    rcases hf b e with e | e
    · exact h.ne e
    · have := h.b_lt; omega
  have hkb : Kp (fun j => j = b) w2 (w2.setCell ⟨b, 0, none⟩ (.slice a' L'.length cap')) := Kp.set (S := fun j => j = b) rfl _
  refine ⟨⟨?_, own_kp hown hkb (fun j e1 e2 => hne (e2 ▸ e1)), hne, Nat.le_trans h.bB (Nat.le_trans hk.size hkb.size)⟩, ?_, hf⟩
  · simp [World.setCell, Array.getElem?_modify, hp2]
  · exact (hk.mono (S' := WS b (.slice a L.length cap)) (fun i _ e => .inr e)).trans hkb (fun i _ e => .inl e)
theorem RB.pushed (h : RB wr b B T xs a cap L) {o : Obj} {gg cap2 : Nat} {y : Bool}
    (hown : w2.ownsRow B 4 1 (.slice (some ⟨gg, 0, none⟩) (L.length + 1) cap2) (L.length + 1) (L.map Value.bool ++ [.bool y]))
    (hgrow : ((wr.alloc o).drew).grownBy w2 (Value.slice a L.length cap).ownBlock) (hat : (Value.slice a L.length cap).ownBlock = some gg ∨ gg = wr.heap.size + 1) :
    RB (w2.setCell ⟨b, 0, none⟩ (.slice (some ⟨gg, 0, none⟩) (L.length + 1) cap2)) b B T xs (some ⟨gg, 0, none⟩) cap2 (L ++ [y]) ∧ Kp (WS b (.slice a L.length cap)) wr (w2.setCell ⟨b, 0, none⟩ (.slice (some ⟨gg, 0, none⟩) (L.length + 1) cap2)) ∧
      Fresh wr (.slice a L.length cap) (.slice (some ⟨gg, 0, none⟩) (L ++ [y]).length cap2) := by
  have hlen : (L ++ [y]).length = L.length + 1 := by simp
  have hk : Kp (fun k => (Value.slice a L.length cap).ownBlock = some k) wr w2 := ((Kp.alloc wr o).drew).trans (Kp.grown (S := fun k => (Value.slice a L.length cap).ownBlock = some k) hgrow (fun i e => e)) (fun _ _ e => e)
  have := h.store (L' := L ++ [y]) (a' := some ⟨gg, 0, none⟩) (cap' := cap2) hk (by rw [hlen]; simpa using hown) (by
    intro k e
    cases e
    rcases hat with e | e
    · exact .inl e
    · right; show wr.heap.size ≤ gg; omega)
  rw [hlen] at this
  simpa using this
theorem RB.pushed1 (h : RB wr b B T xs a cap L) {g2 c2 : Nat} {y : Bool}
    (hown : w2.ownsRow B 4 1 (.slice (some ⟨g2, 0, none⟩) (L.length + 1) c2) (L.length + 1) (L.map Value.bool ++ [.bool y]))
    (hgrow : wr.grownBy w2 (Value.slice a L.length cap).ownBlock) (hf : Fresh wr (.slice a L.length cap) (.slice (some ⟨g2, 0, none⟩) (L.length + 1) c2)) :
    RB (w2.setCell ⟨b, 0, none⟩ (.slice (some ⟨g2, 0, none⟩) (L.length + 1) c2)) b B T xs (some ⟨g2, 0, none⟩) c2 (L ++ [y]) ∧ Kp (WS b (.slice a L.length cap)) wr (w2.setCell ⟨b, 0, none⟩ (.slice (some ⟨g2, 0, none⟩) (L.length + 1) c2)) ∧
      Fresh wr (.slice a L.length cap) (.slice (some ⟨g2, 0, none⟩) (L ++ [y]).length c2) := by
  have hlen : (L ++ [y]).length = L.length + 1 := by simp
  have hk : Kp (fun k => (Value.slice a L.length cap).ownBlock = some k) wr w2 := Kp.grown hgrow (fun i e => e)
  have := h.store (L' := L ++ [y]) (a' := some ⟨g2, 0, none⟩) (cap' := c2) hk (by rw [hlen]; simpa using hown) (by rw [hlen]; exact hf)
  rw [hlen] at this
  simpa using this

/-- The document's Writer with these bits; v: its row. -/
def RwL (w : World) (b B : Nat) (v : Value) (L : List Bool) : Prop := ∃ a cap, v = .slice a L.length cap ∧ RB w b B 67 [] a cap L
theorem RwL.kp {v : Value} {S : Nat → Prop} (h : RwL w b B v L) (hk : Kp S w w') (h1 : ¬ S b) (h2 : ∀ k, v.ownBlock = some k → ¬ S k) : RwL w' b B v L := by
  obtain ⟨a, cap, rfl, h⟩ := h
  exact ⟨a, cap, rfl, h.kp hk h1 h2⟩
theorem RwL.b_lt {v : Value} (h : RwL w b B v L) : b < w.heap.size := by
  obtain ⟨a, cap, rfl, h⟩ := h
  exact h.b_lt
theorem RwL.own_lt {v : Value} (h : RwL w b B v L) : ∀ k, v.ownBlock = some k → B ≤ k ∧ k < w.heap.size ∧ k ≠ b := by
  obtain ⟨a, cap, rfl, h⟩ := h
  exact h.own_lt
theorem RwL.new (h : w.heap[b]? = some (.cells #[.slice none 0 0] 67 (0, 0))) (hB : B ≤ w.heap.size) : RwL w b B (.slice none 0 0) [] :=
  ⟨none, 0, rfl, ⟨h, World.ownsRow_nil _ _ _ _, by simp [Value.ownBlock], hB⟩⟩

set_option maxRecDepth 100000 in
set_option maxHeartbeats 2000000 in
theorem rput_ok (b B : Nat) (v : Value) (L : List Bool) (x k : Nat) (w : World) (h : RwL w b B v L) (hx : x < 2 ^ k) (hk : k ≤ 56) (hl : L.length ≤ 140737488355264) :
    Calls Tryz.prog 30 #[.pointer (some ⟨b, 0, none⟩), .int .u64 (x : Int), .int .i64 (k : Int)] w fun e w' => e = .returned (.int .i64 0) ∧ ∃ v', RwL w' b B v' (L ++ bN x k) ∧ Kp (WS b v) w w' ∧ Fresh w v v' := by
  obtain ⟨i0, hi, hz0, hz1, hz2⟩ := info_parts info_b1
  obtain ⟨a, cap, rfl, h⟩ := h
  have hs0 : (x : Int) / 2 ^ k = 0 := by rw [shr_nat, Nat.div_eq_of_lt hx]; rfl
  have hx2 : x < 18446744073709551616 := by
    have := pow_le_63 (k := k) (by omega)
    omega
  clear hx
  go_enter Tryz.func30, Tryz.ntmps30
  go_wp2
  clear hs0
  go_loopw [7] (fun ti wr => ∃ (i : Nat) (a1 : Option Addr) (cap1 : Nat), i ≤ k ∧ ti = .int .i64 (i : Int) ∧ RB wr b B 67 [] a1 cap1 (L ++ bN x i) ∧ Kp (WS b (.slice a L.length cap)) w wr ∧ Fresh w (.slice a L.length cap) (.slice a1 (L ++ bN x i).length cap1)) (fun ti _ => k - (intOf ti).toNat)
  case atStart => exact ⟨0, a, cap, Nat.zero_le _, rfl, by simpa [bN] using h, Kp.refl _ _, by simpa [bN] using Fresh.refl w (.slice a L.length cap)⟩
  case round =>
    obtain ⟨i, a1, cap1, hik, rfl, hr, hkr, hfr⟩ := hrel
    have hlen : (L ++ bN x i).length = L.length + i := by rw [List.length_append, bN_len]
    have hbs : bN x (i + 1) = bN x i ++ [x.testBit i] := bN_succ x i
    have HB : Hid (L ++ bN x (i + 1) = (L ++ bN x i) ++ [x.testBit i]) := by show _ = _; rw [hbs, List.append_assoc]
    have hlt1 : (L ++ bN x i).length + 1 ≤ 140737488355328 := by omega
    obtain ⟨M, hM⟩ : ∃ M, M = L ++ bN x i := ⟨_, rfl⟩
    rw [← hM] at hr hfr hlt1 HB
    have HM : Hid (M = L ++ bN x i) := hM
    clear hbs hlen hM
    by_cases hlt : i < k
    · have hq := shr_nat x i
      have hq2 := div_pow_lt (k := i) hx2
      have ha := and_one' (x / 2 ^ i) hq2
      have hb := bit_eq x i
      generalize x / 2 ^ i = q at *
      have hb2 : q % 2 < 2 := by omega
      generalize q % 2 = bb at *
      generalize x.testBit i = y at *
      have hi63 : i ≤ 63 := by omega
      have hlt2 : (i : Int) < (k : Int) := by omega
      have hd0 := hr.cell0
      have hdf0 := hr.free 0
      have hltr := hr.b_lt
      have hfa : ∀ o, (wr.alloc o).frozen? ⟨b, 0, none⟩ = false := fun o => (((Below.refl wr.heap.size wr).alloc (Nat.le_refl _) o).frozen (p := ⟨b, 0, none⟩) hltr).trans hdf0
      have hca : ∀ o, (wr.alloc o).cell? ⟨b, 0, none⟩ = some (.slice a1 M.length cap1) := fun o => (((Below.refl wr.heap.size wr).alloc (Nat.le_refl _) o).cell (p := ⟨b, 0, none⟩) hltr).trans hd0
      have hown1 := hr.own
      have hbase := hr.bB
      have hne := hr.ne
      go_wp2
      go_region_law
        (refine step_append_lies _ (by rfl) _ _ _ (by rfl) B 4 i0 _ 1 1 Tryz.underlying65 hi hz0 hz1 hz2 rfl (by omega) (.slice a1 M.length cap1) M.length (M.map Value.bool) (by rfl) ((hown1.alloc _).drew)
            ⟨wr.heap.size, 0, none⟩ 1 1 [.bool y] (by rfl) (by rfl) (World.news_of_block (cs := #[.bool y]) (t := 4) (fr := (0, 0)) (heap_alloc_new wr _)) (by simp [Value.oneCell'])
            (by omega) (by unfold maxLen; omega) (by omega) (by simp; omega) (wr.heap.size + 1) (by simp) ?_; intro gg cap2 w2 hown2 hgrow hat hlt2
         have hx0 := (hgrow.cell_far ⟨b, 0, none⟩ (by simp; omega) (Ne.symm hne)).trans (hca _)
         have hxf := (hgrow.frozen_far ⟨b, 0, none⟩ (by simp; omega) (Ne.symm hne)).trans (hfa _))
      all_goals
        have hpu := hr.pushed hown2 hgrow hat
        generalize w2.setCell ⟨b, 0, none⟩ (.slice (some ⟨gg, 0, none⟩) (M.length + 1) cap2) = w3 at *
        clear hx0 hxf hgrow hown2 hd0 hdf0 hfa hca hown1 hr
        go_wp2
        go_roundw
        case rel => exact ⟨i + 1, _, cap2, by omega, by go_num, by rw [HB.out]; exact hpu.1, hkr.trans hpu.2.1 (fun j hj e => ws_back hfr hj e), by rw [HB.out]; exact hfr.trans hpu.2.2 hkr.size⟩
        case measure => simp [intOf]; omega
    · have HI : Hid (i = k) := by show _ = _; omega
      have hge : (k : Int) ≤ (i : Int) := by omega
      clear hlt hik
      go_wp2
      go_ret
      have hMk : M = L ++ bN x k := by rw [HM.out, HI.out]
      rw [← hMk]
      exact ⟨rfl, _, ⟨a1, cap1, rfl, hr⟩, hkr, hfr⟩
end Go.Proofs.YtcifalelnfeggaaGreatDoor

namespace Go.Proofs.YtcifalelnfeggaaGreatDoor
open Go.RowKit
set_option linter.unusedVariables false

set_option maxRecDepth 100000 in
theorem rput_no (b : Nat) (x : Nat) (n : Int) (w : World) (hx : x < 18446744073709551616) (hn0 : -9223372036854775808 ≤ n) (hn1 : n ≤ 9223372036854775807) (he : errW x n ≠ 0) :
    Calls Tryz.prog 30 #[.pointer (some ⟨b, 0, none⟩), .int .u64 (x : Int), .int .i64 n] w fun e w' => e = .returned (.int .i64 (errW x n)) ∧ w' = w := by
  rcases errW_cases x n with ⟨h1, h2⟩ | ⟨k, rfl, hk, ⟨h1, h2⟩ | ⟨h1, h2⟩⟩
  · rw [h1]
    rcases h2 with h2 | h2
    · go_enter Tryz.func30, Tryz.ntmps30
      go_wp2
      go_ret
      exact ⟨rfl, rfl⟩
    · have h0 : 0 ≤ n := by omega
      go_enter Tryz.func30, Tryz.ntmps30
      go_wp2
      go_ret
      exact ⟨rfl, rfl⟩
  · exact absurd h1 he
  · rw [h1]
    have hs := shr_nat x k
    have hp := shr_ne h2
    generalize x / 2 ^ k = q at *
    clear h2 he h1
    have hq : 0 < (q : Int) := by omega
    go_enter Tryz.func30, Tryz.ntmps30
    go_wp2
    go_ret
    exact ⟨rfl, rfl⟩
theorem rev_take (x k i : Nat) (h : i < k) : (bN x k).reverse.take (k - i) = (bN x k).reverse.take (k - (i + 1)) ++ [x.testBit i] := by
  have hl : (bN x k).reverse.length = k := rev_len x k
  have hg := rev_get x k (k - (i + 1)) (by omega)
  rw [show k - 1 - (k - (i + 1)) = i by omega] at hg
  rw [List.getElem?_eq_some_iff] at hg
  obtain ⟨hx, hg⟩ := hg
  rw [show k - i = k - (i + 1) + 1 by omega, List.take_succ_eq_append_getElem hx, hg]

theorem rput_any (b B : Nat) (v : Value) (L : List Bool) (x : Nat) (n : Int) (w : World) (h : RwL w b B v L) (hx : x < 18446744073709551616) (hn0 : -9223372036854775808 ≤ n) (hn1 : n ≤ 9223372036854775807) (hl : L.length ≤ 140737488355264) :
    Calls Tryz.prog 30 #[.pointer (some ⟨b, 0, none⟩), .int .u64 (x : Int), .int .i64 n] w fun e w' => e = .returned (.int .i64 (errW x n)) ∧ ∃ v', RwL w' b B v' (putL L x n) ∧ Kp (WS b v) w w' ∧ Fresh w v v' := by
  by_cases he : errW x n = 0
  · rcases errW_cases x n with ⟨h1, h2⟩ | ⟨k, rfl, hk, ⟨h1, h2⟩ | ⟨h1, h2⟩⟩
    · omega
    · refine (rput_ok b B v L x k w h h2 hk hl).mono ?_
      rintro e w' ⟨rfl, v', h1', h2', h3'⟩
      unfold putL
      rw [he, if_pos rfl]
      exact ⟨rfl, v', by simpa using h1', h2', h3'⟩
    · omega
  · refine (rput_no b x n w hx hn0 hn1 he).mono ?_
    rintro e w' ⟨rfl, rfl⟩
    unfold putL
    rw [if_neg he]
    exact ⟨rfl, v, h, Kp.refl _ _, fun k e => .inl e⟩
end Go.Proofs.YtcifalelnfeggaaGreatDoor

namespace Go.Proofs.YtcifalelnfeggaaGreatDoor
open Go.RowKit
set_option linter.unusedVariables false

set_option maxRecDepth 100000 in
set_option maxHeartbeats 1000000 in
theorem rwalign_any (b B : Nat) (v : Value) (L : List Bool) (w : World) (h : RwL w b B v L) (hl : L.length ≤ 140737488355264) :
    Calls Tryz.prog 58 #[.pointer (some ⟨b, 0, none⟩)] w fun e w' => e = .returned (.int .i64 (padN L.length)) ∧ ∃ v', RwL w' b B v' (alignL L) ∧ Kp (WS b v) w w' ∧ Fresh w v v' := by
  obtain ⟨i0, hi, hz0, hz1, hz2⟩ := info_parts info_b1
  obtain ⟨a, cap, rfl, h⟩ := h
  have hpd : padN L.length = (8 - L.length % 8) % 8 := rfl
  have HA : Hid (alignL L = L ++ List.replicate (padN L.length) false) := rfl
  generalize padN L.length = p at *
  have HP : Hid (p = (8 - L.length % 8) % 8) := hpd
  clear hpd
  go_enter Tryz.func58, Tryz.ntmps58
  go_wp2
  go_loopw [3] (fun ti wr => ∃ (j : Nat) (a1 : Option Addr) (cap1 : Nat), j ≤ p ∧ ti = .int .i64 (j : Int) ∧ RB wr b B 67 [] a1 cap1 (L ++ List.replicate j false) ∧ Kp (WS b (.slice a L.length cap)) w wr ∧ Fresh w (.slice a L.length cap) (.slice a1 (L ++ List.replicate j false).length cap1)) (fun ti _ => p - (intOf ti).toNat)
  case atStart => exact ⟨0, a, cap, Nat.zero_le _, rfl, by simpa using h, Kp.refl _ _, by simpa using Fresh.refl w (.slice a L.length cap)⟩
  case round =>
    obtain ⟨j, a1, cap1, hjp, rfl, hr, hkr, hfr⟩ := hrel
    have hlen : (L ++ List.replicate j false).length = L.length + j := by simp
    have hp8 : p ≤ 7 := by have := HP.out; omega
    have hlt1 : (L ++ List.replicate j false).length + 1 ≤ 140737488355328 := by omega
    have HB : Hid (L ++ List.replicate (j + 1) false = (L ++ List.replicate j false) ++ [false]) := by show _ = _; rw [List.replicate_succ', List.append_assoc]
    obtain ⟨M, hM⟩ : ∃ M, M = L ++ List.replicate j false := ⟨_, rfl⟩
    have HM : Hid (M = L ++ List.replicate j false) := hM
    rw [← hM] at hr hfr hlt1 HB hlen
    have hd0 := hr.cell0
    have hdf0 := hr.free 0
    have hltr := hr.b_lt
    have hown1 := hr.own
    have hbase := hr.bB
    have hne := hr.ne
    by_cases hlt : j < p
    · have hm : ((M.length : Int) % 8 != 0) = true := by
        have := HP.out
        rw [bne_iff_ne]; omega
      clear hM hlen
      go_wp2_with (at_builtin; refine wpList_app1 rfl _ _ 65 rfl B 4 i0 (.bool false) 1 Tryz.underlying65 hi hz0 hz1 hz2 rfl wr (.bool false) rfl hown1 rfl rfl (by omega) (by omega) hbase ?_; intro g2 c2 w2 hown2 hg2 hfr2; have hpu := hr.pushed1 hown2 hg2 hfr2; have hx0 := (hg2.cell_far ⟨b, 0, none⟩ hltr (Ne.symm hne)).trans hd0; have hxf := (hg2.frozen_far ⟨b, 0, none⟩ hltr (Ne.symm hne)).trans hdf0)
      go_roundw
      case rel => exact ⟨j + 1, _, c2, by omega, by go_num, by rw [HB.out]; exact hpu.1, hkr.trans hpu.2.1 (fun j hj e => ws_back hfr hj e), by rw [HB.out]; exact hfr.trans hpu.2.2 hkr.size⟩
      case measure => simp [intOf]; omega
    · have hm : (M.length : Int) % 8 = 0 := by
        have := HP.out
        omega
      have HJ : Hid (j = p) := by show _ = _; omega
      clear hM hlen hlt hjp
      go_wp2
      go_ret
      have hMp : M = alignL L := by rw [HM.out, HA.out, HJ.out]
      rw [← hMp, ← HJ.out]
      exact ⟨rfl, _, ⟨a1, cap1, rfl, hr⟩, hkr, hfr⟩

theorem RwL.far {w : World} {b B N : Nat} {v : Value} {L : List Bool} (h : RwL w b B v L) (h1 : N ≤ b) (h2 : N ≤ B) {g : Nat} (hg : g < N) : ¬ WS b v g := by
  rintro (e | e)
  · omega
  · have := (h.own_lt g e).1; omega
theorem RwL.below {w w' : World} {b B N : Nat} {v : Value} {L : List Bool} (h : RwL w b B v L) (hk : Kp (WS b v) w w') (h1 : N ≤ b) (h2 : N ≤ B) : Below N w w' :=
  hk.below (fun i e => by
    rcases e with e | e
    · omega
    · have := (h.own_lt i e).1; omega) (by have := h.b_lt; omega)

set_option maxRecDepth 100000 in
set_option maxHeartbeats 1000000 in
theorem rwhole_any (b B : Nat) (v : Value) (L : List Bool) (pa : Option Addr) (p : List Int) (pc : Nat) (w : World) (h : RwL w b B v L) (hs : Seg w pa p) (hfar : ∀ g off, pa = some ⟨g, off, none⟩ → 0 < p.length → g < b ∧ g < B)
    (hl : L.length + 8 * p.length ≤ 140737488355200) :
    Calls Tryz.prog 59 #[.pointer (some ⟨b, 0, none⟩), .slice pa p.length pc] w fun e w' => e = .returned (.tuple #[]) ∧ ∃ v', RwL w' b B v' (alignL L ++ bB p) ∧ Kp (WS b v) w w' ∧ Fresh w v v' := by
  have C := rwalign_any b B v L w h (by omega)
  have hlA := alignL_len L
  have hpad : padN L.length < 8 := by unfold padN; omega
  have hAl : (alignL L).length ≤ L.length + 7 := by omega
  have far : ∀ {W : World} {v : Value} {L : List Bool}, RwL W b B v L → ∀ g off, pa = some ⟨g, off, none⟩ → 0 < p.length → ¬ WS b v g := by
    intro W v L hW g off e hp
    have hg := hfar g off e hp
    rintro (e2 | e2)
    · omega
    · have := (hW.own_lt g e2).1; omega
  have HF : Hid (∀ {W : World} {v : Value} {L : List Bool}, RwL W b B v L → ∀ g off, pa = some ⟨g, off, none⟩ → 0 < p.length → ¬ WS b v g) := far
  clear hlA far hfar
  generalize alignL L = A at *
  go_enter Tryz.func59, Tryz.ntmps59
  go_wp2_with fail
  refine C.mono ?_
  rintro e w1 ⟨rfl, v1, g1, k1, f1⟩
  have s1 : Seg w1 pa p := hs.kp k1 (HF.out h)
  clear C
  go_wp2
  go_loopw [10] (fun ti wr => ∃ (i : Nat) (v5 : Value), i ≤ p.length ∧ ti = .int .i64 (i : Int) ∧ RwL wr b B v5 (A ++ bB (p.take i)) ∧ Seg wr pa p ∧ Kp (WS b v) w wr ∧ Fresh w v v5) (fun ti _ => p.length - (intOf ti).toNat)
  case atStart => exact ⟨0, v1, Nat.zero_le _, rfl, by simpa [bB] using g1, s1, k1, f1⟩
  case round =>
    obtain ⟨i, v5, hi, rfl, q2, qs, qk, qf⟩ := hrel
    clear g1 s1 k1 f1
    by_cases hlt : i < p.length
    · have hlt2 : (i : Int) < (p.length : Int) := by omega
      have s2 := qs
      obtain ⟨g, off, rfl, hcell⟩ := qs.at_ i hlt
      have hz := qs.bd i
      have HT : Hid (bB (p.take (i + 1)) = bB (p.take i) ++ bN (p.getD i 0).toNat 8) := by
        show _ = _
        rw [List.take_succ_eq_append_getElem hlt, bB_append, bB_one]
        simp [List.getD, hlt]
      have hlen : (A ++ bB (p.take i)).length = A.length + 8 * i := by rw [List.length_append, bB_len, List.length_take]; omega
      have C := rput_ok b B v5 (A ++ bB (p.take i)) (p.getD i 0).toNat 8 wr q2 (by omega) (by decide) (by omega)
      rw [Int.toNat_of_nonneg hz.1] at C
      clear hlen
      generalize p.getD i 0 = z at *
      go_wp2_with fail
      refine C.mono ?_
      rintro e wD ⟨rfl, v6, g6, k6, f6⟩
      have sD := s2.kp k6 (HF.out q2)
      go_wp2
      go_roundw
      case rel => exact ⟨i + 1, v6, by omega, by go_num, by rw [HT.out, ← List.append_assoc]; exact g6, sD, qk.trans k6 (fun j hj e => ws_back qf hj e), qf.trans f6 qk.size⟩
      case measure => simp [intOf]; omega
    · have HI : Hid (i = p.length) := by show _ = _; omega
      have hge : (p.length : Int) ≤ (i : Int) := by omega
      clear hlt hi
      go_wp2
      go_end0
      rw [HI.out, List.take_length] at q2
      exact ⟨rfl, v5, q2, qk, qf⟩

/-! The bits as bytes, one bit after the other. -/
def accB (L : List Bool) (i : Nat) : List Int := (List.range ((L.length + 7) / 8)).map fun j => (num (((L.take i).drop (8 * j)).take 8) : Int)
theorem accB_len (L : List Bool) (i : Nat) : (accB L i).length = (L.length + 7) / 8 := by simp [accB]
theorem accB_get (L : List Bool) (i j : Nat) (h : j < (L.length + 7) / 8) : (accB L i)[j]? = some (num (((L.take i).drop (8 * j)).take 8) : Int) := by simp [accB, h]
theorem accB_end (L : List Bool) : accB L L.length = toB L := by
  apply List.ext_getElem?
  intro j
  by_cases h : j < (L.length + 7) / 8
  · rw [accB_get _ _ _ h, toB_get _ _ (by rw [toB_len]; exact h), List.take_length]
  · rw [List.getElem?_eq_none (by rw [accB_len]; omega), List.getElem?_eq_none (by rw [toB_len]; omega)]
theorem accB_zero (L : List Bool) : accB L 0 = List.replicate ((L.length + 7) / 8) 0 := by
  apply List.ext_getElem?
  intro j
  by_cases h : j < (L.length + 7) / 8
  · rw [accB_get _ _ _ h]
    simp [num, h]
  · rw [List.getElem?_eq_none (by rw [accB_len]; omega), List.getElem?_eq_none (by simp; omega)]
theorem accB_bd (L : List Bool) (i : Nat) : ∀ z ∈ accB L i, 0 ≤ z ∧ z ≤ 255 := by
  intro z hz
  simp only [accB, List.mem_map] at hz
  obtain ⟨j, _, rfl⟩ := hz
  have h1 := num_lt (((L.take i).drop (8 * j)).take 8)
  have h2 : (2 : Nat) ^ (((L.take i).drop (8 * j)).take 8).length ≤ 2 ^ 8 := Nat.pow_le_pow_right (by decide) (by simp; omega)
  omega
theorem piece_same (L : List Bool) (i j : Nat) (hi : i < L.length) (hj : j ≠ i / 8) : ((L.take (i + 1)).drop (8 * j)).take 8 = ((L.take i).drop (8 * j)).take 8 := by
  rw [List.take_succ_eq_append_getElem hi]
  by_cases h : 8 * j ≤ i
  · have h8 : 8 * j + 8 ≤ i := by omega
    rw [List.drop_append_of_le_length (by simp; omega), List.take_append_of_le_length (by simp; omega)]
  · rw [List.drop_of_length_le (by simp; omega), List.drop_of_length_le (by simp; omega)]
theorem piece_next (L : List Bool) (i : Nat) (hi : i < L.length) : num (((L.take (i + 1)).drop (8 * (i / 8))).take 8) = num (((L.take i).drop (8 * (i / 8))).take 8) + 2 ^ (i % 8) * (L[i]).toNat ∧ (((L.take i).drop (8 * (i / 8))).take 8).length = i % 8 := by
  have hl : (((L.take i).drop (8 * (i / 8))).take 8).length = i % 8 := by simp; omega
  refine ⟨?_, hl⟩
  rw [List.take_succ_eq_append_getElem hi, List.drop_append_of_le_length (by simp; omega)]
  rw [List.take_of_length_le (by simp; omega), ← List.take_of_length_le (l := (L.take i).drop (8 * (i / 8))) (i := 8) (by simp; omega), num_snoc, hl, List.take_take, Nat.min_self]
theorem accB_next (L : List Bool) (i : Nat) (hi : i < L.length) (z : Int) (hz : z = (num (((L.take i).drop (8 * (i / 8))).take 8) : Int)) : accB L (i + 1) = (accB L i).set (i / 8) (z + ((2 ^ (i % 8) * (L[i]).toNat : Nat) : Int)) := by
  apply List.ext_getElem?
  intro j
  by_cases h : j < (L.length + 7) / 8
  · rw [accB_get _ _ _ h]
    by_cases hj : j = i / 8
    · subst hj
      rw [List.getElem?_set_self (by rw [accB_len]; exact h), (piece_next L i hi).1, hz]
      simp
    · rw [List.getElem?_set_ne (by omega), accB_get _ _ _ h, piece_same L i j hi hj]
  · rw [List.getElem?_eq_none (by rw [accB_len]; omega), List.getElem?_eq_none (by rw [List.length_set, accB_len]; omega)]
theorem accB_same (L : List Bool) (i : Nat) (hi : i < L.length) (hb : L[i] = false) : accB L (i + 1) = accB L i := by
  apply List.ext_getElem?
  intro j
  by_cases h : j < (L.length + 7) / 8
  · rw [accB_get _ _ _ h, accB_get _ _ _ h]
    by_cases hj : j = i / 8
    · subst hj
      rw [(piece_next L i hi).1, hb]
      simp
    · rw [piece_same L i j hi hj]
  · rw [List.getElem?_eq_none (by rw [accB_len]; omega), List.getElem?_eq_none (by rw [accB_len]; omega)]
theorem add_bit8 {z r : Nat} (hz : z < 2 ^ r) (hr : r < 8) : IntKind.u8.wrap ((z : Int) + IntKind.u8.wrap (2 ^ r)) = ((z + 2 ^ r : Nat) : Int) ∧ ((z : Int) + 2 ^ r) % 256 = ((z + 2 ^ r : Nat) : Int) := by
  have h1 : 2 ^ r ≤ 2 ^ 7 := Nat.pow_le_pow_right (by decide) (by omega)
  rw [show (2 : Int) ^ r = ((2 ^ r : Nat) : Int) by simp]
  generalize 2 ^ r = p at *
  rw [IntKind.wrap_u8, IntKind.wrap_u8]
  constructor <;> omega

theorem info_u8y : (Tryz.prog.info? 5).map (fun i => (i.zero, i.size, i.bytes)) = some (some (.int .u8 0), 1, 1) := by kernel_rfl
theorem made_noughts (n : Nat) : madeCells #[.int .u8 0] n = ((List.replicate n (0 : Int)).map (Value.int .u8)).toArray := by
  apply Array.toList_inj.1
  rw [toList_madeCells_one]
  simp
theorem run_make_noughts (n : Nat) (h : n ≤ 140737488355328) (w : World) :
    (Instr.makeSlice 59 (.int .i64 (n : Int)) (.int .i64 (n : Int))).run Tryz.prog w = .ok (.slice (some ⟨w.heap.size, 0, none⟩) n n) (w.alloc (.cells ((List.replicate n (0 : Int)).map (Value.int .u8)).toArray 5)) := by
  rw [← made_noughts]
  exact run_make_row' 59 5 (.int .u8 0) 1 Tryz.underlying59 info_u8y rfl .i64 .i64 n (by omega) (by omega) w
theorem made_row (w : World) (zs : List Int) (e : TypeId) (h : zs.length ≤ 140737488355328) : (w.alloc (.cells (zs.map (Value.int .u8)).toArray e)).ownsRow w.heap.size e 1 (.slice (some ⟨w.heap.size, 0, none⟩) zs.length zs.length) zs.length (zs.map (Value.int .u8)) := by
  refine ⟨by simp, .inr ⟨w.heap.size, zs.length, (zs.map (Value.int .u8)).toArray, rfl, Nat.le_refl _, heap_alloc_new w _, Nat.le_refl _, ?_, by simp, ?_⟩⟩
  · unfold maxLen
    omega
  · simp only [Nat.mul_one]
    exact List.take_of_length_le (by simp)

set_option maxRecDepth 100000 in
set_option maxHeartbeats 2000000 in
theorem rbytes_any (b B : Nat) (v : Value) (L : List Bool) (w : World) (h : RwL w b B v L) (hl : L.length ≤ 140737488355264) :
    Calls Tryz.prog 40 #[.pointer (some ⟨b, 0, none⟩)] w fun e w' => ∃ a' c', e = .returned (.slice a' (toB L).length c') ∧ w'.ownsRow w.heap.size 5 1 (.slice a' (toB L).length c') (toB L).length ((toB L).map (Value.int .u8)) ∧ Below w.heap.size w w' := by
  obtain ⟨a, cap, rfl, h⟩ := h
  have hn : ((L.length : Int) + 7) / 8 = (((L.length + 7) / 8 : Nat) : Int) := by omega
  obtain ⟨n, hnn⟩ : ∃ n, n = (L.length + 7) / 8 := ⟨_, rfl⟩
  rw [← hnn] at hn
  have hmk := run_make_noughts n (by omega) w
  have hown0 := made_row w (List.replicate n (0 : Int)) 5 (by simp; omega)
  have hacc : accB L 0 = List.replicate n 0 := by rw [accB_zero, ← hnn]
  rw [List.length_replicate, ← hacc] at hown0
  rw [← hacc] at hmk
  have hc0 := h.cell0
  have hlt := h.b_lt
  have HG : Hid (b < w.heap.size) := hlt
  have hB0 : Below w.heap.size w (w.alloc (.cells ((accB L 0).map (Value.int .u8)).toArray 5)) := (Below.refl _ _).alloc (Nat.le_refl _) _
  have hsB := h.seg
  have HNN : Hid (n = (L.length + 7) / 8) := hnn
  have hnle : n ≤ 140737488355328 := by omega
  have hc1 : ∀ o, (w.alloc o).cell? ⟨b, 0, none⟩ = some (.slice a L.length cap) := fun o => (((Below.refl w.heap.size w).alloc (Nat.le_refl _) o).cell (p := ⟨b, 0, none⟩) hlt).trans hc0
  have hacc0 : Hid (accB L 0 = List.replicate n 0) := hacc
  clear hnn hacc
  generalize hA0 : accB L 0 = A0 at *
  have HA0 : Hid (accB L 0 = A0) := hA0
  clear hA0
  go_enter Tryz.func40, Tryz.ntmps40
  go_wp2
  clear hmk hc1 hn
  generalize hg : w.heap.size = g at *
  generalize w.alloc (.cells (A0.map (Value.int .u8)).toArray 5) = w0 at *
  go_loopw [19] (fun ti wr => ∃ i : Nat, i ≤ L.length ∧ ti = .int .i64 (i : Int) ∧ wr.ownsRow g 5 1 (.slice (some ⟨g, 0, none⟩) n n) n ((accB L i).map (Value.int .u8)) ∧ Below g w wr) (fun ti _ => L.length - (intOf ti).toNat)
  case atStart => exact ⟨0, Nat.zero_le _, rfl, by rw [HA0.out]; exact hown0, hB0⟩
  case round =>
    obtain ⟨i, hi, rfl, hown, hT⟩ := hrel
    by_cases hlt2 : i < L.length
    · have hltI : (i : Int) < (L.length : Int) := by omega
      have hsr : SegB wr a L := hsB.old (by rw [hg]; exact hT)
      obtain ⟨sb, so, rfl, hcell⟩ := hsr.at_ i hlt2
      have hgd : L.getD i false = L[i] := by simp [List.getD, hlt2]
      rw [hgd] at hcell
      have hpn := piece_next L i hlt2
      have hnx := accB_next L i hlt2 _ rfl
      have hpl := num_lt (((L.take i).drop (8 * (i / 8))).take 8)
      rw [hpn.2] at hpl
      have hq8 : i / 8 < n := by have := HNN.out; omega
      have hag := accB_get L i (i / 8) (by have := HNN.out; omega)
      obtain ⟨hlo, hce⟩ : wr.frozen? ⟨g, i / 8, none⟩ = false ∧ wr.cell? ⟨g, i / 8, none⟩ = some (.int .u8 (num (((L.take i).drop (8 * (i / 8))).take 8) : Int)) := by
        constructor
        · rcases hown.2 with ⟨e0, _⟩ | ⟨g', cp, cur, e0, _, hh, _⟩
          · cases e0
          · cases e0
            simp [World.frozen?, hh]
        · have := hown.cells (g := g) rfl (i / 8) (.int .u8 (num (((L.take i).drop (8 * (i / 8))).take 8) : Int)) (by rw [List.getElem?_map, hag]; rfl)
          have hadd : (⟨g, 0, none⟩ : Addr).add (i / 8) = ⟨g, i / 8, none⟩ := by unfold Addr.add; split <;> simp_all
          rw [hadd] at this
          exact this
      have hst := hown.stored (i / 8) (.int .u8 (((num (((L.take i).drop (8 * (i / 8))).take 8) + 2 ^ (i % 8) : Nat)) : Int))
      have HAD : Hid (((num (((L.take i).drop (8 * (i / 8))).take 8) : Int) + 2 ^ (i % 8)) % 256 = ((num (((L.take i).drop (8 * (i / 8))).take 8) + 2 ^ (i % 8) : Nat) : Int)) := (add_bit8 hpl (Nat.mod_lt _ (by decide))).2
      have hqI : (i : Int) / 8 = ((i / 8 : Nat) : Int) := by omega
      have hrI : (i : Int) % 8 = ((i % 8 : Nat) : Int) := by omega
      have hr8 : i % 8 < 8 := Nat.mod_lt _ (by decide)
      have hz8 : num (((L.take i).drop (8 * (i / 8))).take 8) < 256 := by
        have : 2 ^ (i % 8) ≤ 2 ^ 8 := Nat.pow_le_pow_right (by decide) (by omega)
        omega
      have HNX : Hid (accB L (i + 1) = (accB L i).set (i / 8) ((num (((L.take i).drop (8 * (i / 8))).take 8) : Int) + ((2 ^ (i % 8) * (L[i]).toNat : Nat) : Int))) := hnx
      have HSM : Hid (L[i] = false → accB L (i + 1) = accB L i) := accB_same L i hlt2
      clear hag hsr hpn hnx hpl hgd
      generalize num (((L.take i).drop (8 * (i / 8))).take 8) = z at *
      generalize i / 8 = q at *
      generalize i % 8 = r at *
      cases hb : L[i]
      · rw [hb] at hcell
        have HSM2 : Hid (accB L (i + 1) = accB L i) := HSM.out hb
        clear hb HNX HSM hst
        go_wp2
        go_roundw
        case rel => exact ⟨i + 1, by omega, by go_num, by rw [HSM2.out]; exact hown, hT⟩
        case measure => simp [intOf]; omega
      · rw [hb] at hcell HNX
        clear hb HSM
        go_wp2
        go_region
        rw [HAD.out]
        have hT2 : Below g w ((wr.setCell ⟨g, q, none⟩ (.int .u8 ((z + 2 ^ r : Nat) : Int))).drew) := (hT.trans ((Below.refl _ _).grown hst.2 (by rw [← hg]; exact hT.size) (by intro k e; cases e; exact Nat.le_refl _))).drew
        have ho2 : ((wr.setCell ⟨g, q, none⟩ (.int .u8 ((z + 2 ^ r : Nat) : Int))).drew).ownsRow g 5 1 (.slice (some ⟨g, 0, none⟩) n n) n ((accB L (i + 1)).map (Value.int .u8)) := by
          rw [HNX.out, List.map_set]
          have := (hst.1).drew
          simpa using this
        generalize (wr.setCell ⟨g, q, none⟩ (.int .u8 ((z + 2 ^ r : Nat) : Int))).drew = w3 at *
        clear hst hce hlo hcell
        go_wp2
        go_roundw
        case rel => exact ⟨i + 1, by omega, by go_num, ho2, hT2⟩
        case measure => simp [intOf]; omega
    · have HI : Hid (i = L.length) := by show _ = _; omega
      have hge : (L.length : Int) ≤ (i : Int) := by omega
      clear hlt2 hi
      go_wp2
      go_ret
      have hTL : (toB L).length = n := by rw [toB_len, HNN.out]
      rw [HI.out, accB_end] at hown
      rw [hTL]
      subst hg
      exact ⟨_, n, rfl, hown, hT⟩
end Go.Proofs.YtcifalelnfeggaaGreatDoor

namespace Go.Proofs.YtcifalelnfeggaaGreatDoor
open Go.RowKit
set_option linter.unusedVariables false

/-- Bits that lie somewhere, behind a row. -/
theorem wpList_appB {P : Program} {ops : Array Oper} {rest : List Oper} {o : Oper} {a : Act} {Q : Exit → Act → World → Prop} (hgd : o.guard = none) (s x : Operand) (t : TypeId)
    (ho : o.op = .call { callee := .builtin .append, args := #[s, x], argTypes := #[t, t] })
    (base : Nat) (e : TypeId) (i : TypeInfo) (z : Value) (bytes : Nat) (ht : P.underlying t = some (.slice e)) (hi : P.info? e = some i) (hz : i.zero = some z)
    (hsize : i.size = 1) (hby : i.bytes = bytes) (hzs : z.cells.size = 1)
    {w : World} {ra : Option Addr} {rc : Nat} {n : Nat} {xs : List Value} (hown : w.ownsRow base e 1 (.slice ra n rc) n xs) {ao : Option Addr} {zs : List Bool} {cap : Nat} (hseg : SegB w ao zs) (hnil : ao = none → cap = 0)
    (hs : a.eval s = .slice ra n rc) (hx : a.eval x = .slice ao zs.length cap)
    (h63 : n + zs.length ≤ 140737488355328) (hbytes : (n + zs.length) * bytes ≤ 140737488355328) (hbase : base ≤ w.heap.size)
    (h : ∀ (b : Option Addr) (c : Nat) (w' : World), w'.ownsRow base e 1 (.slice b (n + zs.length) c) (n + zs.length) (xs ++ zs.map Value.bool) → w.grownBy w' (Value.slice ra n rc).ownBlock → Fresh w (.slice ra n rc) (.slice b (n + zs.length) c) → wpList P ops Q rest (a.put o.dst (.slice b (n + zs.length) c)) w') : wpList P ops Q (o :: rest) a w := by
  cases ao with
  | none =>
    have hz : zs = [] := by
      cases zs with
      | nil => rfl
      | cons z r => obtain ⟨b, off, hx, _⟩ := hseg.at_ 0 (by simp); cases hx
    subst hz
    rw [hnil rfl] at hx
    refine wpList_append_own_none hgd s x t ho base e i 1 ht hi _ n xs hs hown hx ?_
    have := h ra rc w (by simpa using hown) (World.grownBy.refl _ _) (fun k hk => .inl hk)
    simpa using this
  | some ad =>
    exact wpList_app hgd s x t ho base e i z bytes ht hi hz hsize hby hzs hown (by simp) (segB_cells hseg) (bools_oneCell _) hs hx h63 hbytes hbase (fun b c w' h1 h2 h3 _ => h b c w' h1 h2 h3)
theorem RB.set1 {w : World} {b B : Nat} {T : TypeId} {x : Value} {a : Option Addr} {cap : Nat} {L : List Bool} (h : RB w b B T [x] a cap L) (u : Value) : RB (w.setCell ⟨b, 1, none⟩ u) b B T [u] a cap L ∧ Kp (fun j => j = b) w (w.setCell ⟨b, 1, none⟩ u) := by
  have hk : Kp (fun j => j = b) w (w.setCell ⟨b, 1, none⟩ u) := Kp.set (S := fun j => j = b) rfl _
  refine ⟨⟨?_, own_kp h.own hk (fun j e1 e2 => h.ne (e2 ▸ e1)), h.ne, Nat.le_trans h.bB hk.size⟩, hk⟩
  have hp : w.heap[b]? = some (.cells #[.slice a L.length cap, x] T (0, 0)) := h.hp
  exact two_set1 hp u
/-- A row that was made anew is laid into the first cell, and a number into the second. -/
theorem RB.renew {w w2 : World} {b B : Nat} {T : TypeId} {x : Value} {a a' : Option Addr} {cap cap' : Nat} {L M : List Bool} {o : Obj} (h : RB w b B T [x] a cap L) (u : Value)
    (hown : w2.ownsRow w.heap.size 4 1 (.slice a' (0 + M.length) cap') (0 + M.length) ([] ++ M.map Value.bool)) (hg : (w.alloc o).grownBy w2 (some w.heap.size)) (hf : Fresh (w.alloc o) (.slice (some ⟨w.heap.size, 0, none⟩) 0 0) (.slice a' (0 + M.length) cap')) :
    RB ((w2.setCell ⟨b, 0, none⟩ (.slice a' M.length cap')).setCell ⟨b, 1, none⟩ u) b B T [u] a' cap' M ∧ Kp (WS b (.slice a L.length cap)) w ((w2.setCell ⟨b, 0, none⟩ (.slice a' M.length cap')).setCell ⟨b, 1, none⟩ u) ∧ Fresh w (.slice a L.length cap) (.slice a' M.length cap') := by
  rw [Nat.zero_add] at hown hf
  have hk : Kp (fun k => (Value.slice a L.length cap).ownBlock = some k) w w2 := by
    have h1 : Kp (fun k => w.heap.size ≤ k) w w2 := (Kp.alloc w o).trans (Kp.grown (S := fun k => w.heap.size ≤ k) hg (by intro i e; cases e; exact Nat.le_refl _)) (fun _ _ e => e)
    exact h1.mono (fun i hi e => by omega)
  have hf2 : Fresh w (.slice a L.length cap) (.slice a' M.length cap') := by
    intro k e
    right
    rcases hf k e with e | e
    · cases e; exact Nat.le_refl _
    · simp at e; omega
  have hs := h.store hk (own_base (by simpa using hown) h.bB) hf2
  have h1 := hs.1.set1 u
  exact ⟨h1.1, hs.2.1.trans h1.2 (fun j _ e => .inl e), hf2⟩

end Go.Proofs.YtcifalelnfeggaaGreatDoor

namespace Go.Proofs.YtcifalelnfeggaaGreatDoor
open Go.RowKit
set_option linter.unusedVariables false

theorem seg_bool1 (w : World) (y : Bool) : SegB (w.alloc (.cells #[.bool y] 4)) (some ⟨w.heap.size, 0, none⟩) [y] := by
  refine ⟨fun i hi => ⟨w.heap.size, 0, rfl, ?_⟩⟩
  simp only [List.length_cons, List.length_nil] at hi
  match i, hi with
  | 0, _ => simp
theorem and_oneI (v : Nat) : bits .and .i64 (v : Int) 1 = ((v % 2 : Nat) : Int) := by
  have h1 : (BitVec.ofInt 64 1).toNat = 2 ^ 1 - 1 := by decide
  have key : (BitVec.ofInt 64 (v : Int) &&& BitVec.ofInt 64 1).toNat = ((v : Int) % ((2 ^ 64 : Nat) : Int)).toNat % 2 ^ 1 := by
    rw [BitVec.toNat_and, BitVec.toNat_ofInt, h1, Nat.and_two_pow_sub_one_eq_mod]
  show IntKind.i64.wrap ((BitVec.ofInt 64 (v : Int) &&& BitVec.ofInt 64 1).toNat : Nat) = ((v % 2 : Nat) : Int)
  rw [key, IntKind.wrap_i64]
  omega
set_option maxRecDepth 100000 in
set_option maxHeartbeats 1000000 in
theorem row5_any (x k : Nat) (w : World) (hx : x < 32768) (hk : k ≤ 15) :
    Calls Tryz.prog 112 #[.int .i64 (x : Int), .int .i64 (k : Int)] w fun e w' => ∃ a c, e = .returned (.slice a k c) ∧ w'.ownsRow w.heap.size 4 1 (.slice a k c) k ((bN x k).reverse.map Value.bool) ∧ Below w.heap.size w w' := by
  obtain ⟨i0, hi, hz0, hz1, hz2⟩ := info_parts info_b1
  go_enter Tryz.func112, Tryz.ntmps112
  go_wp2_with fail
  go_loopw [5, 6] (fun tl ti wr => ∃ (m : Nat) (a1 : Option Addr) (c1 : Nat), m ≤ k ∧ ti = .int .i64 ((m : Int) - 1) ∧ tl = .slice a1 (k - m) c1 ∧ wr.ownsRow w.heap.size 4 1 (.slice a1 (k - m) c1) (k - m) (((bN x k).reverse.take (k - m)).map Value.bool) ∧ Below w.heap.size w wr) (fun _ ti _ => (intOf ti + 1).toNat)
  case atStart => exact ⟨k, none, 0, Nat.le_refl _, rfl, by rw [Nat.sub_self], by rw [Nat.sub_self, List.take_zero]; exact World.ownsRow_nil _ _ _ _, Below.refl _ _⟩
  case round =>
    obtain ⟨m, a1, c1, hm, rfl, rfl, O1, B1⟩ := hrel
    by_cases hlt : 0 < m
    · obtain ⟨i, rfl⟩ : ∃ i, m = i + 1 := ⟨m - 1, by omega⟩
      have hbs := rev_take x k i (by omega)
      have him : (((i + 1 : Nat) : Int) - 1) = (i : Int) := by omega
      rw [him]
      have HK : Hid (k - (i + 1) + 1 = k - i) := by show _ = _; omega
      have HB : Hid (((bN x k).reverse.take (k - (i + 1))).map Value.bool ++ [x.testBit i].map Value.bool = ((bN x k).reverse.take (k - i)).map Value.bool) := by show _ = _; rw [hbs, List.map_append]
      have hq := shr_nat x i
      have ha := and_oneI (x / 2 ^ i)
      have hb := bit_eq x i
      have hq0 : x / 2 ^ i < 32768 := Nat.lt_of_le_of_lt (Nat.div_le_self _ _) hx
      have hkm : k - (i + 1) ≤ 15 := by omega
      have hi15 : i ≤ 15 := by omega
      have hsz := B1.size
      clear him hbs
      generalize hqq : x / 2 ^ i = q at *
      clear hqq
      have hb2 : q % 2 < 2 := by omega
      generalize q % 2 = bb at *
      generalize x.testBit i = y at *
      generalize k - (i + 1) = r at *
      go_wp2_with (first
        | (at_builtin; refine wpList_appB rfl (.tmp 13) (.tmp 19) 65 rfl w.heap.size 4 i0 (.bool false) 1 Tryz.underlying65 hi hz0 hz1 hz2 rfl (O1.alloc _) (seg_bool1 wr y) (by intro h; cases h) rfl rfl (by simp; omega) (by simp; omega) (by simp; omega) ?_; intro a2 c2 w2 hown2 hg2 hf2; clear hf2))
      have B2 : Below w.heap.size w w2 := (B1.alloc hsz _).trans (below_own (O1.alloc _) hg2 (by simp; omega))
      rw [HB.out, show r + [y].length = k - i from HK.out] at hown2
      refine ⟨⟨i, a2, c2, by omega, rfl, by rw [← HK.out], hown2, B2⟩, ?_⟩
      show (((i : Int) - 1) + 1).toNat < ((i : Int) + 1).toNat
      omega
    · obtain rfl : m = 0 := by omega
      go_wp2_with fail
      go_ret
      rw [Nat.sub_zero, List.take_of_length_le (by rw [rev_len]; omega)] at O1
      exact ⟨a1, c1, by rw [Nat.sub_zero]; rfl, O1, B1⟩

theorem costV_in {zs : List Int} {k : Nat} (hk : k < zs.length) : costV zs k = zs.getD k 0 := by
  unfold costV
  rw [if_pos ⟨by omega, by omega⟩, Int.toNat_natCast]
theorem putB_in {zs : List Int} (h : errC zs = 0) {k : Nat} (hk : k < zs.length) : putB zs k = (bN (cd zs k) (ln zs k)).reverse := by
  have hL := (errS_zero (errC_zero h).1)
  have HLN := hL.2.ln k
  unfold putB
  rw [costV_in hk, HLN.1, Int.toNat_natCast]
  by_cases hz : ln zs k = 0
  · rw [if_pos (by omega), hz]; rfl
  · rw [if_neg (by omega)]; rfl
theorem putB_out {zs : List Int} {s : Int} (h : s < 0 ∨ (zs.length : Int) ≤ s) : putB zs s = [] := by
  have h0 : costV zs s = 0 := by unfold costV; rw [if_neg (by omega)]
  unfold putB
  rw [if_pos h0]
theorem putB_cost {zs : List Int} (h : errC zs = 0) (s : Int) : costV zs s = ((putB zs s).length : Int) := by
  by_cases hs : 0 ≤ s ∧ s < zs.length
  · obtain ⟨k, rfl⟩ : ∃ k : Nat, s = k := ⟨s.toNat, by omega⟩
    rw [putB_in h (by omega), rev_len]
    unfold costV
    rw [if_pos hs, Int.toNat_natCast]
    exact ((errS_zero (errC_zero h).1).2.ln k).1
  · rw [putB_out (by omega)]
    unfold costV
    rw [if_neg hs]
    rfl
theorem putB_err {zs : List Int} (h : errC zs = 0) (s : Int) : errP zs s = if (putB zs s).length = 0 then 53 else 0 := by
  unfold errP
  rw [putB_cost h]
  by_cases hz : (putB zs s).length = 0
  · rw [if_pos (by omega), if_pos hz]
  · rw [if_neg (by omega), if_neg hz]
theorem putB_le {zs : List Int} (h : errC zs = 0) (s : Int) : (putB zs s).length ≤ 15 := by
  by_cases hs : 0 ≤ s ∧ s < zs.length
  · obtain ⟨k, rfl⟩ : ∃ k : Nat, s = k := ⟨s.toNat, by omega⟩
    rw [putB_in h (by omega), rev_len]
    exact ((errS_zero (errC_zero h).1).2.ln k).2
  · rw [putB_out (by omega)]
    simp

set_option maxRecDepth 100000 in
set_option maxHeartbeats 1000000 in
theorem bits5_any (a : Option Addr) (zs : List Int) (n cap : Nat) (hn : Hid (zs.length = n)) (s : Int) (w : World) (hs : SegZ w a zs) (hok : errC zs = 0) (hs0 : -9223372036854775808 ≤ s) (hs1 : s ≤ 9223372036854775807) :
    Calls Tryz.prog 83 #[.slice a n cap, .int .i64 s] w fun e w' => ∃ b c, e = .returned (.slice b (putB zs s).length c) ∧ w'.ownsRow w.heap.size 4 1 (.slice b (putB zs s).length c) (putB zs s).length ((putB zs s).map Value.bool) ∧ Below w.heap.size w w' := by
  have HL := errS_zero (errC_zero hok).1
  have hn288 : n ≤ 288 := by have := hn.out; have := HL.1; omega
  have HC := rcodes_any a zs n cap hn w hs (by omega)
  have e1 : Hid (cdsR zs = cds zs) := by show _ = _; unfold cdsR; rw [if_pos hok]
  have e3 : Hid ((cds zs).length = n) := by show _ = _; rw [cds_len]; exact hn.out
  have HOK : Hid (errC zs = 0) := hok
  by_cases hin : 0 ≤ s ∧ s < n
  · obtain ⟨k, rfl⟩ : ∃ k : Nat, s = k := ⟨s.toNat, by omega⟩
    have hk : k < zs.length := by have := hn.out; omega
    have HP : Hid (putB zs k = (bN (cd zs k) (ln zs k)).reverse) := putB_in hok hk
    have HSM := cd_small hok hk
    have HLN := (HL.2.ln k).1
    have HCB := cds_bd hok
    obtain ⟨g, off, rfl, c0⟩ := hs.at_ k hk
    rw [HLN] at c0
    have hki : (k : Int) < (n : Int) := by omega
    have hin2 : ¬ (n : Int) ≤ (k : Int) := by omega
    have hg : g < w.heap.size := World.block_lt_of_cell? w _ c0
    clear hok HL hin HLN
    rw [HP.out, rev_len]
    go_enter Tryz.func83, Tryz.ntmps83
    go_wp2_with fail
    refine HC.mono ?_
    rintro e w1 ⟨b1, c1, rfl, O1, B1⟩
    rw [e1.out, e3.out] at O1
    rw [e1.out, e3.out, HOK.out]
    have Z1 := own_segZ O1 HCB
    obtain ⟨g1, off1, rfl, d0⟩ := Z1.at_ k (by rw [e3.out]; omega)
    rw [cds_get zs hk] at d0
    have c0 := (B1.cell (p := ⟨g, off + k, none⟩) hg).trans c0
    have R := row5_any (cd zs k) (ln zs k)
    have hcs := HSM.2.2
    have hl15 := HSM.2.1
    clear O1 Z1 HSM
    have hgA : g < w1.heap.size := World.block_lt_of_cell? w1 _ c0
    have hgB : g1 < w1.heap.size := World.block_lt_of_cell? w1 _ d0
    go_wp2_with fail
    go_region_held3 (fun w' => w'.cell? ⟨g, off + k, none⟩ = some (.int .i64 (ln zs k : Int)) ∧ w'.cell? ⟨g1, off1 + k, none⟩ = some (.int .i64 (cd zs k : Int))) (first | go_keep | exact ⟨cA, cB⟩)
      (first | (go_at_call 112; refine (R _ hcs hl15).mono ?_; rintro e w2 ⟨a2, c2, rfl, O2, B2⟩; have cA := (B2.cell (p := ⟨g, off + k, none⟩) hgA).trans c0; have cB := (B2.cell (p := ⟨g1, off1 + k, none⟩) hgB).trans d0))
    all_goals
      go_wp2
      go_ret
      exact ⟨a2, c2, rfl, own_base O2 B1.size, B1.drew.trans (B2.mono B1.size)⟩
  · have HP : Hid (putB zs s = []) := putB_out (by have := hn.out; omega)
    have hcs : s < 0 ∨ ¬ s < 0 ∧ (n : Int) ≤ s := by omega
    clear HL hin hok
    rw [HP.out]
    rcases hcs with h1 | ⟨h1, h2⟩
    all_goals
      go_enter Tryz.func83, Tryz.ntmps83
      go_wp2_with fail
      refine HC.mono ?_
      rintro e w1 ⟨b1, c1, rfl, O1, B1⟩
      rw [e1.out, e3.out, HOK.out]
      clear O1
      go_wp2_with fail
      go_ret
      exact ⟨none, 0, rfl, World.ownsRow_nil _ _ _ _, B1⟩
set_option maxRecDepth 100000 in
theorem put5_made (b N : Nat) (zs : List Int) (s : Int) (w : World) (h : En w b N zs) : Calls Tryz.prog 125 #[.pointer (some ⟨b, 0, none⟩), .pointer none, .int .i64 s] w fun e w' => e = .returned (.int .i64 2) ∧ w' = w := by
  obtain ⟨la, lc, ca, cc, c0, _, _, _, _⟩ := h.cells
  go_enter Tryz.func125, Tryz.ntmps125
  go_wp2_with fail
  go_ret
  exact ⟨rfl, rfl⟩

def EncF (w : World) (zs : List Int) (e : Ending) (w' : World) : Prop := (errC zs = 0 → ∃ b, e = .returned (.tuple #[.pointer (some ⟨b, 0, none⟩), .int .i64 0]) ∧ w.heap.size ≤ b ∧ En w' b w'.heap.size zs ∧ ∀ W, Kp (fun k => k < w.heap.size) w' W → En W b w'.heap.size zs) ∧ (errC zs ≠ 0 → e = .returned (.tuple #[.pointer none, .int .i64 (errC zs)])) ∧ Below w.heap.size w w'
set_option maxRecDepth 100000 in
set_option maxHeartbeats 1000000 in
theorem newEnc_far (a : Option Addr) (zs : List Int) (n cap : Nat) (hn : Hid (zs.length = n)) (w : World) (hs : SegZ w a zs) (hnil : a = none → cap = 0) (hl : n ≤ 9223372036854775807) :
    Calls Tryz.prog 124 #[.slice a n cap] w fun e w' => EncF w zs e w' := by
  have HC := codes_any a zs n cap hn w hs hl
  by_cases hok : errC zs = 0
  · have HOK : Hid (errC zs = 0) := hok
    have HL := errS_zero (errC_zero hok).1
    have hn288 : n ≤ 288 := by have := hn.out; have := HL.1; omega
    clear hok HL
    have HCL : Hid (∀ W, Below w.heap.size w W → Calls Tryz.prog 141 #[.slice a n cap] W fun e w' => ∃ a' c', e = .returned (.slice a' n c') ∧ w'.ownsRow W.heap.size 3 1 (.slice a' n c') n (zs.map (Value.int .i64)) ∧ Below W.heap.size W w') := fun W hW => clone5_any a zs n cap hn W (hs.old hW) hnil (by omega)
    have e1 : Hid (cdsR zs = cds zs) := by show _ = _; unfold cdsR; rw [if_pos HOK.out]
    have e3 : Hid ((cds zs).length = n) := by show _ = _; rw [cds_len]; exact hn.out
    go_enter Tryz.func124, Tryz.ntmps124
    go_wp2_with fail
    refine HC.mono ?_
    rintro e W1 ⟨b1, c1, rfl, O1, B1⟩
    rw [e1.out, e3.out] at O1
    rw [e1.out, e3.out, HOK.out]
    go_wp2_with fail
    refine (HCL.out _ B1).mono ?_
    rintro e W2 ⟨a2, c2, rfl, O2, B2⟩
    have B12 : Below w.heap.size w W2 := B1.trans (B2.mono B1.size)
    have O1b := own_below O1 B2
    go_wp2_with fail
    go_ret2
    have hbl := own_blk O2
    have hbl1 := own_blk O1b
    have hzb : ∀ z ∈ zs, -9223372036854775808 ≤ z ∧ z ≤ 9223372036854775807 := hs.mem
    have HEN : En (W2.alloc (.cells #[.bool true, .slice a2 n c2, .slice b1 n c1] 237)) W2.heap.size (W2.alloc (.cells #[.bool true, .slice a2 n c2, .slice b1 n c1] 237)).heap.size zs := by
      refine ⟨HOK.out, by simp, a2, c2, b1, c1, ?_, ?_, ?_, ?_, ?_⟩
      · rw [hn.out]; exact heap_alloc_new W2 _
      · exact (own_segZ O2 hzb).alloc _
      · exact (own_segZ O1b (cds_bd HOK.out)).alloc _
      · intro x hx
        have := hbl x hx
        simp
        omega
      · intro x hx
        have := hbl1 x hx
        simp
        omega
    refine ⟨fun _ => ⟨W2.heap.size, rfl, B12.size, HEN, fun W hW => ?_⟩, fun h => absurd HOK.out h, B12.alloc B12.size _⟩
    refine ⟨HOK.out, by simp, a2, c2, b1, c1, ?_, ?_, ?_, ?_, ?_⟩
    · rw [hn.out]; exact hW.heap (heap_alloc_new W2 _) (by have := B12.size; omega)
    · exact ((own_segZ O2 hzb).alloc _).kp hW (fun b off e _ => by have := hbl _ e; have := B1.size; simp at *; omega)
    · exact ((own_segZ O1b (cds_bd HOK.out)).alloc _).kp hW (fun b off e _ => by have := hbl1 _ e; simp at *; omega)
    · intro x hx
      have := hbl x hx
      simp
      omega
    · intro x hx
      have := hbl1 x hx
      simp
      omega
  · have HNK : Hid (¬ errC zs = 0) := hok
    have key : ∀ E : Int, E = 50 ∨ E = 51 ∨ E = 52 → errC zs = E → Calls Tryz.prog 124 #[.slice a n cap] w fun e w' => EncF w zs e w' := by
      intro E hE hEE
      have HEE : Hid (errC zs = E) := hEE
      clear hEE hok
      rcases hE with rfl | rfl | rfl
      all_goals
        go_enter Tryz.func124, Tryz.ntmps124
        go_wp2_with fail
        refine HC.mono ?_
        rintro e W1 ⟨b1, c1, rfl, O1, B1⟩
        rw [HEE.out]
        clear O1
        go_wp2_with fail
        go_ret2
        exact ⟨fun h => absurd h HNK.out, fun _ => by rw [HEE.out]; rfl, B1⟩
    rcases errC_cases zs with h | h | h | h
    · exact absurd h hok
    · exact key 50 (.inl rfl) h
    · exact key 51 (.inr (.inl rfl)) h
    · exact key 52 (.inr (.inr rfl)) h
end Go.Proofs.YtcifalelnfeggaaGreatDoor

namespace Go.Proofs.YtcifalelnfeggaaGreatDoor
open Go.RowKit
set_option linter.unusedVariables false

/-! A head's bits; a writer on its way. -/
def szb8 (Z : List Int) : Nat → List Bool
  | 0 => []
  | i + 1 => szb8 Z i ++ bN (Z.getD (ordL.getD i 0).toNat 0).toNat 3
def rnb8 (Z : List Int) : List Rn8 → List Bool
  | [] => []
  | r :: R => (putB Z r.sy ++ bN (r.ct - lst8 r.sy).toNat (mor8 r.sy)) ++ rnb8 Z R
theorem rnb8_app (Z : List Int) (b : List Rn8) : ∀ a, rnb8 Z (a ++ b) = rnb8 Z a ++ rnb8 Z b
  | [] => rfl
  | r :: a => by simp only [List.cons_append, rnb8, rnb8_app Z b a, List.append_assoc]
def hd8 (lit dist : List Int) : List Bool := bN ((sht8 lit 257).length - 257) 5 ++ bN ((sht8 dist 1).length - 1) 5 ++ bN (tol8 (sz8 lit dist) 19 - 4) 4 ++ szb8 (sz8 lit dist) (tol8 (sz8 lit dist) 19) ++ rnb8 (sz8 lit dist) (rs8 lit dist)
theorem szb8_len (Z : List Int) : ∀ k, (szb8 Z k).length = 3 * k
  | 0 => rfl
  | k + 1 => by rw [szb8, List.length_append, szb8_len Z k, bN_len]; omega
theorem mor8_le (s : Int) : mor8 s ≤ 7 := by rcases mor8_in s with h | h | h | h <;> omega
theorem rnb8_len {Z : List Int} (h : errC Z = 0) : ∀ R, (rnb8 Z R).length ≤ 22 * R.length
  | [] => by simp [rnb8]
  | r :: R => by
    have h1 := putB_le h r.sy
    have h2 := mor8_le r.sy
    have h3 := rnb8_len h R
    rw [rnb8, List.length_append, List.length_append, bN_len, List.length_cons]
    omega
theorem ct8_lt {r : Rn8} (h : ok8 r) : (r.ct - lst8 r.sy).toNat < 2 ^ mor8 r.sy := by
  obtain ⟨h1, h2, h3, h4⟩ := h
  rw [grt8_lst r.sy h2] at h4
  have : ((2 : Int) ^ mor8 r.sy) = ((2 ^ mor8 r.sy : Nat) : Int) := by norm_cast
  omega
/-- A writer on its way: what it has, and what is kept. -/
def WrI (W wr : World) (bw B : Nat) (v : Value) (M : List Bool) : Prop := ∃ v', WrL wr bw B v' M ∧ Kp (WS bw v) W wr ∧ Fresh W v v'
theorem WrI.start {W : World} {bw B : Nat} {v : Value} {M : List Bool} (h : WrL W bw B v M) : WrI W W bw B v M := ⟨v, h, Kp.refl _ _, fun k e => .inl e⟩
theorem WrI.size {W wr : World} {bw B : Nat} {v : Value} {M : List Bool} (h : WrI W wr bw B v M) : W.heap.size ≤ wr.heap.size := by
  obtain ⟨v', _, h2, _⟩ := h
  exact h2.size
theorem WrI.kp {W wr : World} {bw B : Nat} {v : Value} {M : List Bool} (h : WrI W wr bw B v M) : Kp (WS bw v) W wr := by
  obtain ⟨v', _, h2, _⟩ := h
  exact h2
theorem WrI.next {W wr w' : World} {bw B : Nat} {v v1 v2 : Value} {M2 : List Bool} (hK : Kp (WS bw v) W wr) (hF : Fresh W v v1) (h : WrL w' bw B v2 M2) (hk : Kp (WS bw v1) wr w') (hf : Fresh wr v1 v2) : WrI W w' bw B v M2 := by
  refine ⟨v2, h, hK.trans (S' := WS bw v1) hk (fun k hlt e => ?_), fun k e => ?_⟩
  · rcases e with e | e
    · exact .inl e
    · rcases hF k e with e2 | e2
      · exact .inr e2
      · omega
  · rcases hf k e with e2 | e2
    · exact hF k e2
    · exact .inr (Nat.le_trans hK.size e2)
theorem kp_of_below {w w' : World} (h : Below w.heap.size w w') (S : Nat → Prop) : Kp S w w' := ⟨h.os, h.tape, h.output, h.size, fun k hk _ => h.block k hk⟩
theorem WrL.below8 {w w' : World} {b B : Nat} {v : Value} {L : List Bool} (h : WrL w b B v L) (hb : Below w.heap.size w w') : WrL w' b B v L := h.kp (kp_of_below hb (fun _ => False)) (fun h => h) (fun _ _ h => h)
theorem WrI.old {W wr w' : World} {bw B : Nat} {v : Value} {M : List Bool} (h : WrI W wr bw B v M) (hb : Below wr.heap.size wr w') : WrI W w' bw B v M := by
  obtain ⟨v', h1, h2, h3⟩ := h
  exact ⟨v', h1.below8 hb, h2.trans (S' := fun _ => False) (kp_of_below hb _) (fun _ _ e => e.elim), h3⟩
def PuQ (W : World) (bw B : Nat) (v : Value) (M : List Bool) (e : Ending) (w' : World) : Prop := e = .returned (.int .i64 0) ∧ WrI W w' bw B v M
/-- Put, on the way. -/
theorem put8 {W wr : World} {bw B : Nat} {v : Value} {M : List Bool} (h : WrI W wr bw B v M) (x k : Nat) (hx : x < 2 ^ k) (hk : k ≤ 56) (hl : M.length ≤ 1125899906842560) :
    Calls Tryz.prog 29 #[.pointer (some ⟨bw, 0, none⟩), .int .u64 (x : Int), .int .i64 (k : Int)] wr (PuQ W bw B v (M ++ bN x k)) := by
  obtain ⟨v', h1, h2, h3⟩ := h
  refine (put_ok bw B v' M x k wr h1 hx hk hl).mono ?_
  rintro e w' ⟨rfl, v2, q1, q2, q3⟩
  exact ⟨rfl, WrI.next h2 h3 q1 q2 q3⟩
def EpQ (W : World) (bw B : Nat) (v : Value) (M : List Bool) (er : Int) (e : Ending) (w' : World) : Prop := e = .returned (.int .i64 er) ∧ WrI W w' bw B v M
/-- An encoder's Put, on the way. -/
theorem eput8 {W wr : World} {bw B b N : Nat} {v : Value} {M : List Bool} {Z : List Int} (s : Int) (h : WrI W wr bw B v M) (hE : En wr b N Z) (hl : M.length ≤ 1125899906842560) :
    Calls Tryz.prog 125 #[.pointer (some ⟨b, 0, none⟩), .pointer (some ⟨bw, 0, none⟩), .int .i64 s] wr (EpQ W bw B v (M ++ putB Z s) (errP Z s)) := by
  obtain ⟨v', h1, h2, h3⟩ := h
  refine (put5_any b N Z s bw B v' M wr hE h1 hl).mono ?_
  rintro e w' ⟨rfl, v2, q1, q2, q3⟩
  exact ⟨rfl, WrI.next h2 h3 q1 q2 q3⟩
end Go.Proofs.YtcifalelnfeggaaGreatDoor

namespace Go.Proofs.YtcifalelnfeggaaGreatDoor
open Go.RowKit
set_option linter.unusedVariables false

/-! The landed head: Write. -/
def WtQ (w : World) (bw B : Nat) (v : Value) (L : List Bool) (lit dist : List Int) (e : Ending) (w' : World) : Prop := e = .returned (.int .i64 (if tld8 errC lit dist then 0 else 80)) ∧ WrI w w' bw B v (L ++ if tld8 errC lit dist then hd8 lit dist else [])
set_option maxRecDepth 100000 in
theorem pwrite_nil8 (a b : Option Addr) (n m ca cb : Nat) (w : World) : Calls Tryz.prog 105 #[.pointer none, .slice a n ca, .slice b m cb] w fun e w' => e = .returned (.int .i64 2) ∧ w' = w := by
  go_enter Tryz.func105, Tryz.ntmps105
  go_wp2_with fail
  go_ret
  exact ⟨rfl, rfl⟩
theorem WrI.drew8 {W wr : World} {bw B : Nat} {v : Value} {M : List Bool} (h : WrI W wr bw B v M) : WrI W wr.drew bw B v M := h.old ((Below.refl wr.heap.size wr).drew)
theorem own_blk28 {w : World} {base n cap : Nat} {e : TypeId} {b : Option Addr} {xs : List Value} (h : w.ownsRow base e 2 (.slice b n cap) n xs) : ∀ x, b = some x → base ≤ x.block := by
  rcases h.2 with ⟨h1, _⟩ | ⟨g, cp, cur, h1, hb, _⟩
  · simp only [Value.slice.injEq] at h1
    intro x e; rw [h1.1] at e; cases e
  · simp only [Value.slice.injEq] at h1
    intro x e; rw [h1.1] at e; cases e; exact hb
theorem WrI.up {w W wr : World} {bw B : Nat} {v : Value} {M : List Bool} (hb : Below w.heap.size w W) (h : WrI W wr bw B v M) : WrI w wr bw B v M := by
  obtain ⟨v', h1, h2, h3⟩ := h
  refine ⟨v', h1, (kp_of_below hb (WS bw v)).trans (S' := WS bw v) h2 (fun _ _ e => e), fun k e => ?_⟩
  rcases h3 k e with e2 | e2
  · exact .inl e2
  · exact .inr (Nat.le_trans hb.size e2)
set_option maxRecDepth 100000 in
set_option maxHeartbeats 4000000 in
theorem pwrite8 (bw B : Nat) (v : Value) (L : List Bool) (lit dist : List Int) (a b : Option Addr) (n m ca cb : Nat) (hn : Hid (lit.length = n)) (hm : Hid (dist.length = m)) (w : World) (hw : WrL w bw B v L) (hL : L.length ≤ 1125899906800000) (hx : SegZ w a lit) (hy : SegZ w b dist) (hca : n ≤ ca) (hcb : m ≤ cb) (T : TabS w) (O : TabO w) (hbw : 2 ≤ bw) (hB : 2 ≤ B) :
    Calls Tryz.prog 105 #[.pointer (some ⟨bw, 0, none⟩), .slice a n ca, .slice b m cb] w (WtQ w bw B v L lit dist) := by
  have CP := pplan8 lit dist a b n m ca cb hn hm w hx hy hca hcb T O
  have HTS : Hid (TabS w) := T
  have HTO : Hid (TabO w) := O
  have HWR : Hid (WrL w bw B v L) := hw
  have hbl := hw.b_lt
  have HOW := hw.own_lt
  clear hx hy T O hw
  by_cases ht : tld8 errC lit dist
  · have hZ := sz8_ok ht
    have hR := runs8_ok (tld8_ok ht).2.2.1
    have hR3 : (rs8 lit dist).length ≤ 320 := by have := (tld8_ok ht).2.2.1.1; unfold rs8; omega
    have hto := tol8_bd (sz8 lit dist) 19 (by omega)
    have HHD : Hid (hd8 lit dist = bN ((sht8 lit 257).length - 257) 5 ++ bN ((sht8 dist 1).length - 1) 5 ++ bN (tol8 (sz8 lit dist) 19 - 4) 4 ++ szb8 (sz8 lit dist) (tol8 (sz8 lit dist) 19) ++ rnb8 (sz8 lit dist) (rs8 lit dist)) := rfl
    obtain ⟨_, _, _, hla, hlb⟩ := tld8_ok ht
    have HQ : Hid (∀ w', WrI w w' bw B v (L ++ hd8 lit dist) → WtQ w bw B v L lit dist (.returned (.int .i64 0)) w') := fun w' h => by
      unfold WtQ
      rw [if_pos ht, if_pos ht]
      exact ⟨rfl, h⟩
    go_enter Tryz.func105, Tryz.ntmps105
    go_wp2_with fail
    refine CP.mono ?_
    rintro e w1 ⟨hyes, _, B1⟩
    obtain ⟨za, zc, ra, rc, rfl, OZ, OR⟩ := hyes ht
    have HOKR : Hid (∀ r ∈ rs8 lit dist, ok8 r) := fun r hr => hR.1 r hr
    clear hyes ht CP hR
    generalize (sht8 lit 257).length = nA at *
    generalize (sht8 dist 1).length = nB at *
    obtain ⟨Z, hZe⟩ : ∃ Z, Z = sz8 lit dist := ⟨_, rfl⟩
    obtain ⟨R, hRe⟩ : ∃ R, R = rs8 lit dist := ⟨_, rfl⟩
    rw [← hZe, ← hRe] at HHD
    rw [← hZe] at hZ hto OZ ⊢
    rw [← hRe] at hZ hR3 OR HOKR ⊢
    clear hZe hRe
    generalize tol8 Z 19 = tq at *
    obtain ⟨kA, rfl⟩ : ∃ kA, nA = kA + 257 := ⟨nA - 257, by omega⟩
    obtain ⟨kB, rfl⟩ : ∃ kB, nB = kB + 1 := ⟨nB - 1, by omega⟩
    obtain ⟨kt, rfl⟩ : ∃ kt, tq = kt + 4 := ⟨tq - 4, by omega⟩
    rw [show kA + 257 - 257 = kA by omega, show kB + 1 - 1 = kB by omega, show kt + 4 - 4 = kt by omega] at HHD
    obtain ⟨nR, hnR⟩ : ∃ nR, nR = R.length := ⟨_, rfl⟩
    have HNR : Hid (R.length = nR) := hnR.symm
    rw [← hnR] at hR3 OR ⊢
    clear hnR
    obtain ⟨zg, rfl, hzc, hzg, hzl⟩ := own_shape1 OZ (by omega)
    obtain ⟨hZC, hZ19, hZb, _⟩ := hZ
    have HZC : Hid (errC Z = 0) := hZC
    have SZ1 : SegZ w1 (some ⟨zg, 0, none⟩) Z := own_segZ OZ (fun z hz => by
      obtain ⟨i, hi, rfl⟩ := List.mem_iff_getElem.1 hz
      have := hZb i (by rw [hZ19] at hi; exact hi)
      simp only [List.getD, List.getElem?_eq_getElem hi, Option.getD_some] at this
      omega)
    have SR1 : SegN w1 ra R := own_segN OR HNR.out
    have hrg : ∀ g o, ra = some ⟨g, o, none⟩ → w.heap.size ≤ g := fun g o e => own_blk28 OR _ e
    obtain ⟨W, hW⟩ : ∃ W, W = w1.alloc (.cells #[.int .i64 ((kA : Int) + 257), .int .i64 ((kB : Int) + 1), .slice (some ⟨zg, 0, none⟩) 19 zc, .int .i64 ((kt : Int) + 4), .slice ra nR rc] 208) := ⟨_, rfl⟩
    have HWE : Hid (w1.alloc (.cells #[.int .i64 ((kA : Int) + 257), .int .i64 ((kB : Int) + 1), .slice (some ⟨zg, 0, none⟩) 19 zc, .int .i64 ((kt : Int) + 4), .slice ra nR rc] 208) = W) := hW.symm
    have BW : Below w1.heap.size w1 W := by rw [hW]; exact below_box8 _ _
    have hPW : W.heap[w1.heap.size]? = some (.cells #[.int .i64 ((kA : Int) + 257), .int .i64 ((kB : Int) + 1), .slice (some ⟨zg, 0, none⟩) 19 zc, .int .i64 ((kt : Int) + 4), .slice ra nR rc] 208 (0, 0)) := by rw [hW]; exact heap_alloc_new _ _
    have hlW : w1.heap.size < W.heap.size := (Array.getElem?_eq_some_iff.1 hPW).1
    obtain ⟨⟨p0, p1, p2, p3, p4⟩, _⟩ := five_cells hPW
    have SZW := SZ1.old BW
    have SRW := SR1.old BW
    have xW : Below w.heap.size w W := B1.trans (BW.mono B1.size)
    have TW : TabS W := SegZ.old HTS.out xW
    have OW : TabO W := SegZ.old HTO.out xW
    have HI0 : WrI W W bw B v L := WrI.start ((show WrL w bw B v L from HWR.out).below8 xW)
    have hPs : w.heap.size ≤ w1.heap.size := B1.size
    -- what stays while the writer writes
    have HK : Hid (∀ wr, Kp (WS bw v) W wr → (wr.cell? ⟨w1.heap.size, 0, none⟩ = some (.int .i64 ((kA : Int) + 257)) ∧ wr.cell? ⟨w1.heap.size, 1, none⟩ = some (.int .i64 ((kB : Int) + 1)) ∧ wr.cell? ⟨w1.heap.size, 2, none⟩ = some (.slice (some ⟨zg, 0, none⟩) 19 zc) ∧ wr.cell? ⟨w1.heap.size, 3, none⟩ = some (.int .i64 ((kt : Int) + 4)) ∧ wr.cell? ⟨w1.heap.size, 4, none⟩ = some (.slice ra nR rc)) ∧ SegZ wr (some ⟨zg, 0, none⟩) Z ∧ SegN wr ra R ∧ TabS wr ∧ TabO wr) := fun wr hk => by
      have hfar : ∀ k, w.heap.size ≤ k → ¬ WS bw v k := fun k hk2 e => by
        rcases e with e | e
        · omega
        · have := (HOW k e).2.1; omega
      have hlow : ∀ k, k < 2 → ¬ WS bw v k := fun k hk2 e => by
        rcases e with e | e
        · omega
        · have := (HOW k e).1; omega
      refine ⟨⟨hk.cellN p0 (hfar w1.heap.size hPs), hk.cellN p1 (hfar w1.heap.size hPs), hk.cellN p2 (hfar w1.heap.size hPs), hk.cellN p3 (hfar w1.heap.size hPs), hk.cellN p4 (hfar w1.heap.size hPs)⟩, SZW.kp hk (fun g o e _ => by cases e; exact hfar _ hzg), SRW.kp hk (fun g o e => hfar _ (hrg g o e)), SegZ.kp TW hk (fun g o e _ => by cases e; exact hlow 0 (by omega)), SegZ.kp OW hk (fun g o e _ => by cases e; exact hlow 1 (by omega))⟩
    clear OZ OR SZ1 SR1 hPW p0 p1 p2 p3 p4 SZW SRW TW OW BW hW
    have HKA : Hid (kA < 2 ^ 5 ∧ kB < 2 ^ 5 ∧ kt < 2 ^ 4) := ⟨by omega, by omega, by omega⟩
    go_wp2_with fail
    rw [HWE.out]
    refine (put8 HI0 kA 5 HKA.out.1 (by omega) (by omega)).mono ?_
    rintro e w2 ⟨rfl, HI1⟩
    obtain ⟨⟨q0, q1, q2, q3, q4⟩, _⟩ := HK.out w2 HI1.kp
    clear HWE HI0
    go_wp2_with fail
    refine (put8 HI1 kB 5 HKA.out.2.1 (by omega) (by simp [bN_len]; omega)).mono ?_
    rintro e w3 ⟨rfl, HI2⟩
    obtain ⟨⟨q0, q1, q2, q3, q4⟩, _⟩ := HK.out w3 HI2.kp
    clear HI1
    go_wp2_with fail
    refine (put8 HI2 kt 4 HKA.out.2.2 (by omega) (by simp [bN_len]; omega)).mono ?_
    rintro e w4 ⟨rfl, HI3⟩
    obtain ⟨⟨q0, q1, q2, q3, q4⟩, _⟩ := HK.out w4 HI3.kp
    clear HI2
    obtain ⟨M3, hM3⟩ : ∃ M3, M3 = L ++ bN kA 5 ++ bN kB 5 ++ bN kt 4 := ⟨_, rfl⟩
    have HM3 : Hid (M3 = L ++ bN kA 5 ++ bN kB 5 ++ bN kt 4) := hM3
    have hM3l : M3.length = L.length + 14 := by rw [hM3]; simp [bN_len]
    rw [← hM3] at HI3
    clear hM3
    go_wp2_with fail
    go_loopw [46] (fun ti wr => ∃ i : Nat, i ≤ kt + 4 ∧ ti = .int .i64 (i : Int) ∧ WrI W wr bw B v (M3 ++ szb8 Z i)) (fun ti _ => kt + 4 - (intOf ti).toNat)
    case atStart => exact ⟨0, by omega, rfl, by rw [szb8, List.append_nil]; exact HI3⟩
    case round =>
      obtain ⟨i, hit, rfl, HI⟩ := hrel
      clear HI3 q0 q1 q2 q3 q4
      obtain ⟨⟨q0, q1, q2, q3, q4⟩, SZ, SR, TS, TO⟩ := HK.out wr HI.kp
      by_cases hlt : i < kt + 4
      · have hlti : (i : Int) < (kt : Int) + 4 := by omega
        have c0 := TabO.at8 TO i (by omega)
        have hob := ord_bd ⟨i, by omega⟩
        simp only at hob
        have KR2 : Hid (∀ w' M, WrI W w' bw B v M → w'.cell? ⟨w1.heap.size, 2, none⟩ = some (.slice (some ⟨zg, 0, none⟩) 19 zc) ∧ w'.cell? ⟨1, i, none⟩ = some (.int .i64 (ordL.getD i 0)) ∧ w'.cell? ⟨zg, (ordL.getD i 0).toNat, none⟩ = some (.int .i64 (Z.getD (ordL.getD i 0).toNat 0))) := fun w' M h => by
          obtain ⟨⟨_, _, r2, _⟩, RZ, _, _, RO⟩ := HK.out w' h.kp
          obtain ⟨zg', off', ez, cz⟩ := RZ.at_ (ordL.getD i 0).toNat (by omega)
          cases ez
          rw [Nat.zero_add] at cz
          exact ⟨r2, TabO.at8 RO i (by omega), cz⟩
        have HSB : Hid (szb8 Z (i + 1) = szb8 Z i ++ bN (Z.getD (ordL.getD i 0).toNat 0).toNat 3) := rfl
        have hl3 := szb8_len Z i
        generalize ordL.getD i 0 = oq at *
        obtain ⟨s, rfl⟩ : ∃ s : Nat, oq = (s : Int) := ⟨oq.toNat, by omega⟩
        rw [Int.toNat_natCast] at HSB KR2
        obtain ⟨zg', off', ez, cz⟩ := SZ.at_ s (by omega)
        cases ez
        rw [Nat.zero_add] at cz
        have hzb := hZb s (by omega)
        generalize Z.getD s 0 = z at *
        obtain ⟨zn, rfl⟩ : ∃ zn : Nat, z = (zn : Int) := ⟨z.toNat, by omega⟩
        rw [Int.toNat_natCast] at HSB
        have hs19 : (s : Int) < 19 := by omega
        have hi19 : (i : Int) < 19 := by omega
        have CPU := put8 (HI.drew8) zn 3 (by omega) (by omega) (by rw [List.length_append, hl3]; omega)
        rw [List.append_assoc, ← HSB.out] at CPU
        have KR : Hid (wr.cell? ⟨w1.heap.size, 2, none⟩ = some (.slice (some ⟨zg, 0, none⟩) 19 zc) ∧ wr.cell? ⟨1, i, none⟩ = some (.int .i64 (s : Int)) ∧ wr.cell? ⟨zg, s, none⟩ = some (.int .i64 (zn : Int))) := ⟨q2, c0, cz⟩
        clear HI SZ SR TS TO q0 q1 q3 q4 HSB
        go_wp2_with fail
        have r2 : wr.drew.cell? ⟨w1.heap.size, 2, none⟩ = some (.slice (some ⟨zg, 0, none⟩) 19 zc) := KR.out.1
        have r3 : wr.drew.cell? ⟨1, i, none⟩ = some (.int .i64 (s : Int)) := KR.out.2.1
        have r4 : wr.drew.cell? ⟨zg, s, none⟩ = some (.int .i64 (zn : Int)) := KR.out.2.2
        have HCV : Hid (IntKind.u64.wrap (zn : Int) = (zn : Int)) := IntWalk.u64_in _ (by omega)
        clear KR KR2 q2 c0 cz HK HOW
        go_region_law (first | (go_simp; go_at_call 29; rw [HCV.out]; refine CPU.mono ?_; rintro e w5 ⟨rfl, HI5⟩))
        all_goals
          go_wp2_with fail
          go_roundw
          case rel => exact ⟨i + 1, by omega, by go_num, HI5⟩
          case measure => simp [intOf]; omega
      · have hge : ¬ (i : Int) < (kt : Int) + 4 := by omega
        obtain rfl : i = kt + 4 := by omega
        have hl3 := szb8_len Z (kt + 4)
        obtain ⟨M4, hM4⟩ : ∃ M4, M4 = M3 ++ szb8 Z (kt + 4) := ⟨_, rfl⟩
        have HM4 : Hid (M4 = M3 ++ szb8 Z (kt + 4)) := hM4
        have hM4l : M4.length ≤ L.length + 80 := by rw [hM4, List.length_append, hl3]; omega
        rw [← hM4] at HI
        clear hM4
        have CE := newEnc_far (some ⟨zg, 0, none⟩) Z 19 zc hZ19 wr SZ (fun h => by cases h) (by omega)
        have hws := HI.size
        generalize wr = w5 at *
        clear SZ SR TS TO
        go_wp2_with fail
        refine CE.mono ?_
        rintro e w6 ⟨hE, _, B6⟩
        obtain ⟨eb, rfl, heb, hEn, hEK⟩ := hE HZC.out
        obtain ⟨v6, hw5, K5, F5⟩ := HI
        have K6 : Kp (WS bw v) W w6 := K5.trans (S' := fun _ => False) (kp_of_below B6 _) (fun _ _ e => e.elim)
        have hw6 := hw5.below8 B6
        have hb5 := hw5.b_lt
        have ho5 := hw5.own_lt
        have HK2 : Hid (∀ wr, Kp (WS bw v6) w6 wr → SegN wr ra R ∧ TabS wr ∧ En wr eb w6.heap.size Z) := fun wr hk => by
          have hk2 : Kp (WS bw v) W wr := K6.trans (S' := WS bw v6) hk (fun k hlt e => by
            rcases e with e | e
            · exact .inl e
            · rcases F5 k e with e2 | e2
              · exact .inr e2
              · omega)
          obtain ⟨_, _, h1, h2, _⟩ := HK.out wr hk2
          refine ⟨h1, h2, hEK wr ((Kp.refl (fun k => k < w5.heap.size) w6).trans (S' := WS bw v6) hk (fun k hlt e => ?_))⟩
          rcases e with e | e
          · omega
          · exact (ho5 k e).2.1
        obtain ⟨⟨r0, r1, r2, r3, r4⟩, _⟩ := HK.out w6 K6
        have HJ : Hid (∀ wr, WrI w6 wr bw B v6 (M4 ++ rnb8 Z R) → WtQ w bw B v L lit dist (.returned (.int .i64 0)) wr) := fun wr h => by
          refine HQ.out wr ?_
          have e : L ++ hd8 lit dist = M4 ++ rnb8 Z R := by
            rw [HHD.out, HM4.out, HM3.out]
            simp only [List.append_assoc]
          rw [e]
          obtain ⟨v7, h1, h2, h3⟩ := h
          exact WrI.up xW (WrI.next K6 F5 h1 h2 h3)
        have HI6 : WrI w6 w6 bw B v6 M4 := WrI.start hw6
        clear hE CE hEK hEn K5 hw5 K6 F5 HK HQ HHD HM3 HM4 r0 r1 r2 r3 hw6 B6 hws
        have hs5 : bw < w6.heap.size := by have := HI6.kp.size; obtain ⟨_, h, _⟩ := HI6; exact h.b_lt
        go_wp2_with fail
        clear r4
        go_loopw [69] (fun ti wr => ∃ i : Nat, i ≤ nR ∧ ti = .int .i64 (i : Int) ∧ WrI w6 wr bw B v6 (M4 ++ rnb8 Z (R.take i))) (fun ti _ => nR - (intOf ti).toNat)
        case atStart => exact ⟨0, by omega, rfl, by rw [List.take_zero, rnb8, List.append_nil]; exact HI6⟩
        case round =>
          obtain ⟨i, hin, rfl, HI⟩ := hrel
          clear HI6
          by_cases hlt : i < nR
          · have hlti : (i : Int) < (nR : Int) := by omega
            have hil : i < R.length := by rw [HNR.out]; exact hlt
            obtain ⟨SR, TS, hEn⟩ := HK2.out wr HI.kp
            obtain ⟨rb, off, rfl, cs, cc⟩ := SR.at_ i hil
            have HTK : Hid (R.take (i + 1) = R.take i ++ [R.getD i ⟨0, 0⟩]) := take_snocN hil
            have hok := HOKR.out (R.getD i ⟨0, 0⟩) (by simp [List.getD, hil])
            have hml : (M4 ++ rnb8 Z (R.take i)).length ≤ L.length + 8000 := by
              have := rnb8_len HZC.out (R.take i)
              rw [List.length_take] at this
              rw [List.length_append]
              omega
            have hctl := ct8_lt hok
            have HRB : Hid (M4 ++ rnb8 Z (R.take (i + 1)) = (M4 ++ rnb8 Z (R.take i)) ++ putB Z (R.getD i ⟨0, 0⟩).sy ++ bN ((R.getD i ⟨0, 0⟩).ct - lst8 (R.getD i ⟨0, 0⟩).sy).toNat (mor8 (R.getD i ⟨0, 0⟩).sy)) := by
              show _ = _
              rw [HTK.out, rnb8_app, rnb8, rnb8, List.append_nil]
              simp only [List.append_assoc]
            generalize M4 ++ rnb8 Z (R.take i) = MM at *
            generalize R.getD i ⟨0, 0⟩ = r at *
            obtain ⟨sy, ct⟩ := r
            simp only [ok8] at cs cc hok hctl HRB
            obtain ⟨s, rfl⟩ : ∃ s : Nat, sy = (s : Int) := ⟨sy.toNat, by omega⟩
            have hs19 : (s : Int) < 19 := by omega
            obtain ⟨v7, h71, h72, h73⟩ := HI
            have hb7 := h71.b_lt
            have ho7 := h71.own_lt
            obtain ⟨wA, hwA⟩ : ∃ wA, wA = wr.alloc (.cells #[.int .i64 (s : Int), .int .i64 ct] 211) := ⟨_, rfl⟩
            have HWA : Hid (wr.alloc (.cells #[.int .i64 (s : Int), .int .i64 ct] 211) = wA) := hwA.symm
            have hA : wA.heap[wr.heap.size]? = some (.cells #[.int .i64 (s : Int), .int .i64 ct] 211 (0, 0)) := by rw [hwA]; exact heap_alloc_new wr _
            have bA : Below wr.heap.size wr wA := by rw [hwA]; exact below_box8 wr _
            have cA0 : wA.cell? ⟨wr.heap.size, 0, none⟩ = some (.int .i64 (s : Int)) := (cell_of_row wA _ 0 _ _ _ hA).trans rfl
            have cA1 : wA.cell? ⟨wr.heap.size, 1, none⟩ = some (.int .i64 ct) := (cell_of_row wA _ 1 _ _ _ hA).trans rfl
            have hEA := hEn.old (bA.mono (by have := h72.size; omega))
            have CE2 := put5_any eb w6.heap.size Z (s : Int) bw B v7 MM wA hEA (h71.below8 bA) (by omega)
            have h72A : Kp (WS bw v6) w6 wA := h72.trans (S' := fun _ => False) (kp_of_below bA _) (fun _ _ e => e.elim)
            clear hwA hA bA SR TS hEn hEA h71 h72
            go_wp2_with fail
            rw [HWA.out]
            refine CE2.mono ?_
            rintro e w7 ⟨rfl, v8, h81, h82, h83⟩
            have hfarA : ¬ WS bw v7 wr.heap.size := fun e => by
              rcases e with e | e
              · omega
              · have := (ho7 _ e).2.1; omega
            have c70 := h82.cellN cA0 hfarA
            have c71 := h82.cellN cA1 hfarA
            obtain ⟨v9, h91, h92, h93⟩ := WrI.next h72A h73 h81 h82 h83
            obtain ⟨_, TS, _⟩ := HK2.out w7 h92
            obtain ⟨t0, t1, t2⟩ := TabS.at8 TS s (by omega)
            have hl1 := lst8_bd (s : Int)
            have hm1 := mor8_le (s : Int)
            have hl7 : (MM ++ putB Z (s : Int)).length ≤ L.length + 9000 := by
              have := putB_le HZC.out (s : Int)
              rw [List.length_append]
              omega
            clear CE2 h81 h82 h83 hfarA cA0 cA1 cs cc TS HWA h72A h73 HTK
            generalize sln8 (s : Int) = x0 at *
            generalize lst8 (s : Int) = x1 at *
            generalize mor8 (s : Int) = mo at *
            obtain ⟨k, rfl⟩ : ∃ k : Nat, ct = x1 + (k : Int) := ⟨(ct - x1).toNat, by omega⟩
            rw [show x1 + (k : Int) - x1 = (k : Int) by omega, Int.toNat_natCast] at hctl HRB
            have hkb : k ≤ 127 := by
              have : 2 ^ mo ≤ 2 ^ 7 := Nat.pow_le_pow_right (by omega) hm1
              omega
            have hlt7 : wr.heap.size < w7.heap.size := World.block_lt_of_cell? w7 _ c70
            have h07 : 0 < w7.heap.size := by omega
            have HI9 : WrI w6 w7 bw B v6 (MM ++ putB Z (s : Int)) := ⟨v9, h91, h92, h93⟩
            have HI10 := HI9.old (below_box8 w7 (.cells #[.int .i64 x0, .int .i64 x1, .int .i64 (mo : Int)] 213))
            have CPU := put8 HI10 k mo hctl (by omega) (by omega)
            rw [← HRB.out] at CPU
            clear HI9 HI10 h91 h92 h93 HRB
            go_wp2_with fail
            rw [show x1 + (k : Int) - x1 = (k : Int) by omega]
            refine CPU.mono ?_
            rintro e w8 ⟨rfl, HI8⟩
            go_wp2_with fail
            go_roundw
            case rel => exact ⟨i + 1, by omega, by go_num, HI8⟩
            case measure => simp [intOf]; omega
          · have hge : ¬ (i : Int) < (nR : Int) := by omega
            have hTA : R.take i = R := List.take_of_length_le (by rw [HNR.out]; omega)
            rw [hTA] at HI
            have HF := HJ.out wr HI
            clear HJ HK2
            go_wp2_with fail
            go_ret
            exact HF
  · have HF : Hid (∀ w', Below w.heap.size w w' → WtQ w bw B v L lit dist (.returned (.int .i64 80)) w') := fun w' hb => by
      unfold WtQ
      rw [if_neg ht, if_neg ht, List.append_nil]
      exact ⟨rfl, (WrI.start HWR.out).old hb⟩
    go_enter Tryz.func105, Tryz.ntmps105
    go_wp2_with fail
    refine CP.mono ?_
    rintro e w1 ⟨_, hno, B1⟩
    obtain rfl := hno ht
    clear CP hno ht
    go_wp2_with fail
    go_ret
    exact HF.out _ (B1.trans ((below_box8 w1 _).mono B1.size))
end Go.Proofs.YtcifalelnfeggaaGreatDoor
