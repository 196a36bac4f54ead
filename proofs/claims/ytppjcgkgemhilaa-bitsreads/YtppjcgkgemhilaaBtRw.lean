import Derived.Test.YtppjcgkgemhilaaBtTwo
import Derived.Deep.RegionLaw
namespace Go.Proofs.Ytppjcgkgemhilaa
open Go.RowKit
set_option linter.unusedVariables false

theorem Fresh.refl (w : World) (v : Value) : Fresh w v v := fun k e => .inl e
theorem info_b1 : (Try.prog.info? 4).map (fun i => (i.zero, i.size, i.bytes)) = some (some (.bool false), 1, 1) := by kernel_rfl

/-- A block whose first cell is a list of bits in a row of its own. -/
structure RB (w : World) (b B : Nat) (T : TypeId) (xs : List Value) (a : Option Addr) (cap : Nat) (L : List Bool) : Prop where
  hp : w.heap[b]? = some (.cells (.slice a L.length cap :: xs).toArray T (0, 0))
  own : w.ownsRow B 4 1 (.slice a L.length cap) L.length (L.map Value.bool)
  ne : (Value.slice a L.length cap).ownBlock ≠ some b
  bB : B ≤ w.heap.size
variable {w w' wr w2 : World} {b B : Nat} {T : TypeId} {xs : List Value} {a : Option Addr} {cap : Nat} {L : List Bool}
theorem RB.b_lt (h : RB w b B T xs a cap L) : b < w.heap.size := (Array.getElem?_eq_some_iff.1 h.hp).1
theorem RB.kp {S : Nat → Prop} (h : RB w b B T xs a cap L) (hk : Kp S w w') (h1 : ¬ S b) (h2 : ∀ k, (Value.slice a L.length cap).ownBlock = some k → ¬ S k) : RB w' b B T xs a cap L :=
  ⟨hk.heap h.hp h1, own_kp h.own hk h2, h.ne, Nat.le_trans h.bB hk.size⟩
theorem RB.cell0 (h : RB w b B T xs a cap L) : w.cell? ⟨b, 0, none⟩ = some (.slice a L.length cap) := by simp [World.cell?, h.hp]
theorem RB.free (h : RB w b B T xs a cap L) (i : Nat) : w.frozen? ⟨b, i, none⟩ = false := by simp [World.frozen?, h.hp]
theorem RB.seg (h : RB w b B T xs a cap L) : SegB w a L := own_segB h.own
theorem RB.own_lt (h : RB w b B T xs a cap L) : ∀ k, (Value.slice a L.length cap).ownBlock = some k → B ≤ k ∧ k < w.heap.size ∧ k ≠ b :=
  fun k e => ⟨(h.own.lt k e).1, (h.own.lt k e).2, fun e2 => h.ne (e2 ▸ e)⟩

/-- A new row is laid into the first cell. -/
theorem RB.store (h : RB wr b B T xs a cap L) {a' : Option Addr} {cap' : Nat} {L' : List Bool} (hk : Kp (fun k => (Value.slice a L.length cap).ownBlock = some k) wr w2)
    (hown : w2.ownsRow B 4 1 (.slice a' L'.length cap') L'.length (L'.map Value.bool)) (hf : Fresh wr (.slice a L.length cap) (.slice a' L'.length cap')) :
    RB (w2.setCell ⟨b, 0, none⟩ (.slice a' L'.length cap')) b B T xs a' cap' L' ∧ Kp (WS b (.slice a L.length cap)) wr (w2.setCell ⟨b, 0, none⟩ (.slice a' L'.length cap')) ∧ Fresh wr (.slice a L.length cap) (.slice a' L'.length cap') := by
  have hp2 : w2.heap[b]? = some (.cells (.slice a L.length cap :: xs).toArray T (0, 0)) := hk.heap h.hp h.ne
  have hne : (Value.slice a' L'.length cap').ownBlock ≠ some b := by
    intro e
    rcases hf b e with e | e
    · exact h.ne e
    · have := h.b_lt; omega
  have hkb : Kp (fun j => j = b) w2 (w2.setCell ⟨b, 0, none⟩ (.slice a' L'.length cap')) := Kp.set (S := fun j => j = b) rfl _
  refine ⟨⟨?_, own_kp hown hkb (fun j e1 e2 => hne (e2 ▸ e1)), hne, Nat.le_trans h.bB (Nat.le_trans hk.size hkb.size)⟩, ?_, hf⟩
  · simp [World.setCell, Array.getElem?_modify, hp2]
  · exact (hk.mono (S' := WS b (.slice a L.length cap)) (fun i _ e => .inr e)).trans hkb (fun i _ e => .inl e)
theorem RB.pushed (h : RB wr b B T xs a cap L) {o : Obj} {gg cap2 : Nat} {y : Bool}
    (hown : w2.ownsRow B 4 1 (.slice (some ⟨gg, 0, none⟩) (L.length + 1) cap2) (L.length + 1) (L.map Value.bool ++ [.bool y]))
    (hgrow : ((wr.alloc o).drew).grownBy w2 (Value.slice a L.length cap).ownBlock) (hat : (Value.slice a L.length cap).ownBlock = some gg ∨ gg = wr.heap.size + 1) :
    RB (w2.setCell ⟨b, 0, none⟩ (.slice (some ⟨gg, 0, none⟩) (L.length + 1) cap2)) b B T xs (some ⟨gg, 0, none⟩) cap2 (L ++ [y]) ∧ Kp (WS b (.slice a L.length cap)) wr (w2.setCell ⟨b, 0, none⟩ (.slice (some ⟨gg, 0, none⟩) (L.length + 1) cap2)) ∧
      Fresh wr (.slice a L.length cap) (.slice (some ⟨gg, 0, none⟩) (L ++ [y]).length cap2) := by
  have hlen : (L ++ [y]).length = L.length + 1 := by simp
  have hk : Kp (fun k => (Value.slice a L.length cap).ownBlock = some k) wr w2 := ((Kp.alloc wr o).drew).trans (Kp.grown (S := fun k => (Value.slice a L.length cap).ownBlock = some k) hgrow (fun i e => e)) (fun _ _ e => e)
  have := h.store (L' := L ++ [y]) (a' := some ⟨gg, 0, none⟩) (cap' := cap2) hk (by rw [hlen]; simpa using hown) (by
    intro k e
    cases e
    rcases hat with e | e
    · exact .inl e
    · right; show wr.heap.size ≤ gg; omega)
  rw [hlen] at this
  simpa using this
theorem RB.pushed1 (h : RB wr b B T xs a cap L) {g2 c2 : Nat} {y : Bool}
    (hown : w2.ownsRow B 4 1 (.slice (some ⟨g2, 0, none⟩) (L.length + 1) c2) (L.length + 1) (L.map Value.bool ++ [.bool y]))
    (hgrow : wr.grownBy w2 (Value.slice a L.length cap).ownBlock) (hf : Fresh wr (.slice a L.length cap) (.slice (some ⟨g2, 0, none⟩) (L.length + 1) c2)) :
    RB (w2.setCell ⟨b, 0, none⟩ (.slice (some ⟨g2, 0, none⟩) (L.length + 1) c2)) b B T xs (some ⟨g2, 0, none⟩) c2 (L ++ [y]) ∧ Kp (WS b (.slice a L.length cap)) wr (w2.setCell ⟨b, 0, none⟩ (.slice (some ⟨g2, 0, none⟩) (L.length + 1) c2)) ∧
      Fresh wr (.slice a L.length cap) (.slice (some ⟨g2, 0, none⟩) (L ++ [y]).length c2) := by
  have hlen : (L ++ [y]).length = L.length + 1 := by simp
  have hk : Kp (fun k => (Value.slice a L.length cap).ownBlock = some k) wr w2 := Kp.grown hgrow (fun i e => e)
  have := h.store (L' := L ++ [y]) (a' := some ⟨g2, 0, none⟩) (cap' := c2) hk (by rw [hlen]; simpa using hown) (by rw [hlen]; exact hf)
  rw [hlen] at this
  simpa using this

/-- The document's Writer with these bits; v: its row. -/
def RwL (w : World) (b B : Nat) (v : Value) (L : List Bool) : Prop := ∃ a cap, v = .slice a L.length cap ∧ RB w b B 32 [] a cap L
theorem RwL.kp {v : Value} {S : Nat → Prop} (h : RwL w b B v L) (hk : Kp S w w') (h1 : ¬ S b) (h2 : ∀ k, v.ownBlock = some k → ¬ S k) : RwL w' b B v L := by
  obtain ⟨a, cap, rfl, h⟩ := h
  exact ⟨a, cap, rfl, h.kp hk h1 h2⟩
theorem RwL.b_lt {v : Value} (h : RwL w b B v L) : b < w.heap.size := by
  obtain ⟨a, cap, rfl, h⟩ := h
  exact h.b_lt
theorem RwL.own_lt {v : Value} (h : RwL w b B v L) : ∀ k, v.ownBlock = some k → B ≤ k ∧ k < w.heap.size ∧ k ≠ b := by
  obtain ⟨a, cap, rfl, h⟩ := h
  exact h.own_lt
theorem RwL.new (h : w.heap[b]? = some (.cells #[.slice none 0 0] 32 (0, 0))) (hB : B ≤ w.heap.size) : RwL w b B (.slice none 0 0) [] :=
  ⟨none, 0, rfl, ⟨h, World.ownsRow_nil _ _ _ _, by simp [Value.ownBlock], hB⟩⟩

set_option maxHeartbeats 2000000 in
theorem rput_ok (b B : Nat) (v : Value) (L : List Bool) (x k : Nat) (w : World) (h : RwL w b B v L) (hx : x < 2 ^ k) (hk : k ≤ 56) (hl : L.length ≤ 140737488355264) :
    Calls Try.prog 26 #[.pointer (some ⟨b, 0, none⟩), .int .u64 (x : Int), .int .i64 (k : Int)] w fun e w' => e = .returned (.int .i64 0) ∧ ∃ v', RwL w' b B v' (L ++ bN x k) ∧ Kp (WS b v) w w' ∧ Fresh w v v' := by
  obtain ⟨i0, hi, hz0, hz1, hz2⟩ := info_parts info_b1
  obtain ⟨a, cap, rfl, h⟩ := h
  have hs0 : (x : Int) / 2 ^ k = 0 := by rw [shr_nat, Nat.div_eq_of_lt hx]; rfl
  have hx2 : x < 18446744073709551616 := by
    have := pow_le_63 (k := k) (by omega)
    omega
  clear hx
  go_enter Try.func26, Try.ntmps26
  go_wp2
  clear hs0
  go_loopw [7] (fun ti wr => ∃ (i : Nat) (a1 : Option Addr) (cap1 : Nat), i ≤ k ∧ ti = .int .i64 (i : Int) ∧ RB wr b B 32 [] a1 cap1 (L ++ bN x i) ∧ Kp (WS b (.slice a L.length cap)) w wr ∧ Fresh w (.slice a L.length cap) (.slice a1 (L ++ bN x i).length cap1)) (fun ti _ => k - (intOf ti).toNat)
  case atStart => exact ⟨0, a, cap, Nat.zero_le _, rfl, by simpa [bN] using h, Kp.refl _ _, by simpa [bN] using Fresh.refl w (.slice a L.length cap)⟩
  case round =>
    obtain ⟨i, a1, cap1, hik, rfl, hr, hkr, hfr⟩ := hrel
    have hlen : (L ++ bN x i).length = L.length + i := by rw [List.length_append, bN_len]
    have hbs : bN x (i + 1) = bN x i ++ [x.testBit i] := bN_succ x i
    have HB : Hid (L ++ bN x (i + 1) = (L ++ bN x i) ++ [x.testBit i]) := by show _ = _; rw [hbs, List.append_assoc]
    have hlt1 : (L ++ bN x i).length + 1 ≤ 140737488355328 := by omega
    obtain ⟨M, hM⟩ : ∃ M, M = L ++ bN x i := ⟨_, rfl⟩
    rw [← hM] at hr hfr hlt1 HB
    have HM : Hid (M = L ++ bN x i) := hM
    clear hbs hlen hM
    by_cases hlt : i < k
    · have hq := shr_nat x i
      have hq2 := div_pow_lt (k := i) hx2
      have ha := and_one' (x / 2 ^ i) hq2
      have hb := bit_eq x i
      generalize x / 2 ^ i = q at *
      have hb2 : q % 2 < 2 := by omega
      generalize q % 2 = bb at *
      generalize x.testBit i = y at *
      have hi63 : i ≤ 63 := by omega
      have hlt2 : (i : Int) < (k : Int) := by omega
      have hd0 := hr.cell0
      have hdf0 := hr.free 0
      have hltr := hr.b_lt
      have hfa : ∀ o, (wr.alloc o).frozen? ⟨b, 0, none⟩ = false := fun o => (((Below.refl wr.heap.size wr).alloc (Nat.le_refl _) o).frozen (p := ⟨b, 0, none⟩) hltr).trans hdf0
      have hca : ∀ o, (wr.alloc o).cell? ⟨b, 0, none⟩ = some (.slice a1 M.length cap1) := fun o => (((Below.refl wr.heap.size wr).alloc (Nat.le_refl _) o).cell (p := ⟨b, 0, none⟩) hltr).trans hd0
      have hown1 := hr.own
      have hbase := hr.bB
      have hne := hr.ne
      go_wp2
      go_region_law
        (refine step_append_lies _ (by rfl) _ _ _ (by rfl) B 4 i0 _ 1 1 Try.underlying30 hi hz0 hz1 hz2 rfl (by omega) (.slice a1 M.length cap1) M.length (M.map Value.bool) (by rfl) ((hown1.alloc _).drew)
            ⟨wr.heap.size, 0, none⟩ 1 1 [.bool y] (by rfl) (by rfl) (World.news_of_block (cs := #[.bool y]) (t := 4) (fr := (0, 0)) (heap_alloc_new wr _)) (by simp [Value.oneCell'])
            (by omega) (by unfold maxLen; omega) (by omega) (by simp; omega) (wr.heap.size + 1) (by simp) ?_; intro gg cap2 w2 hown2 hgrow hat hlt2
         have hx0 := (hgrow.cell_far ⟨b, 0, none⟩ (by simp; omega) (Ne.symm hne)).trans (hca _)
         have hxf := (hgrow.frozen_far ⟨b, 0, none⟩ (by simp; omega) (Ne.symm hne)).trans (hfa _))
      all_goals
        have hpu := hr.pushed hown2 hgrow hat
        generalize w2.setCell ⟨b, 0, none⟩ (.slice (some ⟨gg, 0, none⟩) (M.length + 1) cap2) = w3 at *
        clear hx0 hxf hgrow hown2 hd0 hdf0 hfa hca hown1 hr
        go_wp2
        go_roundw
        case rel => exact ⟨i + 1, _, cap2, by omega, by go_num, by rw [HB.out]; exact hpu.1, hkr.trans hpu.2.1 (fun j hj e => ws_back hfr hj e), by rw [HB.out]; exact hfr.trans hpu.2.2 hkr.size⟩
        case measure => simp [intOf]; omega
    · have HI : Hid (i = k) := by show _ = _; omega
      have hge : (k : Int) ≤ (i : Int) := by omega
      clear hlt hik
      go_wp2
      go_ret
      have hMk : M = L ++ bN x k := by rw [HM.out, HI.out]
      rw [← hMk]
      exact ⟨rfl, _, ⟨a1, cap1, rfl, hr⟩, hkr, hfr⟩
end Go.Proofs.Ytppjcgkgemhilaa
