import Derived.Test.YtcifalelnfeggaaGreatDoorPd
import Derived.Test.YtcifalelnfeggaaGreatDoorPa
import Derived.Deep.RegionHeld3
import Derived.Deep.AppendLies
import Derived.Deep.RegionLaw
import Derived.Deep.QuietTactic
import Derived.BigQuiet
import Derived.Deep.SlicePairs
namespace Go.Proofs.YtcifalelnfeggaaGreatDoor
open Go.RowKit
set_option linter.unusedVariables false

theorem info_u8w : (Tryz.prog.info? 5).map (fun i => (i.zero, i.size, i.bytes)) = some (some (.int .u8 0), 1, 1) := by kernel_rfl

/-- A Writer in a block of its own: full bytes in a row of its own, and bits behind them. -/
structure Wr (w : World) (b B : Nat) (a : Option Addr) (cap : Nat) (ws : List Int) (r c : Nat) : Prop where
  hp : w.heap[b]? = some (.cells #[.slice a ws.length cap, .int .u64 (r : Int), .int .i64 (c : Int)] 64 (0, 0))
  own : w.ownsRow B 5 1 (.slice a ws.length cap) ws.length (ws.map (Value.int .u8))
  nil : ws = [] → a = none
  bd : ∀ z ∈ ws, 0 ≤ z ∧ z ≤ 255
  ne : (Value.slice a ws.length cap).ownBlock ≠ some b
  bB : B ≤ w.heap.size
  lt : r < 2 ^ c
theorem Wr.b_lt {w : World} {b B : Nat} {a : Option Addr} {cap : Nat} {ws : List Int} {r c : Nat} (h : Wr w b B a cap ws r c) : b < w.heap.size := (Array.getElem?_eq_some_iff.1 h.hp).1
theorem Wr.kp {w w' : World} {b B : Nat} {a : Option Addr} {cap : Nat} {ws : List Int} {r c : Nat} {S : Nat → Prop} (h : Wr w b B a cap ws r c) (hk : Kp S w w') (h1 : ¬ S b) (h2 : ∀ k, (Value.slice a ws.length cap).ownBlock = some k → ¬ S k) : Wr w' b B a cap ws r c :=
  ⟨hk.heap h.hp h1, own_kp h.own hk h2, h.nil, h.bd, h.ne, Nat.le_trans h.bB hk.size, h.lt⟩

def cellN (w : World) (b i : Nat) : Nat := (intOf ((w.cell? ⟨b, i, none⟩).getD (.int .i64 0))).toNat
theorem cellN_of {w : World} {b i : Nat} {k : IntKind} {n : Int} (h : w.cell? ⟨b, i, none⟩ = some (.int k n)) : cellN w b i = n.toNat := by unfold cellN; rw [h]; rfl

/-- The blocks of a Writer. -/
def WS (b : Nat) (v : Value) : Nat → Prop := fun k => k = b ∨ v.ownBlock = some k

theorem shl_nat {r v c k : Nat} (h : r < 2 ^ c) (hv : v < 2 ^ k) (hck : c + k ≤ 63) : r + v * 2 ^ c < 2 ^ (c + k) := by
  have h1 : v + 1 ≤ 2 ^ k := hv
  have h2 : (v + 1) * 2 ^ c ≤ 2 ^ k * 2 ^ c := Nat.mul_le_mul_right _ h1
  rw [← Nat.pow_add, Nat.add_comm k c, Nat.add_mul, Nat.one_mul] at h2
  omega
theorem bN_join {r v c k : Nat} (h : r < 2 ^ c) : bN (r + v * 2 ^ c) (c + k) = bN r c ++ bN v k := by
  rw [bN_add]
  have h1 : (r + v * 2 ^ c) / 2 ^ c = v := by
    rw [Nat.add_mul_div_right _ _ (Nat.two_pow_pos c), Nat.div_eq_of_lt h, Nat.zero_add]
  rw [h1, ← bN_mod (r + v * 2 ^ c) c, Nat.add_mul_mod_self_right, bN_mod]

theorem ws_back {w : World} {b j : Nat} {v v1 : Value} (h : Fresh w v v1) (hj : j < w.heap.size) (e : WS b v1 j) : WS b v j := by
  rcases e with e | e
  · exact .inl e
  · rcases h j e with e | e
    · exact .inr e
    · omega
theorem Fresh.trans {w wr : World} {v v1 v2 : Value} (h : Fresh w v v1) (k : Fresh wr v1 v2) (hs : w.heap.size ≤ wr.heap.size) : Fresh w v v2 := by
  intro j e
  rcases k j e with e | e
  · exact h j e
  · exact .inr (by omega)
theorem byte_wrap (r : Nat) : IntKind.u8.wrap (r : Int) = ((r % 256 : Nat) : Int) := by rw [IntKind.wrap_u8]; omega
/-- A full byte goes behind the row. -/
theorem Wr.pushed {wr w2 : World} {b B : Nat} {a1 : Option Addr} {cap1 : Nat} {ws1 : List Int} {r1 c1 : Nat} {o : Obj} (h : Wr wr b B a1 cap1 ws1 r1 c1) (h8 : 8 ≤ c1) {gg cap2 : Nat}
    (hown : w2.ownsRow B 5 1 (.slice (some ⟨gg, 0, none⟩) (ws1.length + 1) cap2) (ws1.length + 1) (ws1.map (Value.int .u8) ++ [.int .u8 (IntKind.u8.wrap (r1 : Int))]))
    (hgrow : ((wr.alloc o).drew).grownBy w2 (Value.slice a1 ws1.length cap1).ownBlock) (hat : (Value.slice a1 ws1.length cap1).ownBlock = some gg ∨ gg = wr.heap.size + 1) :
    Wr (((w2.setCell ⟨b, 0, none⟩ (.slice (some ⟨gg, 0, none⟩) (ws1.length + 1) cap2)).setCell ⟨b, 1, none⟩ (.int .u64 ((r1 : Int) / 256))).setCell ⟨b, 2, none⟩ (.int .i64 ((c1 : Int) - 8))) b B (some ⟨gg, 0, none⟩) cap2 (ws1 ++ [((r1 % 256 : Nat) : Int)]) (r1 / 256) (c1 - 8) ∧
    Kp (WS b (.slice a1 ws1.length cap1)) wr (((w2.setCell ⟨b, 0, none⟩ (.slice (some ⟨gg, 0, none⟩) (ws1.length + 1) cap2)).setCell ⟨b, 1, none⟩ (.int .u64 ((r1 : Int) / 256))).setCell ⟨b, 2, none⟩ (.int .i64 ((c1 : Int) - 8))) ∧
    Fresh wr (.slice a1 ws1.length cap1) (.slice (some ⟨gg, 0, none⟩) (ws1 ++ [((r1 % 256 : Nat) : Int)]).length cap2) := by
  have hlt := h.b_lt
  have hgb : gg ≠ b := by
    rcases hat with e | e
    · intro e2; subst e2; exact h.ne e
    · omega
  have hka : Kp (WS b (.slice a1 ws1.length cap1)) wr ((wr.alloc o).drew) := (Kp.alloc _ _).drew
  have hk2 : Kp (WS b (.slice a1 ws1.length cap1)) wr w2 := hka.trans (Kp.grown (S := WS b (.slice a1 ws1.length cap1)) hgrow (fun i e => .inr e)) (fun _ _ e => e)
  have hp2 : w2.heap[b]? = some (.cells #[.slice a1 ws1.length cap1, .int .u64 (r1 : Int), .int .i64 (c1 : Int)] 64 (0, 0)) := by
    rw [hgrow.block b (by simp; omega) (Ne.symm h.ne)]
    show (wr.alloc o).heap[b]? = _
    rw [Below.heap_alloc _ _ _ hlt]; exact h.hp
  have hp3 := three_set2 (three_set1 (three_set0 hp2 (.slice (some ⟨gg, 0, none⟩) (ws1.length + 1) cap2)) (.int .u64 ((r1 : Int) / 256))) (.int .i64 ((c1 : Int) - 8))
  have hkb : Kp (fun j => j = b) w2 (((w2.setCell ⟨b, 0, none⟩ (.slice (some ⟨gg, 0, none⟩) (ws1.length + 1) cap2)).setCell ⟨b, 1, none⟩ (.int .u64 ((r1 : Int) / 256))).setCell ⟨b, 2, none⟩ (.int .i64 ((c1 : Int) - 8))) :=
    ((Kp.set (S := fun j => j = b) rfl _).trans (Kp.set (S := fun j => j = b) rfl _) (fun _ _ e => e)).trans (Kp.set (S := fun j => j = b) rfl _) (fun _ _ e => e)
  have hown3 := own_kp hown hkb (fun j e1 e2 => by subst e2; cases e1; exact hgb rfl)
  have hlen : (ws1 ++ [((r1 % 256 : Nat) : Int)]).length = ws1.length + 1 := by simp
  refine ⟨⟨?_, ?_, by simp, ?_, ?_, ?_, ?_⟩, hk2.trans hkb (fun j _ e => .inl e), ?_⟩
  · rw [hp3, hlen]
    have e1 : ((r1 : Int) / 256) = ((r1 / 256 : Nat) : Int) := by omega
    have e2 : ((c1 : Int) - 8) = ((c1 - 8 : Nat) : Int) := by omega
    rw [e1, e2]
  · rw [hlen]
    rw [byte_wrap] at hown3
    simpa using hown3
  · intro z hz
    rw [List.mem_append] at hz
    rcases hz with hz | hz
    · exact h.bd z hz
    · simp at hz; omega
  · intro e; cases e; exact hgb rfl
  · exact Nat.le_trans h.bB (Nat.le_trans hk2.size hkb.size)
  · have := h.lt
    rw [Nat.div_lt_iff_lt_mul (by decide), show (256 : Nat) = 2 ^ 8 from rfl, ← Nat.pow_add, Nat.sub_add_cancel h8]
    exact this
  · intro j e
    cases e
    rcases hat with e | e
    · exact .inl e
    · right; show wr.heap.size ≤ gg; omega
theorem bits_push (ws : List Int) (r c : Nat) (h8 : 8 ≤ c) : bB (ws ++ [((r % 256 : Nat) : Int)]) ++ bN (r / 256) (c - 8) = bB ws ++ bN r c := by
  rw [bB_append, bB_one, Int.toNat_natCast, List.append_assoc]
  congr 1
  rw [show c = 8 + (c - 8) by omega, bN_add, Nat.add_sub_cancel_left]
  rw [show (256 : Nat) = 2 ^ 8 from rfl, bN_mod]

set_option maxRecDepth 100000 in
set_option maxHeartbeats 4000000 in
theorem lay_any (b B : Nat) (a : Option Addr) (cap : Nat) (ws : List Int) (r c v k : Nat) (w : World) (h : Wr w b B a cap ws r c) (hc : c < 8) (hv : v < 2 ^ k) (hk : k ≤ 56) (hl : ws.length ≤ 140737488355320) :
    Calls Tryz.prog 55 #[.pointer (some ⟨b, 0, none⟩), .int .u64 (v : Int), .int .i64 (k : Int)] w fun e w' => e = .returned (.tuple #[]) ∧ ∃ a' cap' ws' r' c',
      Wr w' b B a' cap' ws' r' c' ∧ c' < 8 ∧ bB ws' ++ bN r' c' = bB ws ++ bN r c ++ bN v k ∧ Kp (WS b (.slice a ws.length cap)) w w' ∧ Fresh w (.slice a ws.length cap) (.slice a' ws'.length cap') := by
  obtain ⟨i0, hi, hz0, hz1, hz2⟩ := info_parts info_u8w
  have hc0 := three_cell0 h.hp
  have hc1 := three_cell1 h.hp
  have hc2 := three_cell2 h.hp
  have hf := three_free h.hp
  have hlt := h.b_lt
  have hsl : IntKind.u64.wrap ((v : Int) * 2 ^ c) = ((v * 2 ^ c : Nat) : Int) := by
    have h1 := shl_nat h.lt hv (by omega)
    have h2 := pow_le_63 (k := c + k) (by omega)
    rw [show ((v : Int) * 2 ^ c) = ((v * 2 ^ c : Nat) : Int) by simp]
    generalize v * 2 ^ c = p at *
    rw [IntWalk.u64_in _ ⟨by omega, by omega⟩]
  have hor : bits .or .u64 (r : Int) ((v * 2 ^ c : Nat) : Int) = ((r + v * 2 ^ c : Nat) : Int) := by
    have h1 := shl_nat h.lt hv (by omega)
    have h2 := pow_le_63 (k := c + k) (by omega)
    exact or_pow h.lt (by omega)
  have HB : Hid (bN (r + v * 2 ^ c) (c + k) = bN r c ++ bN v k) := bN_join h.lt
  have HL := shl_nat h.lt hv (by omega : c + k ≤ 63)
  have hv2 : v < 18446744073709551616 := by
    have h2 := pow_le_63 (k := k) (by omega)
    omega
  generalize v * 2 ^ c = x at *
  have hp := h.hp
  have hown := h.own
  obtain ⟨y, hy⟩ : ∃ y, y = r + x := ⟨_, rfl⟩
  have hor2 : bits .or .u64 (r : Int) (x : Int) = (y : Int) := by rw [hor, hy]
  rw [← hy] at HB HL
  clear hor hy
  go_enter Tryz.func55, Tryz.ntmps55
  go_wp2
  go_region
  have hp1 : ((w.setCell ⟨b, 1, none⟩ (.int .u64 (y : Int))).drew).heap[b]? = some (.cells #[.slice a ws.length cap, .int .u64 (y : Int), .int .i64 (c : Int)] 64 (0, 0)) := three_set1 hp _
  have hk1 : Kp (fun j => j = b) w ((w.setCell ⟨b, 1, none⟩ (.int .u64 (y : Int))).drew) := (Kp.set (S := fun j => j = b) rfl _).drew
  generalize (w.setCell ⟨b, 1, none⟩ (.int .u64 (y : Int))).drew = w1 at *
  have hd0 := three_cell0 hp1
  have hd1 := three_cell1 hp1
  have hd2 := three_cell2 hp1
  have hdf := three_free hp1
  go_wp2
  have hp2 : (w1.setCell ⟨b, 2, none⟩ (.int .i64 ((c : Int) + (k : Int)))).heap[b]? = some (.cells #[.slice a ws.length cap, .int .u64 (y : Int), .int .i64 ((c : Int) + (k : Int))] 64 (0, 0)) := three_set2 hp1 _
  have hk2 : Kp (fun j => j = b) w (w1.setCell ⟨b, 2, none⟩ (.int .i64 ((c : Int) + (k : Int)))) := hk1.trans (Kp.set (S := fun j => j = b) rfl _) (fun _ _ e => e)
  have hst : Wr (w1.setCell ⟨b, 2, none⟩ (.int .i64 ((c : Int) + (k : Int)))) b B a cap ws y (c + k) :=
    ⟨by simpa using hp2, own_kp hown hk2 (fun j e1 e2 => h.ne (e2 ▸ e1)), h.nil, h.bd, h.ne, Nat.le_trans h.bB hk2.size, HL⟩
  have HB2 : Hid (bB ws ++ bN y (c + k) = bB ws ++ bN r c ++ bN v k) := by show _ = _; rw [HB.out, List.append_assoc]
  have hk3 : Kp (WS b (.slice a ws.length cap)) w (w1.setCell ⟨b, 2, none⟩ (.int .i64 ((c : Int) + (k : Int)))) := hk2.mono (fun _ _ e => .inl e)
  generalize w1.setCell ⟨b, 2, none⟩ (.int .i64 ((c : Int) + (k : Int))) = w2 at *
  clear hp1 hp2 hd0 hd1 hd2 hdf hk1 hk2 hc0 hc1 hc2 hf hp hown hsl hor2 HB HL
  go_loopw [] (fun wr => ∃ a1 cap1 ws1 r1 c1, Wr wr b B a1 cap1 ws1 r1 c1 ∧ c1 ≤ 63 ∧ Hid (bB ws1 ++ bN r1 c1 = bB ws ++ bN r c ++ bN v k) ∧ Kp (WS b (.slice a ws.length cap)) w wr ∧ Fresh w (.slice a ws.length cap) (.slice a1 ws1.length cap1) ∧ 8 * ws1.length + c1 = 8 * ws.length + c + k) (fun wr => cellN wr b 2)
  case atStart => exact ⟨a, cap, ws, y, c + k, hst, by omega, HB2, hk3, fun j e => .inl e, by omega⟩
  case round =>
    obtain ⟨a1, cap1, ws1, r1, c1, hs1, hc1, HQ, hkr, hfr, hn1⟩ := hrel
    clear hst HB2 hk3
    have hd0 := three_cell0 hs1.hp
    have hd1 := three_cell1 hs1.hp
    have hd2 := three_cell2 hs1.hp
    have hdf := three_free hs1.hp
    have hdf0 := hdf 0
    have hltr := hs1.b_lt
    have hfa : ∀ o, (wr.alloc o).frozen? ⟨b, 0, none⟩ = false := fun o => (((Below.refl wr.heap.size wr).alloc (Nat.le_refl _) o).frozen (p := ⟨b, 0, none⟩) hltr).trans hdf0
    have hca : ∀ o, (wr.alloc o).cell? ⟨b, 0, none⟩ = some (.slice a1 ws1.length cap1) := fun o => (((Below.refl wr.heap.size wr).alloc (Nat.le_refl _) o).cell (p := ⟨b, 0, none⟩) hltr).trans hd0
    have hown1 := hs1.own
    have hbase := hs1.bB
    have hr1 : r1 < 18446744073709551616 := by
      have h2 := pow_le_63 (k := c1) (by omega)
      have := hs1.lt
      omega
    have hne := hs1.ne
    have hn1b : 8 * ws1.length + c1 ≤ 8 * ws.length + c + k := by omega
    have HN1 : Hid (8 * ws1.length + c1 = 8 * ws.length + c + k) := hn1
    clear hn1
    by_cases h8 : 8 ≤ c1
    · go_wp2
      go_region_law
        (refine step_append_lies _ (by rfl) _ _ _ (by rfl) B 5 i0 _ 1 1 Tryz.underlying59 hi hz0 hz1 hz2 rfl (by omega) (.slice a1 ws1.length cap1) ws1.length (ws1.map (Value.int .u8)) (by rfl) ((hown1.alloc _).drew)
            ⟨wr.heap.size, 0, none⟩ 1 1 [.int .u8 (IntKind.u8.wrap (r1 : Int))] (by rfl) (by rfl) (World.news_of_block (cs := #[.int .u8 (IntKind.u8.wrap (r1 : Int))]) (t := 5) (fr := (0, 0)) (heap_alloc_new wr _)) (by simp [Value.oneCell'])
            (by omega) (by unfold maxLen; omega) (by omega) (by simp; omega) (wr.heap.size + 1) (by simp) ?_; intro gg cap2 w2 hown2 hgrow hat hlt2
         have hx0 := (hgrow.cell_far ⟨b, 0, none⟩ (by simp; omega) (Ne.symm hne)).trans (hca _)
         have hxf := (hgrow.frozen_far ⟨b, 0, none⟩ (by simp; omega) (Ne.symm hne)).trans (hfa _))
      all_goals
        have hpu := hs1.pushed h8 hown2 hgrow hat
        have hp2 : (w2.setCell ⟨b, 0, none⟩ (.slice (some ⟨gg, 0, none⟩) (ws1.length + 1) cap2)).heap[b]? = some (.cells #[.slice (some ⟨gg, 0, none⟩) (ws1.length + 1) cap2, .int .u64 (r1 : Int), .int .i64 (c1 : Int)] 64 (0, 0)) := by
          refine three_set0 (x := .slice a1 ws1.length cap1) ?_ _
          rw [hgrow.block b (by simp; omega) (Ne.symm hne)]
          show (wr.alloc _).heap[b]? = _
          rw [Below.heap_alloc _ _ _ hltr]; exact hs1.hp
        generalize w2.setCell ⟨b, 0, none⟩ (.slice (some ⟨gg, 0, none⟩) (ws1.length + 1) cap2) = w3 at *
        have he0 := three_cell0 hp2
        have he1 := three_cell1 hp2
        have he2 := three_cell2 hp2
        have hef := three_free hp2
        clear hp2 hx0 hxf hgrow hown2 hd0 hd1 hdf hdf0 hfa hca hown1 hs1
        have HM : Hid (cellN wr b 2 = c1) := by show _ = _; rw [cellN_of hd2]; simp
        go_wp2
        go_roundw
        case rel => exact ⟨_, cap2, ws1 ++ [((r1 % 256 : Nat) : Int)], r1 / 256, c1 - 8, hpu.1, by omega, (by show _ = _; rw [bits_push _ _ _ h8]; exact HQ.out), hkr.trans hpu.2.1 (fun j hj e => ws_back hfr hj e), hfr.trans hpu.2.2 hkr.size, by have := HN1.out; simp; omega⟩
        case measure => rw [HM.out, cellN_of (three_cell2 hpu.1.hp)]; simp; omega
    · clear hfa hca hdf0 hdf
      go_wp2
      go_end0
      exact ⟨rfl, a1, cap1, ws1, r1, c1, hs1, by omega, HQ.out, hkr, hfr⟩
end Go.Proofs.YtcifalelnfeggaaGreatDoor

namespace Go.Proofs.YtcifalelnfeggaaGreatDoor
open Go.RowKit
set_option linter.unusedVariables false

/-- A Writer that has these bits; v: its row. -/
def WrL (w : World) (b B : Nat) (v : Value) (L : List Bool) : Prop := ∃ a cap ws r c, v = .slice a ws.length cap ∧ Wr w b B a cap ws r c ∧ c < 8 ∧ L = bB ws ++ bN r c
theorem WrL.kp {w w' : World} {b B : Nat} {v : Value} {L : List Bool} {S : Nat → Prop} (h : WrL w b B v L) (hk : Kp S w w') (h1 : ¬ S b) (h2 : ∀ k, v.ownBlock = some k → ¬ S k) : WrL w' b B v L := by
  obtain ⟨a, cap, ws, r, c, rfl, h, r⟩ := h
  exact ⟨a, cap, ws, _, c, rfl, h.kp hk h1 h2, r⟩
theorem WrL.b_lt {w : World} {b B : Nat} {v : Value} {L : List Bool} (h : WrL w b B v L) : b < w.heap.size := by
  obtain ⟨a, cap, ws, r, c, rfl, h, r⟩ := h
  exact h.b_lt
theorem WrL.own_lt {w : World} {b B : Nat} {v : Value} {L : List Bool} (h : WrL w b B v L) : ∀ k, v.ownBlock = some k → B ≤ k ∧ k < w.heap.size ∧ k ≠ b := by
  obtain ⟨a, cap, ws, r, c, rfl, h, r⟩ := h
  intro k e
  exact ⟨(h.own.lt k e).1, (h.own.lt k e).2, fun e2 => h.ne (e2 ▸ e)⟩
theorem WrL.new {w : World} {b B : Nat} (h : w.heap[b]? = some (.cells #[.slice none 0 0, .int .u64 0, .int .i64 0] 64 (0, 0))) (hB : B ≤ w.heap.size) : WrL w b B (.slice none 0 0) [] :=
  ⟨none, 0, [], 0, 0, rfl, ⟨h, World.ownsRow_nil _ _ _ _, fun _ => rfl, by simp, by simp [Value.ownBlock], hB, by decide⟩, by decide, rfl⟩

def putL (L : List Bool) (x : Nat) (n : Int) : List Bool := if errW x n = 0 then L ++ bN x n.toNat else L
def turnL (L : List Bool) (x : Nat) (n : Int) : List Bool := if errW x n = 0 then L ++ (bN x n.toNat).reverse else L
def padN (n : Nat) : Nat := (8 - n % 8) % 8
def alignL (L : List Bool) : List Bool := L ++ List.replicate (padN L.length) false

set_option maxRecDepth 100000 in
theorem put_ok (b B : Nat) (v : Value) (L : List Bool) (x k : Nat) (w : World) (h : WrL w b B v L) (hx : x < 2 ^ k) (hk : k ≤ 56) (hl : L.length ≤ 1125899906842560) :
    Calls Tryz.prog 29 #[.pointer (some ⟨b, 0, none⟩), .int .u64 (x : Int), .int .i64 (k : Int)] w fun e w' => e = .returned (.int .i64 0) ∧ ∃ v', WrL w' b B v' (L ++ bN x k) ∧ Kp (WS b v) w w' ∧ Fresh w v v' := by
  obtain ⟨a, cap, ws, r, c, rfl, h, hc, rfl⟩ := h
  have hl2 : ws.length ≤ 140737488355320 := by rw [List.length_append, bB_len, bN_len] at hl; omega
  have C := lay_any b B a cap ws r c x k w h hc hx hk hl2
  have D := refuse_ok x k w hx hk
  have hx2 : x < 18446744073709551616 := by
    have := pow_le_63 (k := k) (by omega)
    omega
  clear hx hl
  go_enter Tryz.func29, Tryz.ntmps29
  go_wp2_with fail
  refine D.mono ?_
  rintro e w1 ⟨rfl, hw1⟩
  subst w1
  go_wp2_with fail
  refine C.mono ?_
  rintro e w1 ⟨rfl, a', cap', ws', r', c', h', hc', hb', hk', hf'⟩
  go_wp2
  go_ret
  exact ⟨rfl, _, ⟨a', cap', ws', r', c', rfl, h', hc', hb'.symm⟩, hk', hf'⟩

set_option maxRecDepth 100000 in
theorem put_no (b : Nat) (x : Nat) (n : Int) (w : World) (hx : x < 18446744073709551616) (hn0 : -9223372036854775808 ≤ n) (hn1 : n ≤ 9223372036854775807) (he : errW x n ≠ 0) :
    Calls Tryz.prog 29 #[.pointer (some ⟨b, 0, none⟩), .int .u64 (x : Int), .int .i64 n] w fun e w' => e = .returned (.int .i64 (errW x n)) ∧ w' = w := by
  rcases errW_cases x n with ⟨h1, h2⟩ | ⟨k, rfl, hk, ⟨h1, h2⟩ | ⟨h1, h2⟩⟩
  · have D := refuse_count x n w h2
    rw [h1]
    go_enter Tryz.func29, Tryz.ntmps29
    go_wp2_with fail
    refine D.mono ?_
    rintro e w1 ⟨rfl, hw1⟩
    subst w1
    go_wp2
    go_ret
    exact ⟨rfl, rfl⟩
  · exact absurd h1 he
  · have D := refuse_value x k w h2 hk hx
    rw [h1]
    clear h2
    go_enter Tryz.func29, Tryz.ntmps29
    go_wp2_with fail
    refine D.mono ?_
    rintro e w1 ⟨rfl, hw1⟩
    subst w1
    go_wp2
    go_ret
    exact ⟨rfl, rfl⟩

theorem put_any (b B : Nat) (v : Value) (L : List Bool) (x : Nat) (n : Int) (w : World) (h : WrL w b B v L) (hx : x < 18446744073709551616) (hn0 : -9223372036854775808 ≤ n) (hn1 : n ≤ 9223372036854775807) (hl : L.length ≤ 1125899906842560) :
    Calls Tryz.prog 29 #[.pointer (some ⟨b, 0, none⟩), .int .u64 (x : Int), .int .i64 n] w fun e w' => e = .returned (.int .i64 (errW x n)) ∧ ∃ v', WrL w' b B v' (putL L x n) ∧ Kp (WS b v) w w' ∧ Fresh w v v' := by
  by_cases he : errW x n = 0
  · rcases errW_cases x n with ⟨h1, h2⟩ | ⟨k, rfl, hk, ⟨h1, h2⟩ | ⟨h1, h2⟩⟩
    · omega
    · refine (put_ok b B v L x k w h h2 hk hl).mono ?_
      rintro e w' ⟨rfl, v', h1', h2', h3'⟩
      unfold putL
      rw [he, if_pos rfl]
      exact ⟨rfl, v', by simpa using h1', h2', h3'⟩
    · omega
  · refine (put_no b x n w hx hn0 hn1 he).mono ?_
    rintro e w' ⟨rfl, rfl⟩
    unfold putL
    rw [if_neg he]
    exact ⟨rfl, v, h, Kp.refl _ _, fun k e => .inl e⟩

theorem flip_bits (x k : Nat) (hk : k ≤ 56) : flipN x k < 2 ^ k ∧ bN (flipN x k) k = (bN x k).reverse := by
  have hc : cnt (k : Int) = k := by unfold cnt; omega
  unfold flipN
  rw [hc]
  exact ⟨rev_lt x k, bN_num' (rev_len x k)⟩

set_option maxRecDepth 100000 in
set_option maxHeartbeats 1000000 in
theorem turned_ok (b B : Nat) (v : Value) (L : List Bool) (x k : Nat) (w : World) (h : WrL w b B v L) (hx : x < 2 ^ k) (hk : k ≤ 56) (hl : L.length ≤ 1125899906842560) :
    Calls Tryz.prog 143 #[.pointer (some ⟨b, 0, none⟩), .int .u64 (x : Int), .int .i64 (k : Int)] w fun e w' => e = .returned (.int .i64 0) ∧ ∃ v', WrL w' b B v' (L ++ (bN x k).reverse) ∧ Kp (WS b v) w w' ∧ Fresh w v v' := by
  obtain ⟨a, cap, ws, r, c, rfl, h, hc, rfl⟩ := h
  have hl2 : ws.length ≤ 140737488355320 := by rw [List.length_append, bB_len, bN_len] at hl; omega
  have hfl := flip_bits x k hk
  have hx2 : x < 18446744073709551616 := by
    have := pow_le_63 (k := k) (by omega)
    omega
  have HC : Hid (∀ W, Wr W b B a cap ws r c → Calls Tryz.prog 55 #[.pointer (some ⟨b, 0, none⟩), .int .u64 (flipN x k : Int), .int .i64 (k : Int)] W fun e w' => e = .returned (.tuple #[]) ∧ ∃ a' cap' ws' r' c',
      Wr w' b B a' cap' ws' r' c' ∧ c' < 8 ∧ bB ws' ++ bN r' c' = bB ws ++ bN r c ++ (bN x k).reverse ∧ Kp (WS b (.slice a ws.length cap)) W w' ∧ Fresh W (.slice a ws.length cap) (.slice a' ws'.length cap')) := by
    intro W hW
    have := lay_any b B a cap ws r c (flipN x k) k W hW hc hfl.1 hk hl2
    rw [hfl.2] at this
    exact this
  have HF : Hid (∀ W, Calls Tryz.prog 160 #[.int .u64 (x : Int), .int .i64 (k : Int)] W fun e w' => e = .returned (.int .u64 (flipN x k)) ∧ w' = W) := fun W => flip_any x k W hx2 (by omega) (by omega)
  have D := refuse_ok x k w hx hk
  have hd : Wr w.drew b B a cap ws r c := h.kp ((Kp.refl (fun _ => False) w).drew) (by simp) (by simp)
  clear hx hl hfl
  generalize flipN x k = f at *
  go_enter Tryz.func143, Tryz.ntmps143
  go_wp2_with fail
  refine D.mono ?_
  rintro e w1 ⟨rfl, hw1⟩
  subst w1
  go_wp2_with fail
  go_region_held3 (fun _ => True) (trivial) (first
    | (go_at_call 160; refine (HF.out _).mono ?_; rintro e w1 ⟨rfl, hw1⟩; subst w1)
    | (go_at_call 55; refine (HC.out _ hd).mono ?_; rintro e w1 ⟨rfl, a', cap', ws', r', c', h', hc', hb', hk', hf'⟩))
  go_wp2
  go_ret
  exact ⟨rfl, _, ⟨a', cap', ws', r', c', rfl, h', hc', hb'.symm⟩, ⟨hk'.os, hk'.tape, hk'.output, hk'.size, hk'.block⟩, hf'⟩
end Go.Proofs.YtcifalelnfeggaaGreatDoor

namespace Go.Proofs.YtcifalelnfeggaaGreatDoor
open Go.RowKit
set_option linter.unusedVariables false

set_option maxRecDepth 100000 in
theorem turned_no (b : Nat) (x : Nat) (n : Int) (w : World) (hx : x < 18446744073709551616) (hn0 : -9223372036854775808 ≤ n) (hn1 : n ≤ 9223372036854775807) (he : errW x n ≠ 0) :
    Calls Tryz.prog 143 #[.pointer (some ⟨b, 0, none⟩), .int .u64 (x : Int), .int .i64 n] w fun e w' => e = .returned (.int .i64 (errW x n)) ∧ w' = w := by
  rcases errW_cases x n with ⟨h1, h2⟩ | ⟨k, rfl, hk, ⟨h1, h2⟩ | ⟨h1, h2⟩⟩
  · have D := refuse_count x n w h2
    rw [h1]
    go_enter Tryz.func143, Tryz.ntmps143
    go_wp2_with fail
    refine D.mono ?_
    rintro e w1 ⟨rfl, hw1⟩
    subst w1
    go_wp2
    go_ret
    exact ⟨rfl, rfl⟩
  · exact absurd h1 he
  · have D := refuse_value x k w h2 hk hx
    rw [h1]
    clear h2
    go_enter Tryz.func143, Tryz.ntmps143
    go_wp2_with fail
    refine D.mono ?_
    rintro e w1 ⟨rfl, hw1⟩
    subst w1
    go_wp2
    go_ret
    exact ⟨rfl, rfl⟩

theorem turned_any (b B : Nat) (v : Value) (L : List Bool) (x : Nat) (n : Int) (w : World) (h : WrL w b B v L) (hx : x < 18446744073709551616) (hn0 : -9223372036854775808 ≤ n) (hn1 : n ≤ 9223372036854775807) (hl : L.length ≤ 1125899906842560) :
    Calls Tryz.prog 143 #[.pointer (some ⟨b, 0, none⟩), .int .u64 (x : Int), .int .i64 n] w fun e w' => e = .returned (.int .i64 (errW x n)) ∧ ∃ v', WrL w' b B v' (turnL L x n) ∧ Kp (WS b v) w w' ∧ Fresh w v v' := by
  by_cases he : errW x n = 0
  · rcases errW_cases x n with ⟨h1, h2⟩ | ⟨k, rfl, hk, ⟨h1, h2⟩ | ⟨h1, h2⟩⟩
    · omega
    · refine (turned_ok b B v L x k w h h2 hk hl).mono ?_
      rintro e w' ⟨rfl, v', h1', h2', h3'⟩
      unfold turnL
      rw [he, if_pos rfl]
      exact ⟨rfl, v', by simpa using h1', h2', h3'⟩
    · omega
  · refine (turned_no b x n w hx hn0 hn1 he).mono ?_
    rintro e w' ⟨rfl, rfl⟩
    unfold turnL
    rw [if_neg he]
    exact ⟨rfl, v, h, Kp.refl _ _, fun k e => .inl e⟩

set_option maxRecDepth 100000 in
theorem align_any (b B : Nat) (v : Value) (L : List Bool) (w : World) (h : WrL w b B v L) (hl : L.length ≤ 1125899906842560) :
    Calls Tryz.prog 96 #[.pointer (some ⟨b, 0, none⟩)] w fun e w' => e = .returned (.int .i64 (padN L.length)) ∧ ∃ v', WrL w' b B v' (alignL L) ∧ Kp (WS b v) w w' ∧ Fresh w v v' := by
  obtain ⟨a, cap, ws, r, c, rfl, h, hc, hL⟩ := h
  have hlen : L.length = 8 * ws.length + c := by rw [hL, List.length_append, bB_len, bN_len]
  have hl2 : ws.length ≤ 140737488355320 := by omega
  have hpad : padN L.length = (8 - c) % 8 := by unfold padN; omega
  have hc2 := three_cell2 h.hp
  by_cases h0 : c = 0
  · have hp0 : padN L.length = 0 := by omega
    have HA : Hid (alignL L = L) := by show _ = _; unfold alignL; rw [hp0]; simp
    rw [hp0]
    have HW : Hid (WrL w b B (.slice a ws.length cap) L) := ⟨a, cap, ws, r, c, rfl, h, hc, hL⟩
    subst h0
    clear hpad hp0 hlen hL hl
    go_enter Tryz.func96, Tryz.ntmps96
    go_wp2
    go_ret
    exact ⟨rfl, _, by rw [HA.out]; exact HW.out, Kp.refl _ _, fun k e => .inl e⟩
  · have hp0 : padN L.length = 8 - c := by omega
    rw [hp0]
    have HA : Hid (alignL L = bB ws ++ bN r c ++ bN 0 (8 - c)) := by show _ = _; unfold alignL; rw [hp0, bN_zero, hL]
    have C := lay_any b B a cap ws r c 0 (8 - c) w h hc (Nat.two_pow_pos _) (by omega) hl2
    have hcn : ((8 - c : Nat) : Int) = 8 - (c : Int) := by omega
    rw [hcn] at C ⊢
    have hc0 : ((c : Int) == 0) = false := by simp [h0]
    clear hpad hp0 hlen hL hl hcn
    go_enter Tryz.func96, Tryz.ntmps96
    go_wp2_with fail
    refine C.mono ?_
    rintro e w1 ⟨rfl, a', cap', ws', r', c', h', hc', hb', hk', hf'⟩
    go_wp2
    go_ret
    exact ⟨rfl, _, ⟨a', cap', ws', r', c', rfl, h', hc', by rw [HA.out]; exact hb'.symm⟩, hk', hf'⟩

theorem padN_add (n : Nat) : (n + padN n) % 8 = 0 := by unfold padN; omega
theorem alignL_len (L : List Bool) : (alignL L).length = L.length + padN L.length := by simp [alignL]

set_option maxRecDepth 100000 in
set_option maxHeartbeats 1000000 in
theorem whole_any (b B : Nat) (v : Value) (L : List Bool) (pa : Option Addr) (p : List Int) (pc : Nat) (w : World) (h : WrL w b B v L) (hs : Seg w pa p) (hnil : pa = none → pc = 0) (hfar : ∀ g off, pa = some ⟨g, off, none⟩ → 0 < p.length → ¬ WS b v g)
    (hl : L.length + 8 * p.length ≤ 1125899906842560) :
    Calls Tryz.prog 97 #[.pointer (some ⟨b, 0, none⟩), .slice pa p.length pc] w fun e w' => e = .returned (.tuple #[]) ∧ ∃ v', WrL w' b B v' (alignL L ++ bB p) ∧ Kp (WS b v) w w' ∧ Fresh w v v' := by
  obtain ⟨i0, hi, hz0, hz1, hz2⟩ := info_parts info_u8w
  have C := align_any b B v L w h (by omega)
  go_enter Tryz.func97, Tryz.ntmps97
  go_wp2_with fail
  refine C.mono ?_
  rintro e w1 ⟨rfl, v1, ⟨a, cap, ws, r, c, rfl, h1, hc1, hL1⟩, hk1, hf1⟩
  have hlen := alignL_len L
  have hpad := padN_add L.length
  rw [hL1, List.length_append, bB_len, bN_len] at hlen
  have hc0 : c = 0 := by omega
  subst hc0
  have hr0 : r = 0 := by have := h1.lt; simp at this; exact this
  subst hr0
  have hp8 : padN L.length < 8 := by unfold padN; omega
  have hs1 : Seg w1 pa p := hs.kp hk1 hfar
  have hd0 := three_cell0 h1.hp
  have hdf := three_free h1.hp
  have hown1 := h1.own
  have hbB := h1.bB
  clear hpad
  go_wp2_with (at_builtin; refine wpList_appS rfl (.tmp 13) (.tmp 14) 59 rfl B 5 i0 (.int .u8 0) 1 Tryz.underlying59 hi hz0 hz1 hz2 rfl hown1 hs1 hnil rfl rfl (by omega) (by omega) hbB ?_; intro b2 c2 w2 hown2 hg2 hfr2 hnl2; have hx0 := (hg2.cell_far ⟨b, 0, none⟩ h1.b_lt (Ne.symm h1.ne)).trans hd0; have hxf := (hg2.frozen_far ⟨b, 0, none⟩ h1.b_lt (Ne.symm h1.ne)).trans (hdf 0))
  go_end0
  have hp2 : w2.heap[b]? = some (.cells #[.slice a ws.length cap, .int .u64 ((0 : Nat) : Int), .int .i64 ((0 : Nat) : Int)] 64 (0, 0)) := by
    rw [hg2.block b h1.b_lt (Ne.symm h1.ne)]; exact h1.hp
  have hne2 : (Value.slice b2 (ws.length + p.length) c2).ownBlock ≠ some b := by
    intro e
    rcases hfr2 b e with e | e
    · exact h1.ne e
    · have := h1.b_lt; omega
  have hkb : Kp (fun j => j = b) w2 (w2.setCell ⟨b, 0, none⟩ (.slice b2 (ws.length + p.length) c2)) := Kp.set (S := fun j => j = b) rfl _
  have hk2 : Kp (WS b (.slice a ws.length cap)) w1 w2 := Kp.grown hg2 (fun i e => .inr e)
  refine ⟨rfl, .slice b2 (ws ++ p).length c2, ⟨b2, c2, ws ++ p, 0, 0, rfl, ⟨?_, ?_, ?_, ?_, ?_, ?_, by decide⟩, by decide, ?_⟩, ?_, ?_⟩
  · rw [List.length_append]; exact three_set0 hp2 _
  · rw [List.length_append, List.map_append]
    exact own_kp hown2 hkb (fun j e1 e2 => hne2 (e2 ▸ e1))
  · intro e
    rw [List.append_eq_nil_iff] at e
    obtain ⟨rfl, rfl⟩ := e
    have ha := h1.nil rfl
    subst ha
    have hcp : cap = 0 := by
      rcases hown1.2 with ⟨e0, _⟩ | ⟨g, cp, cur, e0, _⟩
      · simp at e0; exact e0
      · simp at e0
    subst hcp
    have := hnl2.2 ⟨rfl, rfl⟩
    simp at this
    exact this.1
  · intro z hz
    rw [List.mem_append] at hz
    rcases hz with hz | hz
    · exact h1.bd z hz
    · exact hs.mem z hz
  · rw [List.length_append]; exact hne2
  · exact Nat.le_trans hbB (Nat.le_trans hk2.size hkb.size)
  · rw [hL1, bB_append]; simp [bN]
  · exact (hk1.trans hk2 (fun j hj e => ws_back hf1 hj e)).trans hkb (fun j _ e => .inl e)
  · rw [List.length_append]; exact hf1.trans hfr2 hk1.size
end Go.Proofs.YtcifalelnfeggaaGreatDoor

namespace Go.Proofs.YtcifalelnfeggaaGreatDoor
open Go.RowKit
set_option linter.unusedVariables false

set_option maxRecDepth 100000 in
theorem len_any (b B : Nat) (v : Value) (L : List Bool) (w : World) (h : WrL w b B v L) (hl : L.length ≤ 1125899906842624) :
    Calls Tryz.prog 36 #[.pointer (some ⟨b, 0, none⟩)] w fun e w' => e = .returned (.int .i64 (L.length : Int)) ∧ Below w.heap.size w w' := by
  obtain ⟨a, cap, ws, r, c, rfl, h, hc, hL⟩ := h
  have hlen : L.length = 8 * ws.length + c := by rw [hL, List.length_append, bB_len, bN_len]
  have HL : Hid ((L.length : Int) = 8 * (ws.length : Int) + (c : Int)) := by show _ = _; omega
  have hc0 := three_cell0 h.hp
  have hc2 := three_cell2 h.hp
  have hw : ws.length ≤ 140737488355328 := by omega
  clear hlen hL hl
  go_enter Tryz.func36, Tryz.ntmps36
  go_wp2
  go_quiet (fail)
  go_wp2
  go_ret
  refine ⟨by rw [HL.out]; congr 2, ?_⟩
  exact ⟨rfl, rfl, rfl, Nat.le_refl _, fun _ _ => rfl⟩

theorem row_cap {w : World} {base n : Nat} {e : TypeId} {cap : Nat} {xs : List Value} (h : w.ownsRow base e 1 (.slice none n cap) n xs) : cap = 0 ∧ n = 0 := by
  rcases h.2 with ⟨e0, h0⟩ | ⟨g, cp, cur, e0, _⟩
  · simp at e0; exact ⟨e0.2, h0⟩
  · simp at e0

set_option maxRecDepth 100000 in
set_option maxHeartbeats 400000 in
theorem clone_any (a : Option Addr) (zs : List Int) (cap : Nat) (w : World) (hs : Seg w a zs) (hnil : a = none → cap = 0) (hnn : zs = [] → a = none) (hl : zs.length ≤ 140737488355328) :
    Calls Tryz.prog 62 #[.slice a zs.length cap] w fun e w' => ∃ a' c', e = .returned (.slice a' zs.length c') ∧ w'.ownsRow w.heap.size 5 1 (.slice a' zs.length c') zs.length (zs.map (Value.int .u8)) ∧ Below w.heap.size w w' := by
  obtain ⟨i0, hi, hz0, hz1, hz2⟩ := info_parts info_u8w
  have hm0 : (w.alloc (.cells #[] 5)).ownsRow w.heap.size 5 1 (.slice (some ⟨w.heap.size, 0, none⟩) 0 0) 0 [] := World.ownsRow_made w #[] 0 (Nat.le_refl _) (by decide) rfl
  have hb0 : Below w.heap.size w (w.alloc (.cells #[] 5)) := (Below.refl _ _).alloc (Nat.le_refl _) _
  cases a with
  | none =>
    have hz : zs = [] := by
      cases zs with
      | nil => rfl
      | cons z r => obtain ⟨b, off, hx, _⟩ := hs.at_ 0 (by simp); cases hx
    subst hz
    have hc := hnil rfl
    subst hc
    clear hm0 hb0
    have heq := Lib.run_eql_slice_nil (P := Tryz.prog) w 59 5 none 0 0 0 0 Tryz.underlying59
    go_enter Tryz.func62, Tryz.ntmps62
    go_wp2
    go_ret
    exact ⟨none, 0, rfl, World.ownsRow_nil _ _ _ _, Below.refl _ _⟩
  | some ad =>
    have heq := Lib.run_eql_slice_nil (P := Tryz.prog) w 59 5 (some ad) zs.length cap 0 0 Tryz.underlying59
    go_enter Tryz.func62, Tryz.ntmps62
    go_wp2_with (at_builtin; refine wpList_appS rfl (.tmp 5) (.tmp 6) 59 rfl w.heap.size 5 i0 (.int .u8 0) 1 Tryz.underlying59 hi hz0 hz1 hz2 rfl hm0 (hs.alloc _) (by intro h; cases h) rfl rfl (by omega) (by omega) (by simp) ?_; intro b2 c2 w2 hown2 hg2 hfr2 hnl2)
    go_ret
    have hb2 : Below w.heap.size w w2 := hb0.trans ((Below.refl _ _).grown hg2 (by simp) (by intro k e; cases e; exact Nat.le_refl _))
    rw [Nat.zero_add, List.nil_append] at hown2
    exact ⟨b2, c2, by simp, hown2, hb2⟩

set_option maxRecDepth 100000 in
set_option maxHeartbeats 1000000 in
theorem bytes_any (b B : Nat) (v : Value) (L : List Bool) (w : World) (h : WrL w b B v L) (hl : L.length ≤ 1125899906842560) :
    Calls Tryz.prog 39 #[.pointer (some ⟨b, 0, none⟩)] w fun e w' => ∃ a' c', e = .returned (.slice a' (toB L).length c') ∧ w'.ownsRow w.heap.size 5 1 (.slice a' (toB L).length c') (toB L).length ((toB L).map (Value.int .u8)) ∧ Below w.heap.size w w' := by
  obtain ⟨i0, hi, hz0, hz1, hz2⟩ := info_parts info_u8w
  obtain ⟨a, cap, ws, r, c, rfl, h, hc, hL⟩ := h
  have hlen : L.length = 8 * ws.length + c := by rw [hL, List.length_append, bB_len, bN_len]
  have HT : Hid (toB L = ws ++ if 0 < c then [(r : Int)] else []) := by
    show _ = _
    rw [hL, toB_bB h.bd, toB_rest h.lt hc]
  have hr : r < 256 := by
    have h1 := h.lt
    have h2 : 2 ^ c ≤ 2 ^ 8 := Nat.pow_le_pow_right (by decide) (by omega)
    omega
  have hc0 := three_cell0 h.hp
  have hc1 := three_cell1 h.hp
  have hc2 := three_cell2 h.hp
  have hlt := h.b_lt
  have hseg : Seg w a ws ∧ (a = none → cap = 0) := by
    obtain ⟨_, a', c', hv, hs, hx, hcc, _⟩ := own_seg h.own (M := 255) (by decide) h.bd
    cases hv
    exact ⟨hs, fun e => by subst e; exact (row_cap h.own).1⟩
  have C := clone_any a ws cap w hseg.1 hseg.2 h.nil (by omega)
  generalize toB L = T at *
  have hw : ws.length ≤ 140737488355320 := by omega
  clear hL hl hseg hlen
  go_enter Tryz.func39, Tryz.ntmps39
  go_wp2_with fail
  refine C.mono ?_
  rintro e w1 ⟨a1, k1, rfl, hown1, hb1⟩
  have hs1 := hb1.size
  have hd1 := (hb1.cell (p := ⟨b, 1, none⟩) hlt).trans hc1
  have hd2 := (hb1.cell (p := ⟨b, 2, none⟩) hlt).trans hc2
  by_cases h0 : 0 < c
  · rw [show (if 0 < c then [(r : Int)] else []) = [(r : Int)] from if_pos h0] at HT
    have hb8 : IntKind.u8.wrap (r : Int) = (r : Int) := by rw [byte_wrap, Nat.mod_eq_of_lt hr]
    go_wp2_with (at_builtin; refine wpList_app1 rfl (.tmp 18) (.tmp 25) 59 rfl w.heap.size 5 i0 (.int .u8 0) 1 Tryz.underlying59 hi hz0 hz1 hz2 rfl w1 (.int .u8 (r : Int)) rfl hown1 rfl rfl (by omega) (by omega) hs1 ?_; intro g2 c2 w2 hown2 hg2 hfr2)
    go_ret
    have hb2 : Below w.heap.size w w2 := hb1.trans ((Below.refl _ _).grown hg2 hs1 (fun k e => (hown1.lt k e).1))
    rw [HT.out]
    simp only [List.length_append, List.length_cons, List.length_nil, List.map_append, List.map_cons, List.map_nil]
    exact ⟨_, c2, rfl, hown2, hb2⟩
  · rw [show (if 0 < c then [(r : Int)] else []) = [] from if_neg h0, List.append_nil] at HT
    have h00 : c = 0 := by omega
    subst h00
    go_wp2
    go_ret
    rw [HT.out]
    exact ⟨a1, k1, rfl, hown1, hb1⟩
end Go.Proofs.YtcifalelnfeggaaGreatDoor

namespace Go.Proofs.YtcifalelnfeggaaGreatDoor
open Go.RowKit
set_option linter.unusedVariables false

set_option maxRecDepth 100000 in
set_option maxHeartbeats 400000 in
theorem clone5_any (a : Option Addr) (zs : List Int) (n cap : Nat) (hn : Hid (zs.length = n)) (w : World) (hs : SegZ w a zs) (hnil : a = none → cap = 0) (hl : n ≤ 100000) :
    Calls Tryz.prog 141 #[.slice a n cap] w fun e w' => ∃ a' c', e = .returned (.slice a' n c') ∧ w'.ownsRow w.heap.size 3 1 (.slice a' n c') n (zs.map (Value.int .i64)) ∧ Below w.heap.size w w' := by
  obtain ⟨i0, hi, hz0, hz1, hz2⟩ := info_parts info_int
  have hm0 : (w.alloc (.cells #[] 3)).ownsRow w.heap.size 3 1 (.slice (some ⟨w.heap.size, 0, none⟩) 0 0) 0 [] := World.ownsRow_made w #[] 0 (Nat.le_refl _) (by decide) rfl
  have hb0 : Below w.heap.size w (w.alloc (.cells #[] 3)) := (Below.refl _ _).alloc (Nat.le_refl _) _
  have hln := hn.out
  subst hln
  cases a with
  | none =>
    have hz : zs = [] := by
      cases zs with
      | nil => rfl
      | cons z r => obtain ⟨b, off, hx, _⟩ := hs.at_ 0 (by simp); cases hx
    subst hz
    have hc := hnil rfl
    subst hc
    clear hm0 hb0
    have heq := Lib.run_eql_slice_nil (P := Tryz.prog) w 39 3 none 0 0 0 0 Tryz.underlying39
    go_enter Tryz.func141, Tryz.ntmps141
    go_wp2
    go_ret
    exact ⟨none, 0, rfl, World.ownsRow_nil _ _ _ _, Below.refl _ _⟩
  | some ad =>
    have heq := Lib.run_eql_slice_nil (P := Tryz.prog) w 39 3 (some ad) zs.length cap 0 0 Tryz.underlying39
    go_enter Tryz.func141, Tryz.ntmps141
    go_wp2_with (at_builtin; refine wpList_appZ rfl (.tmp 5) (.tmp 6) 39 rfl w.heap.size 3 i0 (.int .i64 0) 8 Tryz.underlying39 hi hz0 hz1 hz2 rfl hm0 (hs.alloc _) (by intro h; cases h) rfl rfl (by omega) (by omega) (by simp) ?_; intro b2 c2 w2 hown2 hg2 hfr2 hnl2)
    go_ret
    have hb2 : Below w.heap.size w w2 := hb0.trans ((Below.refl _ _).grown hg2 (by simp) (by intro k e; cases e; exact Nat.le_refl _))
    rw [Nat.zero_add, List.nil_append] at hown2
    exact ⟨b2, c2, by simp, hown2, hb2⟩

/-- An encoder of these lengths, all of it below block N. -/
structure En (w : World) (b N : Nat) (zs : List Int) : Prop where
  ok : errC zs = 0
  lt : b < N
  row : ∃ la lc ca cc, w.heap[b]? = some (.cells #[.bool true, .slice la zs.length lc, .slice ca zs.length cc] 237 (0, 0)) ∧ SegZ w la zs ∧ SegZ w ca (cds zs) ∧ (∀ x, la = some x → x.block < N) ∧ (∀ x, ca = some x → x.block < N)
theorem En.old {w w' : World} {b N : Nat} {zs : List Int} (h : En w b N zs) (hb : Below N w w') : En w' b N zs := by
  obtain ⟨la, lc, ca, cc, h1, h2, h3, h4, h5⟩ := h.row
  refine ⟨h.ok, h.lt, la, lc, ca, cc, (hb.block b h.lt).trans h1, ?_, ?_, h4, h5⟩
  · exact h2.of_cells fun b' off i v _ ha hc => by
      have := h4 _ ha
      exact (hb.cell (p := ⟨b', off + i, none⟩) this).trans hc
  · exact h3.of_cells fun b' off i v _ ha hc => by
      have := h5 _ ha
      exact (hb.cell (p := ⟨b', off + i, none⟩) this).trans hc
theorem own_blk {w : World} {base n cap : Nat} {e : TypeId} {b : Option Addr} {xs : List Value} (h : w.ownsRow base e 1 (.slice b n cap) n xs) : ∀ x, b = some x → base ≤ x.block ∧ x.block < w.heap.size := by
  rcases h.2 with ⟨h1, h2⟩ | ⟨g, cp, cur, h1, h2, h3, h4, _⟩
  · simp only [Value.slice.injEq] at h1
    obtain ⟨rfl, _, rfl⟩ := h1
    intro x h
    cases h
  · simp only [Value.slice.injEq] at h1
    obtain ⟨rfl, _, rfl⟩ := h1
    intro x h
    cases h
    exact ⟨h2, (Array.getElem?_eq_some_iff.1 h3).1⟩
theorem cd_small {zs : List Int} (h : errC zs = 0) {s : Nat} (hs : s < zs.length) : cd zs s < 2 ^ ln zs s ∧ ln zs s ≤ 15 ∧ cd zs s < 32768 := by
  have hL := (errS_zero (errC_zero h).1).2
  have hp : spc zs ≤ 32768 := by
    have h1 := (errC_zero h).2
    unfold errR at h1
    by_cases c : 32768 < spc zs
    · rw [if_pos c] at h1; cases h1
    · omega
  have h1 := cd_lt hL hp hs
  have h2 := (hL.ln s).2
  have h3 : 2 ^ ln zs s ≤ 2 ^ 15 := Nat.pow_le_pow_right (by decide) h2
  exact ⟨h1, h2, Nat.lt_of_lt_of_le h1 h3⟩
theorem cds_bd {zs : List Int} (h : errC zs = 0) : ∀ z ∈ cds zs, -9223372036854775808 ≤ z ∧ z ≤ 9223372036854775807 := by
  intro z hz
  unfold cds at hz
  obtain ⟨s, hs, rfl⟩ := List.mem_map.1 hz
  rw [List.mem_range] at hs
  have := (cd_small h hs).2.2
  omega

def EncQ (w : World) (zs : List Int) (e : Ending) (w' : World) : Prop := (errC zs = 0 → ∃ b, e = .returned (.tuple #[.pointer (some ⟨b, 0, none⟩), .int .i64 0]) ∧ w.heap.size ≤ b ∧ En w' b w'.heap.size zs) ∧ (errC zs ≠ 0 → e = .returned (.tuple #[.pointer none, .int .i64 (errC zs)])) ∧ Below w.heap.size w w'
set_option maxRecDepth 100000 in
set_option maxHeartbeats 1000000 in
theorem newEnc_any (a : Option Addr) (zs : List Int) (n cap : Nat) (hn : Hid (zs.length = n)) (w : World) (hs : SegZ w a zs) (hnil : a = none → cap = 0) (hl : n ≤ 9223372036854775807) :
    Calls Tryz.prog 124 #[.slice a n cap] w fun e w' => EncQ w zs e w' := by
  have HC := codes_any a zs n cap hn w hs hl
  by_cases hok : errC zs = 0
  · have HOK : Hid (errC zs = 0) := hok
    have HL := errS_zero (errC_zero hok).1
    have hn288 : n ≤ 288 := by have := hn.out; have := HL.1; omega
    clear hok HL
    have HCL : Hid (∀ W, Below w.heap.size w W → Calls Tryz.prog 141 #[.slice a n cap] W fun e w' => ∃ a' c', e = .returned (.slice a' n c') ∧ w'.ownsRow W.heap.size 3 1 (.slice a' n c') n (zs.map (Value.int .i64)) ∧ Below W.heap.size W w') := fun W hW => clone5_any a zs n cap hn W (hs.old hW) hnil (by omega)
    have e1 : Hid (cdsR zs = cds zs) := by show _ = _; unfold cdsR; rw [if_pos HOK.out]
    have e3 : Hid ((cds zs).length = n) := by show _ = _; rw [cds_len]; exact hn.out
    go_enter Tryz.func124, Tryz.ntmps124
    go_wp2_with fail
    refine HC.mono ?_
    rintro e W1 ⟨b1, c1, rfl, O1, B1⟩
    rw [e1.out, e3.out] at O1
    rw [e1.out, e3.out, HOK.out]
    go_wp2_with fail
    refine (HCL.out _ B1).mono ?_
    rintro e W2 ⟨a2, c2, rfl, O2, B2⟩
    have B12 : Below w.heap.size w W2 := B1.trans (B2.mono B1.size)
    have O1b := own_below O1 B2
    go_wp2_with fail
    go_ret2
    have hbl := own_blk O2
    have hbl1 := own_blk O1b
    have hzb : ∀ z ∈ zs, -9223372036854775808 ≤ z ∧ z ≤ 9223372036854775807 := hs.mem
    refine ⟨fun _ => ⟨W2.heap.size, rfl, B12.size, HOK.out, by simp, a2, c2, b1, c1, ?_, ?_, ?_, ?_, ?_⟩, fun h => absurd HOK.out h, B12.alloc B12.size _⟩
    · rw [hn.out]; exact heap_alloc_new W2 _
    · exact (own_segZ O2 hzb).alloc _
    · exact (own_segZ O1b (cds_bd HOK.out)).alloc _
    · intro x hx
      have := hbl x hx
      simp
      omega
    · intro x hx
      have := hbl1 x hx
      simp
      omega
  · have HNK : Hid (¬ errC zs = 0) := hok
    have key : ∀ E : Int, E = 50 ∨ E = 51 ∨ E = 52 → errC zs = E → Calls Tryz.prog 124 #[.slice a n cap] w fun e w' => EncQ w zs e w' := by
      intro E hE hEE
      have HEE : Hid (errC zs = E) := hEE
      clear hEE hok
      rcases hE with rfl | rfl | rfl
      all_goals
        go_enter Tryz.func124, Tryz.ntmps124
        go_wp2_with fail
        refine HC.mono ?_
        rintro e W1 ⟨b1, c1, rfl, O1, B1⟩
        rw [HEE.out]
        clear O1
        go_wp2_with fail
        go_ret2
        exact ⟨fun h => absurd h HNK.out, fun _ => by rw [HEE.out]; rfl, B1⟩
    rcases errC_cases zs with h | h | h | h
    · exact absurd h hok
    · exact key 50 (.inl rfl) h
    · exact key 51 (.inr (.inl rfl)) h
    · exact key 52 (.inr (.inr rfl)) h
end Go.Proofs.YtcifalelnfeggaaGreatDoor

namespace Go.Proofs.YtcifalelnfeggaaGreatDoor
open Go.RowKit
set_option linter.unusedVariables false

/-- What a symbol costs, and its bits. -/
def costV (zs : List Int) (s : Int) : Int := if 0 ≤ s ∧ s < zs.length then zs.getD s.toNat 0 else 0
def cbits (zs : List Int) (s : Nat) : List Bool := (bN (cd zs s) (ln zs s)).reverse
def putB (zs : List Int) (s : Int) : List Bool := if costV zs s = 0 then [] else cbits zs s.toNat
def errP (zs : List Int) (s : Int) : Int := if costV zs s = 0 then 53 else 0
theorem En.cells {w : World} {b N : Nat} {zs : List Int} (h : En w b N zs) : ∃ la lc ca cc, w.cell? ⟨b, 0, none⟩ = some (.bool true) ∧ w.cell? ⟨b, 1, none⟩ = some (.slice la zs.length lc) ∧ w.cell? ⟨b, 2, none⟩ = some (.slice ca zs.length cc) ∧ SegZ w la zs ∧ SegZ w ca (cds zs) := by
  obtain ⟨la, lc, ca, cc, h1, h2, h3, _, _⟩ := h.row
  exact ⟨la, lc, ca, cc, three_cell0 h1, three_cell1 h1, three_cell2 h1, h2, h3⟩

set_option maxRecDepth 100000 in
set_option maxHeartbeats 1000000 in
theorem cost5_any (b N : Nat) (zs : List Int) (s : Int) (w : World) (h : En w b N zs) :
    Calls Tryz.prog 142 #[.pointer (some ⟨b, 0, none⟩), .int .i64 s] w fun e w' => e = .returned (.int .i64 (costV zs s)) ∧ w' = w := by
  obtain ⟨la, lc, ca, cc, c0, c1, c2, s1, s2⟩ := h.cells
  have hl : zs.length ≤ 288 := (errS_zero (errC_zero h.ok).1).1
  have HLL : Hid (∃ n, n = zs.length) := ⟨_, rfl⟩
  obtain ⟨n, hn⟩ := HLL.out
  have HN : Hid (n = zs.length) := hn
  rw [← hn] at c1 c2 hl
  clear hn HLL
  by_cases h0 : s < 0
  · have HV : Hid (costV zs s = 0) := by show _ = _; unfold costV; rw [if_neg (by omega)]
    go_enter Tryz.func142, Tryz.ntmps142
    go_wp2_with fail
    go_ret
    exact ⟨by rw [HV.out]; rfl, rfl⟩
  · obtain ⟨k, rfl⟩ : ∃ k : Nat, s = (k : Int) := ⟨s.toNat, by omega⟩
    by_cases hk : k < n
    · have hki : (k : Int) < (n : Int) := by omega
      obtain ⟨g, off, rfl, ck⟩ := s1.at_ k (by have := HN.out; omega)
      have HV : Hid (costV zs k = zs.getD k 0) := by show _ = _; unfold costV; rw [if_pos (by have := HN.out; omega), Int.toNat_natCast]
      generalize zs.getD k 0 = v at *
      go_enter Tryz.func142, Tryz.ntmps142
      go_wp2_with fail
      go_ret
      exact ⟨by rw [HV.out]; rfl, rfl⟩
    · have hki : ¬ (k : Int) < (n : Int) := by omega
      have HV : Hid (costV zs k = 0) := by show _ = _; unfold costV; rw [if_neg (by have := HN.out; omega)]
      go_enter Tryz.func142, Tryz.ntmps142
      go_wp2_with fail
      go_ret
      exact ⟨by rw [HV.out]; rfl, rfl⟩
theorem costV_pos {zs : List Int} {s : Int} (h : costV zs s ≠ 0) : ∃ k : Nat, s = (k : Int) ∧ k < zs.length ∧ costV zs s = zs.getD k 0 ∧ zs.getD k 0 ≠ 0 := by
  unfold costV at h ⊢
  by_cases c : 0 ≤ s ∧ s < zs.length
  · rw [if_pos c] at h ⊢
    exact ⟨s.toNat, by omega, by omega, rfl, h⟩
  · rw [if_neg c] at h
    exact absurd rfl h

set_option maxRecDepth 100000 in
set_option maxHeartbeats 1000000 in
theorem put5_any (b N : Nat) (zs : List Int) (s : Int) (bw B : Nat) (v : Value) (L : List Bool) (w : World) (h : En w b N zs) (hw : WrL w bw B v L) (hl : L.length ≤ 1125899906842560) :
    Calls Tryz.prog 125 #[.pointer (some ⟨b, 0, none⟩), .pointer (some ⟨bw, 0, none⟩), .int .i64 s] w fun e w' => e = .returned (.int .i64 (errP zs s)) ∧ ∃ v', WrL w' bw B v' (L ++ putB zs s) ∧ Kp (WS bw v) w w' ∧ Fresh w v v' := by
  obtain ⟨la, lc, ca, cc, c0, c1, c2, s1, s2⟩ := h.cells
  have HCO := cost5_any b N zs s w h
  by_cases hc : costV zs s = 0
  · have HP : Hid (errP zs s = 53 ∧ putB zs s = []) := ⟨by unfold errP; rw [if_pos hc], by unfold putB; rw [if_pos hc]⟩
    rw [hc] at HCO
    clear hc
    go_enter Tryz.func125, Tryz.ntmps125
    go_wp2_with fail
    refine HCO.mono ?_
    rintro e w1 ⟨rfl, hw1⟩
    subst w1
    go_wp2_with fail
    go_ret
    exact ⟨by rw [HP.out.1]; rfl, v, by rw [HP.out.2, List.append_nil]; exact hw, Kp.refl _ _, fun k hk => .inl hk⟩
  · obtain ⟨k, rfl, hk, hv, hv0⟩ := costV_pos hc
    have hL := (errS_zero (errC_zero h.ok).1)
    have HLN := hL.2.ln k
    have HP : Hid (errP zs k = 0 ∧ putB zs k = cbits zs k) := ⟨by unfold errP; rw [if_neg hc], by unfold putB; rw [if_neg hc, Int.toNat_natCast]⟩
    have HSM := cd_small h.ok hk
    have HT := turned_ok bw B v L (cd zs k) (ln zs k) w hw HSM.1 (by omega) hl
    have HCB : Hid (cbits zs k = (bN (cd zs k) (ln zs k)).reverse) := rfl
    rw [← HCB.out] at HT
    rw [hv, HLN.1] at HCO
    obtain ⟨g, off, rfl, ck⟩ := s2.at_ k (by rw [cds_len]; exact hk)
    rw [cds_get zs hk] at ck
    have hn288 := hL.1
    have hl0 : ln zs k ≠ 0 := by intro e; rw [HLN.1, e] at hv0; exact hv0 rfl
    have hl15 := HLN.2
    have hcs := HSM.2.2
    have HLK : Hid (zs.getD k 0 = (ln zs k : Int)) := HLN.1
    clear HLN HSM hv hv0 hc hL
    have HLL : Hid (∃ n, n = zs.length) := ⟨_, rfl⟩
    obtain ⟨n, hn⟩ := HLL.out
    have HN : Hid (n = zs.length) := hn
    rw [← hn] at c1 c2 hk hn288
    clear hn HLL
    have hki : (k : Int) < (n : Int) := by omega
    generalize cd zs k = c at *
    generalize ln zs k = m at *
    have hm0 : ¬ (m : Int) = 0 := by omega
    have hcw : IntKind.u64.wrap (c : Int) = (c : Int) := IntWalk.u64_in _ (by omega)
    go_enter Tryz.func125, Tryz.ntmps125
    go_wp2_with fail
    refine HCO.mono ?_
    rintro e w1 ⟨rfl, hw1⟩
    subst w1
    go_wp2_with fail
    refine HT.mono ?_
    rintro e w1 ⟨rfl, v', h1, h2, h3⟩
    go_wp2_with fail
    go_ret
    exact ⟨by rw [HP.out.1]; rfl, v', by rw [HP.out.2]; exact h1, h2, h3⟩
end Go.Proofs.YtcifalelnfeggaaGreatDoor

namespace Go.Proofs.YtcifalelnfeggaaGreatDoor
open Go.RowKit
set_option linter.unusedVariables false

/-- What a decoder's block holds. -/
def tbl (zs S : List Int) : List Int := cnts zs ++ S ++ [(tot zs : Int)]
def dl (most : Int) (zs S : List Int) : List Int := most :: tbl zs S
def Z288 : List Int := List.replicate 288 0
theorem Z288_len : Z288.length = 288 := List.length_replicate ..
theorem built_dec (n : Int) : (Tryz.prog.built 224 [(0, Value.int .i64 n)]).getD #[] = arr (dl n [] Z288) := by kernel_rfl
theorem tbl_len {zs S : List Int} (h : S.length = 288) : (tbl zs S).length = 305 := by simp [tbl, cnts_len, h]
theorem tbl_cnt {zs S : List Int} {l : Nat} (h : l < 16) : (tbl zs S).getD l 0 = (cC zs l : Int) := by
  have e := cnts_get zs h
  have hl := cnts_len zs
  unfold tbl
  rw [List.append_assoc]
  simpa [List.getD, List.getElem?_append_left (show l < (cnts zs).length by omega)] using e
theorem tbl_sym {zs S : List Int} (hS : S.length = 288) {i : Nat} (h : i < 288) : (tbl zs S).getD (16 + i) 0 = S.getD i 0 := by
  have hl := cnts_len zs
  unfold tbl
  rw [List.append_assoc]
  simp [List.getD, List.getElem?_append_right (show (cnts zs).length ≤ 16 + i by omega), hl, List.getElem?_append_left (show i < S.length by omega)]
theorem tbl_tot {zs S : List Int} (hS : S.length = 288) : (tbl zs S).getD 304 0 = (tot zs : Int) := by
  have hl := cnts_len zs
  unfold tbl
  simp [List.getD, hl, hS]
theorem dl_get (m : Int) (zs S : List Int) (i : Nat) : (dl m zs S).getD (1 + i) 0 = (tbl zs S).getD i 0 := by
  rw [Nat.add_comm]
  simp [dl, List.getD]

set_option maxRecDepth 100000 in
set_option maxHeartbeats 1000000 in
theorem newDec_any (n : Nat) (h1 : 1 ≤ n) (h2 : n ≤ 288) (w : World) :
    Calls Tryz.prog 129 #[.int .i64 (n : Int)] w fun e w' => e = .returned (.tuple #[.pointer (some ⟨w.heap.size, 0, none⟩), .int .i64 0]) ∧ w' = w.alloc (.cells (arr (dl n [] Z288)) 224) := by
  have h1i : ¬ (n : Int) < 1 := by omega
  have h2i : ¬ (288 : Int) < (n : Int) := by omega
  go_enter Tryz.func129, Tryz.ntmps129
  go_wp2_with (refine wpList_build rfl _ _ rfl (by kernel_rfl) ?_)
  go_ret2
  exact ⟨rfl, by rw [built_dec]⟩
set_option maxRecDepth 100000 in
set_option maxHeartbeats 1000000 in
theorem newDec_no (n : Int) (h : n < 1 ∨ 288 < n) (w : World) :
    Calls Tryz.prog 129 #[.int .i64 n] w fun e w' => e = .returned (.tuple #[.pointer none, .int .i64 1]) ∧ w' = w := by
  by_cases h1 : n < 1
  · go_enter Tryz.func129, Tryz.ntmps129
    go_wp2_with fail
    go_ret2
    exact ⟨rfl, rfl⟩
  · have h2 : 288 < n := by omega
    go_enter Tryz.func129, Tryz.ntmps129
    go_wp2_with fail
    go_ret2
    exact ⟨rfl, rfl⟩
/-- Where each symbol with a code stands. -/
def SymOk (zs S : List Int) (j : Nat) : Prop := ∀ s, s < j → zs.getD s 0 ≠ 0 → S.getD (cS zs (ln zs s) + rk zs s) 0 = (s : Int)
/-- A decoder with room for so many symbols, a code loaded. -/
structure De (w : World) (b most : Nat) (zs : List Int) : Prop where
  ok : errC zs = 0
  mo : 1 ≤ most ∧ most ≤ 288
  row : ∃ S, S.length = 288 ∧ SymOk zs S zs.length ∧ w.heap[b]? = some (.cells (arr (dl most zs S)) 224 (0, 0))
theorem errC_nil : errC [] = 0 := by decide
theorem De.new {w : World} {b n : Nat} (h1 : 1 ≤ n) (h2 : n ≤ 288) (h : w.heap[b]? = some (.cells (arr (dl n [] Z288)) 224 (0, 0))) : De w b n [] :=
  ⟨errC_nil, ⟨h1, h2⟩, Z288, Z288_len, fun s hs => by simp at hs, h⟩
theorem De.lt {w : World} {b n : Nat} {zs : List Int} (h : De w b n zs) : b < w.heap.size := by
  obtain ⟨S, _, _, h⟩ := h.row
  exact (Array.getElem?_eq_some_iff.1 h).1
theorem De.keep {w w' : World} {b n : Nat} {zs : List Int} (h : De w b n zs) (hb : w'.heap[b]? = w.heap[b]?) : De w' b n zs := by
  obtain ⟨S, h1, h2, h3⟩ := h.row
  exact ⟨h.ok, h.mo, S, h1, h2, hb.trans h3⟩

end Go.Proofs.YtcifalelnfeggaaGreatDoor
