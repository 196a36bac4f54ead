
import Derived.Test.YtoeabfcnfofbiaaDoorBtRef
import Derived.Test.YtoeabfcnfofbiaaDoorBtMem
import Derived.Deep.RegionHeld3
import Derived.Deep.AppendLies
import Derived.Deep.RegionLaw
import Derived.Deep.QuietTactic
import Derived.BigQuiet
namespace Go.Proofs.YtoeabfcnfofbiaaDoor
open Go.RowKit
set_option linter.unusedVariables false

theorem info_u8w : (Tryd.prog.info? 5).map (fun i => (i.zero, i.size, i.bytes)) = some (some (.int .u8 0), 1, 1) := by kernel_rfl

/-- A Writer in a block of its own: full bytes in a row of its own, and bits behind them. -/
structure Wr (w : World) (b B : Nat) (a : Option Addr) (cap : Nat) (ws : List Int) (r c : Nat) : Prop where
  hp : w.heap[b]? = some (.cells #[.slice a ws.length cap, .int .u64 (r : Int), .int .i64 (c : Int)] 54 (0, 0))
  own : w.ownsRow B 5 1 (.slice a ws.length cap) ws.length (ws.map (Value.int .u8))
  nil : ws = [] → a = none
  bd : ∀ z ∈ ws, 0 ≤ z ∧ z ≤ 255
  ne : (Value.slice a ws.length cap).ownBlock ≠ some b
  bB : B ≤ w.heap.size
  lt : r < 2 ^ c
theorem Wr.b_lt {w : World} {b B : Nat} {a : Option Addr} {cap : Nat} {ws : List Int} {r c : Nat} (h : Wr w b B a cap ws r c) : b < w.heap.size := (Array.getElem?_eq_some_iff.1 h.hp).1
theorem Wr.kp {w w' : World} {b B : Nat} {a : Option Addr} {cap : Nat} {ws : List Int} {r c : Nat} {S : Nat → Prop} (h : Wr w b B a cap ws r c) (hk : Kp S w w') (h1 : ¬ S b) (h2 : ∀ k, (Value.slice a ws.length cap).ownBlock = some k → ¬ S k) : Wr w' b B a cap ws r c :=
  ⟨hk.heap h.hp h1, own_kp h.own hk h2, h.nil, h.bd, h.ne, Nat.le_trans h.bB hk.size, h.lt⟩

def cellN (w : World) (b i : Nat) : Nat := (intOf ((w.cell? ⟨b, i, none⟩).getD (.int .i64 0))).toNat
theorem cellN_of {w : World} {b i : Nat} {k : IntKind} {n : Int} (h : w.cell? ⟨b, i, none⟩ = some (.int k n)) : cellN w b i = n.toNat := by unfold cellN; rw [h]; rfl

/-- The blocks of a Writer. -/
def WS (b : Nat) (v : Value) : Nat → Prop := fun k => k = b ∨ v.ownBlock = some k

theorem shl_nat {r v c k : Nat} (h : r < 2 ^ c) (hv : v < 2 ^ k) (hck : c + k ≤ 63) : r + v * 2 ^ c < 2 ^ (c + k) := by
  have h1 : v + 1 ≤ 2 ^ k := hv
  have h2 : (v + 1) * 2 ^ c ≤ 2 ^ k * 2 ^ c := Nat.mul_le_mul_right _ h1
  rw [← Nat.pow_add, Nat.add_comm k c, Nat.add_mul, Nat.one_mul] at h2
  omega
theorem bN_join {r v c k : Nat} (h : r < 2 ^ c) : bN (r + v * 2 ^ c) (c + k) = bN r c ++ bN v k := by
  rw [bN_add]
  have h1 : (r + v * 2 ^ c) / 2 ^ c = v := by
    rw [Nat.add_mul_div_right _ _ (Nat.two_pow_pos c), Nat.div_eq_of_lt h, Nat.zero_add]
  rw [h1, ← bN_mod (r + v * 2 ^ c) c, Nat.add_mul_mod_self_right, bN_mod]

theorem ws_back {w : World} {b j : Nat} {v v1 : Value} (h : Fresh w v v1) (hj : j < w.heap.size) (e : WS b v1 j) : WS b v j := by
  rcases e with e | e
  · exact .inl e
  · rcases h j e with e | e
    · exact .inr e
    · omega
theorem Fresh.trans {w wr : World} {v v1 v2 : Value} (h : Fresh w v v1) (k : Fresh wr v1 v2) (hs : w.heap.size ≤ wr.heap.size) : Fresh w v v2 := by
  intro j e
  rcases k j e with e | e
  · exact h j e
  · exact .inr (by omega)
theorem byte_wrap (r : Nat) : IntKind.u8.wrap (r : Int) = ((r % 256 : Nat) : Int) := by rw [IntKind.wrap_u8]; omega
/-- A full byte goes behind the row. -/
theorem Wr.pushed {wr w2 : World} {b B : Nat} {a1 : Option Addr} {cap1 : Nat} {ws1 : List Int} {r1 c1 : Nat} {o : Obj} (h : Wr wr b B a1 cap1 ws1 r1 c1) (h8 : 8 ≤ c1) {gg cap2 : Nat}
    (hown : w2.ownsRow B 5 1 (.slice (some ⟨gg, 0, none⟩) (ws1.length + 1) cap2) (ws1.length + 1) (ws1.map (Value.int .u8) ++ [.int .u8 (IntKind.u8.wrap (r1 : Int))]))
    (hgrow : ((wr.alloc o).drew).grownBy w2 (Value.slice a1 ws1.length cap1).ownBlock) (hat : (Value.slice a1 ws1.length cap1).ownBlock = some gg ∨ gg = wr.heap.size + 1) :
    Wr (((w2.setCell ⟨b, 0, none⟩ (.slice (some ⟨gg, 0, none⟩) (ws1.length + 1) cap2)).setCell ⟨b, 1, none⟩ (.int .u64 ((r1 : Int) / 256))).setCell ⟨b, 2, none⟩ (.int .i64 ((c1 : Int) - 8))) b B (some ⟨gg, 0, none⟩) cap2 (ws1 ++ [((r1 % 256 : Nat) : Int)]) (r1 / 256) (c1 - 8) ∧
    Kp (WS b (.slice a1 ws1.length cap1)) wr (((w2.setCell ⟨b, 0, none⟩ (.slice (some ⟨gg, 0, none⟩) (ws1.length + 1) cap2)).setCell ⟨b, 1, none⟩ (.int .u64 ((r1 : Int) / 256))).setCell ⟨b, 2, none⟩ (.int .i64 ((c1 : Int) - 8))) ∧
    Fresh wr (.slice a1 ws1.length cap1) (.slice (some ⟨gg, 0, none⟩) (ws1 ++ [((r1 % 256 : Nat) : Int)]).length cap2) := by
  have hlt := h.b_lt
  have hgb : gg ≠ b := by
    rcases hat with e | e
    · intro e2; subst e2; exact h.ne e
    · omega
  have hka : Kp (WS b (.slice a1 ws1.length cap1)) wr ((wr.alloc o).drew) := (Kp.alloc _ _).drew
  have hk2 : Kp (WS b (.slice a1 ws1.length cap1)) wr w2 := hka.trans (Kp.grown (S := WS b (.slice a1 ws1.length cap1)) hgrow (fun i e => .inr e)) (fun _ _ e => e)
  have hp2 : w2.heap[b]? = some (.cells #[.slice a1 ws1.length cap1, .int .u64 (r1 : Int), .int .i64 (c1 : Int)] 54 (0, 0)) := by
    rw [hgrow.block b (by simp; omega) (Ne.symm h.ne)]
    show (wr.alloc o).heap[b]? = _
    rw [Below.heap_alloc _ _ _ hlt]; exact h.hp
  have hp3 := three_set2 (three_set1 (three_set0 hp2 (.slice (some ⟨gg, 0, none⟩) (ws1.length + 1) cap2)) (.int .u64 ((r1 : Int) / 256))) (.int .i64 ((c1 : Int) - 8))
  have hkb : Kp (fun j => j = b) w2 (((w2.setCell ⟨b, 0, none⟩ (.slice (some ⟨gg, 0, none⟩) (ws1.length + 1) cap2)).setCell ⟨b, 1, none⟩ (.int .u64 ((r1 : Int) / 256))).setCell ⟨b, 2, none⟩ (.int .i64 ((c1 : Int) - 8))) :=
    ((Kp.set (S := fun j => j = b) rfl _).trans (Kp.set (S := fun j => j = b) rfl _) (fun _ _ e => e)).trans (Kp.set (S := fun j => j = b) rfl _) (fun _ _ e => e)
  have hown3 := own_kp hown hkb (fun j e1 e2 => by subst e2; cases e1; exact hgb rfl)
  have hlen : (ws1 ++ [((r1 % 256 : Nat) : Int)]).length = ws1.length + 1 := by simp
  refine ⟨⟨?_, ?_, by simp, ?_, ?_, ?_, ?_⟩, hk2.trans hkb (fun j _ e => .inl e), ?_⟩
  · rw [hp3, hlen]
    have e1 : ((r1 : Int) / 256) = ((r1 / 256 : Nat) : Int) := by omega
    have e2 : ((c1 : Int) - 8) = ((c1 - 8 : Nat) : Int) := by omega
    rw [e1, e2]
  · rw [hlen]
    rw [byte_wrap] at hown3
    simpa using hown3
  · intro z hz
    rw [List.mem_append] at hz
    rcases hz with hz | hz
    · exact h.bd z hz
    · simp at hz; omega
  · intro e; cases e; exact hgb rfl
  · exact Nat.le_trans h.bB (Nat.le_trans hk2.size hkb.size)
  · have := h.lt
    rw [Nat.div_lt_iff_lt_mul (by decide), show (256 : Nat) = 2 ^ 8 from rfl, ← Nat.pow_add, Nat.sub_add_cancel h8]
    exact this
  · intro j e
    cases e
    rcases hat with e | e
    · exact .inl e
    · right; show wr.heap.size ≤ gg; omega
theorem bits_push (ws : List Int) (r c : Nat) (h8 : 8 ≤ c) : bB (ws ++ [((r % 256 : Nat) : Int)]) ++ bN (r / 256) (c - 8) = bB ws ++ bN r c := by
  rw [bB_append, bB_one, Int.toNat_natCast, List.append_assoc]
  congr 1
  rw [show c = 8 + (c - 8) by omega, bN_add, Nat.add_sub_cancel_left]
  rw [show (256 : Nat) = 2 ^ 8 from rfl, bN_mod]

set_option maxRecDepth 100000 in
set_option maxHeartbeats 4000000 in
theorem lay_any (b B : Nat) (a : Option Addr) (cap : Nat) (ws : List Int) (r c v k : Nat) (w : World) (h : Wr w b B a cap ws r c) (hc : c < 8) (hv : v < 2 ^ k) (hk : k ≤ 56) (hl : ws.length ≤ 140737488355320) :
    Calls Tryd.prog 43 #[.pointer (some ⟨b, 0, none⟩), .int .u64 (v : Int), .int .i64 (k : Int)] w fun e w' => e = .returned (.tuple #[]) ∧ ∃ a' cap' ws' r' c',
      Wr w' b B a' cap' ws' r' c' ∧ c' < 8 ∧ bB ws' ++ bN r' c' = bB ws ++ bN r c ++ bN v k ∧ Kp (WS b (.slice a ws.length cap)) w w' ∧ Fresh w (.slice a ws.length cap) (.slice a' ws'.length cap') := by
  obtain ⟨i0, hi, hz0, hz1, hz2⟩ := info_parts info_u8w
  have hc0 := three_cell0 h.hp
  have hc1 := three_cell1 h.hp
  have hc2 := three_cell2 h.hp
  have hf := three_free h.hp
  have hlt := h.b_lt
  have hsl : IntKind.u64.wrap ((v : Int) * 2 ^ c) = ((v * 2 ^ c : Nat) : Int) := by
    have h1 := shl_nat h.lt hv (by omega)
    have h2 := pow_le_63 (k := c + k) (by omega)
    rw [show ((v : Int) * 2 ^ c) = ((v * 2 ^ c : Nat) : Int) by simp]
    generalize v * 2 ^ c = p at *
    rw [IntWalk.u64_in _ ⟨by omega, by omega⟩]
  have hor : bits .or .u64 (r : Int) ((v * 2 ^ c : Nat) : Int) = ((r + v * 2 ^ c : Nat) : Int) := by
    have h1 := shl_nat h.lt hv (by omega)
    have h2 := pow_le_63 (k := c + k) (by omega)
    exact or_pow h.lt (by omega)
  have HB : Hid (bN (r + v * 2 ^ c) (c + k) = bN r c ++ bN v k) := bN_join h.lt
  have HL := shl_nat h.lt hv (by omega : c + k ≤ 63)
  have hv2 : v < 18446744073709551616 := by
    have h2 := pow_le_63 (k := k) (by omega)
    omega
  generalize v * 2 ^ c = x at *
  have hp := h.hp
  have hown := h.own
  obtain ⟨y, hy⟩ : ∃ y, y = r + x := ⟨_, rfl⟩
  have hor2 : bits .or .u64 (r : Int) (x : Int) = (y : Int) := by rw [hor, hy]
  rw [← hy] at HB HL
  clear hor hy
  go_enter Tryd.func43, Tryd.ntmps43
  go_wp2
  go_region
  have hp1 : ((w.setCell ⟨b, 1, none⟩ (.int .u64 (y : Int))).drew).heap[b]? = some (.cells #[.slice a ws.length cap, .int .u64 (y : Int), .int .i64 (c : Int)] 54 (0, 0)) := three_set1 hp _
  have hk1 : Kp (fun j => j = b) w ((w.setCell ⟨b, 1, none⟩ (.int .u64 (y : Int))).drew) := (Kp.set (S := fun j => j = b) rfl _).drew
  generalize (w.setCell ⟨b, 1, none⟩ (.int .u64 (y : Int))).drew = w1 at *
  have hd0 := three_cell0 hp1
  have hd1 := three_cell1 hp1
  have hd2 := three_cell2 hp1
  have hdf := three_free hp1
  go_wp2
  have hp2 : (w1.setCell ⟨b, 2, none⟩ (.int .i64 ((c : Int) + (k : Int)))).heap[b]? = some (.cells #[.slice a ws.length cap, .int .u64 (y : Int), .int .i64 ((c : Int) + (k : Int))] 54 (0, 0)) := three_set2 hp1 _
  have hk2 : Kp (fun j => j = b) w (w1.setCell ⟨b, 2, none⟩ (.int .i64 ((c : Int) + (k : Int)))) := hk1.trans (Kp.set (S := fun j => j = b) rfl _) (fun _ _ e => e)
  have hst : Wr (w1.setCell ⟨b, 2, none⟩ (.int .i64 ((c : Int) + (k : Int)))) b B a cap ws y (c + k) :=
    ⟨by simpa using hp2, own_kp hown hk2 (fun j e1 e2 => h.ne (e2 ▸ e1)), h.nil, h.bd, h.ne, Nat.le_trans h.bB hk2.size, HL⟩
  have HB2 : Hid (bB ws ++ bN y (c + k) = bB ws ++ bN r c ++ bN v k) := by show _ = _; rw [HB.out, List.append_assoc]
  have hk3 : Kp (WS b (.slice a ws.length cap)) w (w1.setCell ⟨b, 2, none⟩ (.int .i64 ((c : Int) + (k : Int)))) := hk2.mono (fun _ _ e => .inl e)
  generalize w1.setCell ⟨b, 2, none⟩ (.int .i64 ((c : Int) + (k : Int))) = w2 at *
  clear hp1 hp2 hd0 hd1 hd2 hdf hk1 hk2 hc0 hc1 hc2 hf hp hown hsl hor2 HB HL
  go_loopw [] (fun wr => ∃ a1 cap1 ws1 r1 c1, Wr wr b B a1 cap1 ws1 r1 c1 ∧ c1 ≤ 63 ∧ Hid (bB ws1 ++ bN r1 c1 = bB ws ++ bN r c ++ bN v k) ∧ Kp (WS b (.slice a ws.length cap)) w wr ∧ Fresh w (.slice a ws.length cap) (.slice a1 ws1.length cap1) ∧ 8 * ws1.length + c1 = 8 * ws.length + c + k) (fun wr => cellN wr b 2)
  case atStart => exact ⟨a, cap, ws, y, c + k, hst, by omega, HB2, hk3, fun j e => .inl e, by omega⟩
  case round =>
    obtain ⟨a1, cap1, ws1, r1, c1, hs1, hc1, HQ, hkr, hfr, hn1⟩ := hrel
    clear hst HB2 hk3
    have hd0 := three_cell0 hs1.hp
    have hd1 := three_cell1 hs1.hp
    have hd2 := three_cell2 hs1.hp
    have hdf := three_free hs1.hp
    have hdf0 := hdf 0
    have hltr := hs1.b_lt
    have hfa : ∀ o, (wr.alloc o).frozen? ⟨b, 0, none⟩ = false := fun o => (((Below.refl wr.heap.size wr).alloc (Nat.le_refl _) o).frozen (p := ⟨b, 0, none⟩) hltr).trans hdf0
    have hca : ∀ o, (wr.alloc o).cell? ⟨b, 0, none⟩ = some (.slice a1 ws1.length cap1) := fun o => (((Below.refl wr.heap.size wr).alloc (Nat.le_refl _) o).cell (p := ⟨b, 0, none⟩) hltr).trans hd0
    have hown1 := hs1.own
    have hbase := hs1.bB
    have hr1 : r1 < 18446744073709551616 := by
      have h2 := pow_le_63 (k := c1) (by omega)
      have := hs1.lt
      omega
    have hne := hs1.ne
    have hn1b : 8 * ws1.length + c1 ≤ 8 * ws.length + c + k := by omega
    have HN1 : Hid (8 * ws1.length + c1 = 8 * ws.length + c + k) := hn1
    clear hn1
    by_cases h8 : 8 ≤ c1
    · go_wp2
      go_region_law
        (refine step_append_lies _ (by rfl) _ _ _ (by rfl) B 5 i0 _ 1 1 Tryd.underlying49 hi hz0 hz1 hz2 rfl (by omega) (.slice a1 ws1.length cap1) ws1.length (ws1.map (Value.int .u8)) (by rfl) ((hown1.alloc _).drew)
            ⟨wr.heap.size, 0, none⟩ 1 1 [.int .u8 (IntKind.u8.wrap (r1 : Int))] (by rfl) (by rfl) (World.news_of_block (cs := #[.int .u8 (IntKind.u8.wrap (r1 : Int))]) (t := 5) (fr := (0, 0)) (heap_alloc_new wr _)) (by simp [Value.oneCell'])
            (by omega) (by unfold maxLen; omega) (by omega) (by simp; omega) (wr.heap.size + 1) (by simp) ?_; intro gg cap2 w2 hown2 hgrow hat hlt2
         have hx0 := (hgrow.cell_far ⟨b, 0, none⟩ (by simp; omega) (Ne.symm hne)).trans (hca _)
         have hxf := (hgrow.frozen_far ⟨b, 0, none⟩ (by simp; omega) (Ne.symm hne)).trans (hfa _))
      all_goals
        have hpu := hs1.pushed h8 hown2 hgrow hat
        have hp2 : (w2.setCell ⟨b, 0, none⟩ (.slice (some ⟨gg, 0, none⟩) (ws1.length + 1) cap2)).heap[b]? = some (.cells #[.slice (some ⟨gg, 0, none⟩) (ws1.length + 1) cap2, .int .u64 (r1 : Int), .int .i64 (c1 : Int)] 54 (0, 0)) := by
          refine three_set0 (x := .slice a1 ws1.length cap1) ?_ _
          rw [hgrow.block b (by simp; omega) (Ne.symm hne)]
          show (wr.alloc _).heap[b]? = _
          rw [Below.heap_alloc _ _ _ hltr]; exact hs1.hp
        generalize w2.setCell ⟨b, 0, none⟩ (.slice (some ⟨gg, 0, none⟩) (ws1.length + 1) cap2) = w3 at *
        have he0 := three_cell0 hp2
        have he1 := three_cell1 hp2
        have he2 := three_cell2 hp2
        have hef := three_free hp2
        clear hp2 hx0 hxf hgrow hown2 hd0 hd1 hdf hdf0 hfa hca hown1 hs1
        have HM : Hid (cellN wr b 2 = c1) := by show _ = _; rw [cellN_of hd2]; simp
        go_wp2
        go_roundw
        case rel => exact ⟨_, cap2, ws1 ++ [((r1 % 256 : Nat) : Int)], r1 / 256, c1 - 8, hpu.1, by omega, (by show _ = _; rw [bits_push _ _ _ h8]; exact HQ.out), hkr.trans hpu.2.1 (fun j hj e => ws_back hfr hj e), hfr.trans hpu.2.2 hkr.size, by have := HN1.out; simp; omega⟩
        case measure => rw [HM.out, cellN_of (three_cell2 hpu.1.hp)]; simp; omega
    · clear hfa hca hdf0 hdf
      go_wp2
      go_end0
      exact ⟨rfl, a1, cap1, ws1, r1, c1, hs1, by omega, HQ.out, hkr, hfr⟩
end Go.Proofs.YtoeabfcnfofbiaaDoor
