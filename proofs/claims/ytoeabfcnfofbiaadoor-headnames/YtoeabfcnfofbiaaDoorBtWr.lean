
import Derived.Test.YtoeabfcnfofbiaaDoorBtLay
namespace Go.Proofs.YtoeabfcnfofbiaaDoor
open Go.RowKit
set_option linter.unusedVariables false

/-- A Writer that has these bits; v: its row. -/
def WrL (w : World) (b B : Nat) (v : Value) (L : List Bool) : Prop := ∃ a cap ws r c, v = .slice a ws.length cap ∧ Wr w b B a cap ws r c ∧ c < 8 ∧ L = bB ws ++ bN r c
theorem WrL.kp {w w' : World} {b B : Nat} {v : Value} {L : List Bool} {S : Nat → Prop} (h : WrL w b B v L) (hk : Kp S w w') (h1 : ¬ S b) (h2 : ∀ k, v.ownBlock = some k → ¬ S k) : WrL w' b B v L := by
  obtain ⟨a, cap, ws, r, c, rfl, h, r⟩ := h
  exact ⟨a, cap, ws, _, c, rfl, h.kp hk h1 h2, r⟩
theorem WrL.b_lt {w : World} {b B : Nat} {v : Value} {L : List Bool} (h : WrL w b B v L) : b < w.heap.size := by
  obtain ⟨a, cap, ws, r, c, rfl, h, r⟩ := h
  exact h.b_lt
theorem WrL.own_lt {w : World} {b B : Nat} {v : Value} {L : List Bool} (h : WrL w b B v L) : ∀ k, v.ownBlock = some k → B ≤ k ∧ k < w.heap.size ∧ k ≠ b := by
  obtain ⟨a, cap, ws, r, c, rfl, h, r⟩ := h
  intro k e
  exact ⟨(h.own.lt k e).1, (h.own.lt k e).2, fun e2 => h.ne (e2 ▸ e)⟩
theorem WrL.new {w : World} {b B : Nat} (h : w.heap[b]? = some (.cells #[.slice none 0 0, .int .u64 0, .int .i64 0] 54 (0, 0))) (hB : B ≤ w.heap.size) : WrL w b B (.slice none 0 0) [] :=
  ⟨none, 0, [], 0, 0, rfl, ⟨h, World.ownsRow_nil _ _ _ _, fun _ => rfl, by simp, by simp [Value.ownBlock], hB, by decide⟩, by decide, rfl⟩

def putL (L : List Bool) (x : Nat) (n : Int) : List Bool := if errW x n = 0 then L ++ bN x n.toNat else L
def turnL (L : List Bool) (x : Nat) (n : Int) : List Bool := if errW x n = 0 then L ++ (bN x n.toNat).reverse else L
def padN (n : Nat) : Nat := (8 - n % 8) % 8
def alignL (L : List Bool) : List Bool := L ++ List.replicate (padN L.length) false

set_option maxRecDepth 100000 in
theorem put_ok (b B : Nat) (v : Value) (L : List Bool) (x k : Nat) (w : World) (h : WrL w b B v L) (hx : x < 2 ^ k) (hk : k ≤ 56) (hl : L.length ≤ 1125899906842560) :
    Calls Tryd.prog 19 #[.pointer (some ⟨b, 0, none⟩), .int .u64 (x : Int), .int .i64 (k : Int)] w fun e w' => e = .returned (.int .i64 0) ∧ ∃ v', WrL w' b B v' (L ++ bN x k) ∧ Kp (WS b v) w w' ∧ Fresh w v v' := by
  obtain ⟨a, cap, ws, r, c, rfl, h, hc, rfl⟩ := h
  have hl2 : ws.length ≤ 140737488355320 := by rw [List.length_append, bB_len, bN_len] at hl; omega
  have C := lay_any b B a cap ws r c x k w h hc hx hk hl2
  have D := refuse_ok x k w hx hk
  have hx2 : x < 18446744073709551616 := by
    have := pow_le_63 (k := k) (by omega)
    omega
  clear hx hl
  go_enter Tryd.func19, Tryd.ntmps19
  go_wp2_with fail
  refine D.mono ?_
  rintro e w1 ⟨rfl, hw1⟩
  subst w1
  go_wp2_with fail
  refine C.mono ?_
  rintro e w1 ⟨rfl, a', cap', ws', r', c', h', hc', hb', hk', hf'⟩
  go_wp2
  go_ret
  exact ⟨rfl, _, ⟨a', cap', ws', r', c', rfl, h', hc', hb'.symm⟩, hk', hf'⟩

set_option maxRecDepth 100000 in
theorem put_no (b : Nat) (x : Nat) (n : Int) (w : World) (hx : x < 18446744073709551616) (hn0 : -9223372036854775808 ≤ n) (hn1 : n ≤ 9223372036854775807) (he : errW x n ≠ 0) :
    Calls Tryd.prog 19 #[.pointer (some ⟨b, 0, none⟩), .int .u64 (x : Int), .int .i64 n] w fun e w' => e = .returned (.int .i64 (errW x n)) ∧ w' = w := by
  rcases errW_cases x n with ⟨h1, h2⟩ | ⟨k, rfl, hk, ⟨h1, h2⟩ | ⟨h1, h2⟩⟩
  · have D := refuse_count x n w h2
    rw [h1]
    go_enter Tryd.func19, Tryd.ntmps19
    go_wp2_with fail
    refine D.mono ?_
    rintro e w1 ⟨rfl, hw1⟩
    subst w1
    go_wp2
    go_ret
    exact ⟨rfl, rfl⟩
  · exact absurd h1 he
  · have D := refuse_value x k w h2 hk hx
    rw [h1]
    clear h2
    go_enter Tryd.func19, Tryd.ntmps19
    go_wp2_with fail
    refine D.mono ?_
    rintro e w1 ⟨rfl, hw1⟩
    subst w1
    go_wp2
    go_ret
    exact ⟨rfl, rfl⟩

theorem put_any (b B : Nat) (v : Value) (L : List Bool) (x : Nat) (n : Int) (w : World) (h : WrL w b B v L) (hx : x < 18446744073709551616) (hn0 : -9223372036854775808 ≤ n) (hn1 : n ≤ 9223372036854775807) (hl : L.length ≤ 1125899906842560) :
    Calls Tryd.prog 19 #[.pointer (some ⟨b, 0, none⟩), .int .u64 (x : Int), .int .i64 n] w fun e w' => e = .returned (.int .i64 (errW x n)) ∧ ∃ v', WrL w' b B v' (putL L x n) ∧ Kp (WS b v) w w' ∧ Fresh w v v' := by
  by_cases he : errW x n = 0
  · rcases errW_cases x n with ⟨h1, h2⟩ | ⟨k, rfl, hk, ⟨h1, h2⟩ | ⟨h1, h2⟩⟩
    · omega
    · refine (put_ok b B v L x k w h h2 hk hl).mono ?_
      rintro e w' ⟨rfl, v', h1', h2', h3'⟩
      unfold putL
      rw [he, if_pos rfl]
      exact ⟨rfl, v', by simpa using h1', h2', h3'⟩
    · omega
  · refine (put_no b x n w hx hn0 hn1 he).mono ?_
    rintro e w' ⟨rfl, rfl⟩
    unfold putL
    rw [if_neg he]
    exact ⟨rfl, v, h, Kp.refl _ _, fun k e => .inl e⟩

theorem flip_bits (x k : Nat) (hk : k ≤ 56) : flipN x k < 2 ^ k ∧ bN (flipN x k) k = (bN x k).reverse := by
  have hc : cnt (k : Int) = k := by unfold cnt; omega
  unfold flipN
  rw [hc]
  exact ⟨rev_lt x k, bN_num' (rev_len x k)⟩

set_option maxRecDepth 100000 in
set_option maxHeartbeats 1000000 in
theorem turned_ok (b B : Nat) (v : Value) (L : List Bool) (x k : Nat) (w : World) (h : WrL w b B v L) (hx : x < 2 ^ k) (hk : k ≤ 56) (hl : L.length ≤ 1125899906842560) :
    Calls Tryd.prog 73 #[.pointer (some ⟨b, 0, none⟩), .int .u64 (x : Int), .int .i64 (k : Int)] w fun e w' => e = .returned (.int .i64 0) ∧ ∃ v', WrL w' b B v' (L ++ (bN x k).reverse) ∧ Kp (WS b v) w w' ∧ Fresh w v v' := by
  obtain ⟨a, cap, ws, r, c, rfl, h, hc, rfl⟩ := h
  have hl2 : ws.length ≤ 140737488355320 := by rw [List.length_append, bB_len, bN_len] at hl; omega
  have hfl := flip_bits x k hk
  have hx2 : x < 18446744073709551616 := by
    have := pow_le_63 (k := k) (by omega)
    omega
  have HC : Hid (∀ W, Wr W b B a cap ws r c → Calls Tryd.prog 43 #[.pointer (some ⟨b, 0, none⟩), .int .u64 (flipN x k : Int), .int .i64 (k : Int)] W fun e w' => e = .returned (.tuple #[]) ∧ ∃ a' cap' ws' r' c',
      Wr w' b B a' cap' ws' r' c' ∧ c' < 8 ∧ bB ws' ++ bN r' c' = bB ws ++ bN r c ++ (bN x k).reverse ∧ Kp (WS b (.slice a ws.length cap)) W w' ∧ Fresh W (.slice a ws.length cap) (.slice a' ws'.length cap')) := by
    intro W hW
    have := lay_any b B a cap ws r c (flipN x k) k W hW hc hfl.1 hk hl2
    rw [hfl.2] at this
    exact this
  have HF : Hid (∀ W, Calls Tryd.prog 95 #[.int .u64 (x : Int), .int .i64 (k : Int)] W fun e w' => e = .returned (.int .u64 (flipN x k)) ∧ w' = W) := fun W => flip_any x k W hx2 (by omega) (by omega)
  have D := refuse_ok x k w hx hk
  have hd : Wr w.drew b B a cap ws r c := h.kp ((Kp.refl (fun _ => False) w).drew) (by simp) (by simp)
  clear hx hl hfl
  generalize flipN x k = f at *
  go_enter Tryd.func73, Tryd.ntmps73
  go_wp2_with fail
  refine D.mono ?_
  rintro e w1 ⟨rfl, hw1⟩
  subst w1
  go_wp2_with fail
  go_region_held3 (fun _ => True) (trivial) (first
    | (go_at_call 95; refine (HF.out _).mono ?_; rintro e w1 ⟨rfl, hw1⟩; subst w1)
    | (go_at_call 43; refine (HC.out _ hd).mono ?_; rintro e w1 ⟨rfl, a', cap', ws', r', c', h', hc', hb', hk', hf'⟩))
  go_wp2
  go_ret
  exact ⟨rfl, _, ⟨a', cap', ws', r', c', rfl, h', hc', hb'.symm⟩, ⟨hk'.os, hk'.tape, hk'.output, hk'.size, hk'.block⟩, hf'⟩
end Go.Proofs.YtoeabfcnfofbiaaDoor
