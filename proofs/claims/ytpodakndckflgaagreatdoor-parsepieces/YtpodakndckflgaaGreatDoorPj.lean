import Derived.Test.YtpodakndckflgaaGreatDoorPi
import Derived.Laws.ResultCell
namespace Go.Proofs.YtpodakndckflgaaGreatDoor
open Go.RowKit Go.Shelf
set_option linter.unusedVariables false
set_option linter.unusedSimpArgs false
abbrev D19 := Bool × Int × R19 × E19
def dL19 : Array Value := #[.nilFunc, .func (.func 20) #[] #[], .func (.func 21) #[] #[], .func (.func 22) #[] #[], .func (.func 23) #[] #[], .func (.func 24) #[] #[], .func (.func 25) #[] #[], .func (.func 26) #[] #[]]
theorem info_dd19 : (Tryz.prog.info? 65).map (·.size) = some dL19.size := by kernel_rfl
set_option maxRecDepth 100000 in
theorem pdds19 (w : World) : Calls Tryz.prog 17 #[] w fun e w' => e = .returned (.agg #[.nilFunc, .func (.func 20) #[] #[], .func (.func 21) #[] #[], .func (.func 22) #[] #[], .func (.func 23) #[] #[], .func (.func 24) #[] #[], .func (.func 25) #[] #[], .func (.func 26) #[] #[]]) ∧ Below w.heap.size w w' := by
  have c1 := cb16 w dL19 65
  have HB : Hid (Below w.heap.size w (w.alloc (.cells #[.nilFunc, .func (.func 20) #[] #[], .func (.func 21) #[] #[], .func (.func 22) #[] #[], .func (.func 23) #[] #[], .func (.func 24) #[] #[], .func (.func 25) #[] #[], .func (.func 26) #[] #[]] 65))) := c1.bl
  have HQ : Hid ((w.alloc (.cells #[.nilFunc, .func (.func 20) #[] #[], .func (.func 21) #[] #[], .func (.func 22) #[] #[], .func (.func 23) #[] #[], .func (.func 24) #[] #[], .func (.func 25) #[] #[], .func (.func 26) #[] #[]] 65)).heap[w.heap.size]? = some (.cells #[.nilFunc, .func (.func 20) #[] #[], .func (.func 21) #[] #[], .func (.func 22) #[] #[], .func (.func 23) #[] #[], .func (.func 24) #[] #[], .func (.func 25) #[] #[], .func (.func 26) #[] #[]] 65 (0, 0))) := c1.cl
  clear c1
  go_enter Tryz.func17, Tryz.ntmps17
  go_wp2
  refine bodyPost_ret (v := .agg #[.nilFunc, .func (.func 20) #[] #[], .func (.func 21) #[] #[], .func (.func 22) #[] #[], .func (.func 23) #[] #[], .func (.func 24) #[] #[], .func (.func 25) #[] #[], .func (.func 26) #[] #[]]) (results_cell_row rfl _ _ w.heap.size _ _ _ _ rfl HQ.out Tryz.underlying65 rfl info_dd19) rfl ?_
  exact ⟨rfl, HB.out⟩
def am19 (s : R19) (v : Int) : R19 := { s with sm := ad19 s.sm v }
def PQ19 (b bt base : Nat) (r : D19) (V : World) (en : Ending) (w' : World) : Prop := en = .returned (.tuple #[.bool r.1, .int .i64 r.2.1]) ∧ St19 w' b 58 r.2.2.1 ∧ Ev19 w' bt base r.2.2.2 ∧ Kp (fun k => k = b ∨ k = bt ∨ base ≤ k) V w'
/-- What is done with a byte: the contracts, for the states that keep I. -/
structure DC19 (D : R19 → E19 → Int → D19) (I : R19 → E19 → List Int → Prop) : Prop where
  nx : ∀ s e l, I s e l → 1 ≤ s.nx ∧ s.nx ≤ 8
  iv : ∀ s e v r, I s e (v :: r) → s.nx ≠ 8 → 0 ≤ v → v ≤ 255 → (D (am19 s v) e v).2.1 = 0 → I (D (am19 s v) e v).2.2.1 (D (am19 s v) e v).2.2.2 r
  tk : ∀ s e v r, I s e (v :: r) → s.nx ≠ 8 → 0 ≤ v → v ≤ 255 → (D (am19 s v) e v).2.2.1.tk = s.tk
  c1 : ∀ V b bt base s e v r, I s e (v :: r) → s.nx = 1 → 0 ≤ v → v ≤ 255 → Tab V → St19 V b 58 (am19 s v) → Ev19 V bt base e → bt ≠ b → b < base → bt < base → base ≤ V.heap.size → Calls Tryz.prog 20 #[.pointer (some ⟨b, 0, none⟩), .int .u8 v, .pointer (some ⟨bt, 0, none⟩)] V (PQ19 b bt base (D (am19 s v) e v) V)
  c2 : ∀ V b bt base s e v r, I s e (v :: r) → s.nx = 2 → 0 ≤ v → v ≤ 255 → Tab V → St19 V b 58 (am19 s v) → Ev19 V bt base e → bt ≠ b → b < base → bt < base → base ≤ V.heap.size → Calls Tryz.prog 21 #[.pointer (some ⟨b, 0, none⟩), .int .u8 v, .pointer (some ⟨bt, 0, none⟩)] V (PQ19 b bt base (D (am19 s v) e v) V)
  c3 : ∀ V b bt base s e v r, I s e (v :: r) → s.nx = 3 → 0 ≤ v → v ≤ 255 → Tab V → St19 V b 58 (am19 s v) → Ev19 V bt base e → bt ≠ b → b < base → bt < base → base ≤ V.heap.size → Calls Tryz.prog 22 #[.pointer (some ⟨b, 0, none⟩), .int .u8 v, .pointer (some ⟨bt, 0, none⟩)] V (PQ19 b bt base (D (am19 s v) e v) V)
  c4 : ∀ V b bt base s e v r, I s e (v :: r) → s.nx = 4 → 0 ≤ v → v ≤ 255 → Tab V → St19 V b 58 (am19 s v) → Ev19 V bt base e → bt ≠ b → b < base → bt < base → base ≤ V.heap.size → Calls Tryz.prog 23 #[.pointer (some ⟨b, 0, none⟩), .int .u8 v, .pointer (some ⟨bt, 0, none⟩)] V (PQ19 b bt base (D (am19 s v) e v) V)
  c5 : ∀ V b bt base s e v r, I s e (v :: r) → s.nx = 5 → 0 ≤ v → v ≤ 255 → Tab V → St19 V b 58 (am19 s v) → Ev19 V bt base e → bt ≠ b → b < base → bt < base → base ≤ V.heap.size → Calls Tryz.prog 24 #[.pointer (some ⟨b, 0, none⟩), .int .u8 v, .pointer (some ⟨bt, 0, none⟩)] V (PQ19 b bt base (D (am19 s v) e v) V)
  c6 : ∀ V b bt base s e v r, I s e (v :: r) → s.nx = 6 → 0 ≤ v → v ≤ 255 → Tab V → St19 V b 58 (am19 s v) → Ev19 V bt base e → bt ≠ b → b < base → bt < base → base ≤ V.heap.size → Calls Tryz.prog 25 #[.pointer (some ⟨b, 0, none⟩), .int .u8 v, .pointer (some ⟨bt, 0, none⟩)] V (PQ19 b bt base (D (am19 s v) e v) V)
  c7 : ∀ V b bt base s e v r, I s e (v :: r) → s.nx = 7 → 0 ≤ v → v ≤ 255 → Tab V → St19 V b 58 (am19 s v) → Ev19 V bt base e → bt ≠ b → b < base → bt < base → base ≤ V.heap.size → Calls Tryz.prog 26 #[.pointer (some ⟨b, 0, none⟩), .int .u8 v, .pointer (some ⟨bt, 0, none⟩)] V (PQ19 b bt base (D (am19 s v) e v) V)
/-- Bytes one by one, up to what is whole: the error, how many, the state, what is told. -/
def run19 (D : R19 → E19 → Int → D19) : R19 → E19 → Nat → List Int → Int × Nat × R19 × E19
  | s, e, k, [] => (0, k, s, e)
  | s, e, k, v :: r =>
    if s.nx = 8 then (0, k, s, e)
    else if (D (am19 s v) e v).2.1 ≠ 0 then ((D (am19 s v) e v).2.1, 0, s, e)
    else if (D (am19 s v) e v).1 = true then (0, k + 1, (D (am19 s v) e v).2.2.1, (D (am19 s v) e v).2.2.2)
    else run19 D (D (am19 s v) e v).2.2.1 (D (am19 s v) e v).2.2.2 (k + 1) r
theorem run19_over {D : R19 → E19 → Int → D19} {s : R19} {e : E19} {k : Nat} {z : List Int} (h : s.nx = 8) : run19 D s e k z = (0, k, s, e) := by
  cases z with
  | nil => rfl
  | cons v r => unfold run19; rw [if_pos h]
theorem run19_err {D : R19 → E19 → Int → D19} {s : R19} {e : E19} {k : Nat} {v : Int} {r : List Int} (h : s.nx ≠ 8) (he : (D (am19 s v) e v).2.1 ≠ 0) : run19 D s e k (v :: r) = ((D (am19 s v) e v).2.1, 0, s, e) := by
  rw [run19, if_neg h, if_pos he]
theorem run19_wh {D : R19 → E19 → Int → D19} {s : R19} {e : E19} {k : Nat} {v : Int} {r : List Int} (h : s.nx ≠ 8) (he : (D (am19 s v) e v).2.1 = 0) : run19 D s e k (v :: r) = if (D (am19 s v) e v).1 = true then (0, k + 1, (D (am19 s v) e v).2.2.1, (D (am19 s v) e v).2.2.2) else run19 D (D (am19 s v) e v).2.2.1 (D (am19 s v) e v).2.2.2 (k + 1) r := by
  rw [run19, if_neg h, if_neg (by simp [he])]
theorem results_ctt19 {P : Program} {fn : Func} {p u v : Tmp} {ty : TypeId} (h : fn.results = #[.cell p ty, .tmp u, .tmp v]) (tmps : Array Value) (w : World) (g : Nat) (t : TypeId) (cs : Array Value) (fr : Nat × Nat) (d : TypeDesc)
    (hp : tmps.getD p undef = .pointer (some ⟨g, 0, none⟩)) (hg : w.heap[g]? = some (.cells cs t fr))
    (hu : P.underlying ty = some d) (hd : (match d with | .struct _ | .array _ _ => true | _ => false) = true) (hi : (P.info? ty).map (·.size) = some cs.size) :
    (results fn tmps).run P w = .ok (.tuple #[.agg cs, tmps.getD u undef, tmps.getD v undef]) w := by
  have e : (results fn tmps).run P w = ((asAddr (tmps.getD p undef)).run P w).andThen fun a w₁ => ((loadVar ty a).run P w₁).andThen fun x w₂ => .ok (.tuple #[x, tmps.getD u undef, tmps.getD v undef]) w₂ := by
    simp only [results, h]
    simp [Sem.run_bind, Result.andThen]
  rw [e, hp]
  simp [asAddr, Result.andThen, run_loadVar_row w g t ty cs fr d hg hu hd hi]
theorem grow19 (w : World) (g : Nat) (cs : Array Value) : Kp (fun k => k = g) w (w.setRow g cs) := ⟨rfl, rfl, rfl, by simp [World.setRow], fun k _ hk => setRow_other w g k cs (by intro e; first | exact hk e | exact hk e.symm)⟩
theorem evc_all19 (e : E19) (p : Option Addr) (c : Nat) : (e.cs p c).all (·.oneCell') = true := by first | kernel_rfl | (unfold E19.cs; simp [Value.oneCell'])
theorem evc_z19 : (#[.int .i64 0, .int .i64 0, .int .i64 0, .int .u32 0, .int .u32 0, .int .i64 0, .int .i64 0, .int .i64 0, .int .i64 0, .int .i64 0, .int .i64 0, .int .i64 0, .int .i64 0, .int .i64 0, .int .i64 0, .slice none 0 0] : Array Value).all (·.oneCell') = true := evc_all19 e019 none 0
theorem evc_size19 (e : E19) (p : Option Addr) (c : Nat) : (#[.int .i64 0, .int .i64 0, .int .i64 0, .int .u32 0, .int .u32 0, .int .i64 0, .int .i64 0, .int .i64 0, .int .i64 0, .int .i64 0, .int .i64 0, .int .i64 0, .int .i64 0, .int .i64 0, .int .i64 0, .slice none 0 0] : Array Value).size = (e.cs p c).size := rfl
theorem info_ev19 : (Tryz.prog.info? 39).map (·.size) = some 16 := by kernel_rfl
def SpQ19 (D : R19 → E19 → Int → D19) (w : World) (b : Nat) (s : R19) (z : List Int) (en : Ending) (w' : World) : Prop :=
  ((run19 D s e019 0 z).1 ≠ 0 ∧ en = .returned (.tuple #[.agg #[.int .i64 0, .int .i64 0, .int .i64 0, .int .u32 0, .int .u32 0, .int .i64 0, .int .i64 0, .int .i64 0, .int .i64 0, .int .i64 0, .int .i64 0, .int .i64 0, .int .i64 0, .int .i64 0, .int .i64 0, .slice none 0 0], .int .i64 0, .int .i64 (run19 D s e019 0 z).1]) ∧ Kp (fun k => k = b) w w') ∨
  ((run19 D s e019 0 z).1 = 0 ∧ ∃ p c, en = .returned (.tuple #[.agg ((run19 D s e019 0 z).2.2.2.cs p c), .int .i64 ((run19 D s e019 0 z).2.1 : Int), .int .i64 0]) ∧ St19 w' b 58 { (run19 D s e019 0 z).2.2.1 with tk := s.tk + (run19 D s e019 0 z).2.1 } ∧ w'.ownsRow w.heap.size 5 1 (.slice p (run19 D s e019 0 z).2.2.2.bs.length c) (run19 D s e019 0 z).2.2.2.bs.length ((run19 D s e019 0 z).2.2.2.bs.map (Value.int .u8)) ∧ Kp (fun k => k = b) w w')
set_option maxRecDepth 100000 in
set_option maxHeartbeats 16000000 in
theorem pstp19 {D : R19 → E19 → Int → D19} {I : R19 → E19 → List Int → Prop} (hD : DC19 D I) (b : Nat) (s : R19) (za : Option Addr) (zc : Nat) (z : List Int) (w : World) (ht : Tab w) (h : St19 w b 58 s) (hI : I s e019 z) (hz : Seg w za z) (hzb : ∀ x off, za = some ⟨x, off, none⟩ → 0 < z.length → x ≠ b) (hl : z.length ≤ 140737488355328) (hb0 : b ≠ 0) (htk : 0 ≤ s.tk ∧ s.tk ≤ 4611686018427387904) :
    Calls Tryz.prog 14 #[.pointer (some ⟨b, 0, none⟩), .slice za z.length zc] w (SpQ19 D w b s z) := by
  have HD : Hid (DC19 D I) := hD
  have HL : Hid (z.length ≤ 140737488355328 ∧ b ≠ 0 ∧ b < w.heap.size ∧ 0 ≤ s.tk ∧ s.tk ≤ 4611686018427387904) := ⟨hl, hb0, h.lt, htk.1, htk.2⟩
  have HI0 : Hid (I s e019 z) := hI
  have HST : Hid (St19 w b 58 s) := h
  have HZ : Hid (∀ x off, za = some ⟨x, off, none⟩ → 0 < z.length → x ≠ b) := hzb
  have HSG : Hid (Seg w za z) := hz
  have HTB : Hid (Tab w) := ht
  obtain ⟨b4, hb4⟩ : ∃ b4, b4 = w.heap.size := ⟨_, rfl⟩
  obtain ⟨w1, hw1⟩ : ∃ w1, w1 = w.alloc (.cells #[.int .i64 0, .int .i64 0, .int .i64 0, .int .u32 0, .int .u32 0, .int .i64 0, .int .i64 0, .int .i64 0, .int .i64 0, .int .i64 0, .int .i64 0, .int .i64 0, .int .i64 0, .int .i64 0, .int .i64 0, .slice none 0 0] 39) := ⟨_, rfl⟩
  have c1 := cb16 w #[.int .i64 0, .int .i64 0, .int .i64 0, .int .u32 0, .int .u32 0, .int .i64 0, .int .i64 0, .int .i64 0, .int .i64 0, .int .i64 0, .int .i64 0, .int .i64 0, .int .i64 0, .int .i64 0, .int .i64 0, .slice none 0 0] 39
  rw [← hw1] at c1
  have HW1 : Hid (w.alloc (.cells #[.int .i64 0, .int .i64 0, .int .i64 0, .int .u32 0, .int .u32 0, .int .i64 0, .int .i64 0, .int .i64 0, .int .i64 0, .int .i64 0, .int .i64 0, .int .i64 0, .int .i64 0, .int .i64 0, .int .i64 0, .slice none 0 0] 39) = w1) := hw1.symm
  have HB4 : Hid (w.heap.size = b4) := hb4.symm
  have HC1 : Hid (Below w.heap.size w w1 ∧ w1.heap.size = b4 + 1 ∧ w1.heap[b4]? = some (.cells #[.int .i64 0, .int .i64 0, .int .i64 0, .int .u32 0, .int .u32 0, .int .i64 0, .int .i64 0, .int .i64 0, .int .i64 0, .int .i64 0, .int .i64 0, .int .i64 0, .int .i64 0, .int .i64 0, .int .i64 0, .slice none 0 0] 39 (0, 0))) := ⟨c1.bl, by have := c1.sz; omega, by rw [hb4]; exact c1.cl⟩
  clear hD hl hb0 hI h hzb hz ht htk hb4 hw1 c1
  go_enter Tryz.func14, Tryz.ntmps14
  go_wp2_with fail
  rw [HW1.out, HB4.out]
  refine (pdds19 w1).mono ?_
  rintro e2 w2 ⟨rfl, b2⟩
  obtain ⟨b7, hb7⟩ : ∃ b7, b7 = w2.heap.size := ⟨_, rfl⟩
  obtain ⟨w3, hw3⟩ : ∃ w3, w3 = w2.alloc (.cells #[.nilFunc, .func (.func 20) #[] #[], .func (.func 21) #[] #[], .func (.func 22) #[] #[], .func (.func 23) #[] #[], .func (.func 24) #[] #[], .func (.func 25) #[] #[], .func (.func 26) #[] #[]] 65) := ⟨_, rfl⟩
  have c3 := cb16 w2 #[.nilFunc, .func (.func 20) #[] #[], .func (.func 21) #[] #[], .func (.func 22) #[] #[], .func (.func 23) #[] #[], .func (.func 24) #[] #[], .func (.func 25) #[] #[], .func (.func 26) #[] #[]] 65
  rw [← hw3] at c3
  obtain ⟨w4, hw4⟩ : ∃ w4, w4 = w3.alloc (.cells #[.int .i64 0, .int .i64 0, .int .i64 0, .int .u32 0, .int .u32 0, .int .i64 0, .int .i64 0, .int .i64 0, .int .i64 0, .int .i64 0, .int .i64 0, .int .i64 0, .int .i64 0, .int .i64 0, .int .i64 0, .slice none 0 0] 39) := ⟨_, rfl⟩
  have c4 := cb16 w3 #[.int .i64 0, .int .i64 0, .int .i64 0, .int .u32 0, .int .u32 0, .int .i64 0, .int .i64 0, .int .i64 0, .int .i64 0, .int .i64 0, .int .i64 0, .int .i64 0, .int .i64 0, .int .i64 0, .int .i64 0, .slice none 0 0] 39
  rw [← hw4] at c4
  obtain ⟨bt, hbt⟩ : ∃ bt, bt = b7 + 1 := ⟨_, rfl⟩
  obtain ⟨base, hbase⟩ : ∃ base, base = w4.heap.size := ⟨_, rfl⟩
  have s3 := c3.sz
  have s4 := c4.sz
  have s2 := b2.size
  have hs1 := HC1.out.2.1
  have hbw := HL.out.2.2.1
  have hb4' := HB4.out
  have HNE : Hid (bt ≠ b ∧ b4 ≠ b ∧ b7 ≠ b ∧ b4 ≠ bt ∧ b7 ≠ bt ∧ b < base ∧ bt < base ∧ b4 < base ∧ b7 < base ∧ b4 ≤ bt ∧ b4 ≤ base ∧ b4 < b7) := ⟨by omega, by omega, by omega, by omega, by omega, by omega, by omega, by omega, by omega, by omega, by omega, by omega⟩
  have B4 : Below w.heap.size w w4 := HC1.out.1.trans ((b2.mono (by omega)).trans ((c3.bl.mono (by omega)).trans (c4.bl.mono (by omega))))
  have HB3 : Hid (w2.heap.size = b7 ∧ b7 + 1 = bt ∧ base = w4.heap.size) := ⟨hb7.symm, hbt.symm, hbase⟩
  have HW4 : Hid ((w2.alloc (.cells #[.nilFunc, .func (.func 20) #[] #[], .func (.func 21) #[] #[], .func (.func 22) #[] #[], .func (.func 23) #[] #[], .func (.func 24) #[] #[], .func (.func 25) #[] #[], .func (.func 26) #[] #[]] 65)).alloc (.cells #[.int .i64 0, .int .i64 0, .int .i64 0, .int .u32 0, .int .u32 0, .int .i64 0, .int .i64 0, .int .i64 0, .int .i64 0, .int .i64 0, .int .i64 0, .int .i64 0, .int .i64 0, .int .i64 0, .int .i64 0, .slice none 0 0] 39) = w4) := by show _ = _; rw [hw4, hw3]
  have q4 : w4.heap[b4]? = some (.cells #[.int .i64 0, .int .i64 0, .int .i64 0, .int .u32 0, .int .u32 0, .int .i64 0, .int .i64 0, .int .i64 0, .int .i64 0, .int .i64 0, .int .i64 0, .int .i64 0, .int .i64 0, .int .i64 0, .int .i64 0, .slice none 0 0] 39 (0, 0)) := (c4.bl.block _ (by omega)).trans ((c3.bl.block _ (by omega)).trans ((b2.block _ (by omega)).trans HC1.out.2.2))
  have q7 : w4.heap[b7]? = some (.cells #[.nilFunc, .func (.func 20) #[] #[], .func (.func 21) #[] #[], .func (.func 22) #[] #[], .func (.func 23) #[] #[], .func (.func 24) #[] #[], .func (.func 25) #[] #[], .func (.func 26) #[] #[]] 65 (0, 0)) := (c4.bl.block _ (by omega)).trans (by rw [hb7]; exact c3.cl)
  have qt : w4.heap[bt]? = some (.cells #[.int .i64 0, .int .i64 0, .int .i64 0, .int .u32 0, .int .u32 0, .int .i64 0, .int .i64 0, .int .i64 0, .int .i64 0, .int .i64 0, .int .i64 0, .int .i64 0, .int .i64 0, .int .i64 0, .int .i64 0, .slice none 0 0] 39 (0, 0)) := by have := c4.cl; rw [show w3.heap.size = bt by omega] at this; exact this
  have HV0 : Hid (Ev19 w4 bt base e019) := ⟨none, 0, qt, World.ownsRow_nil _ _ _ _⟩
  have HS0 : Hid (St19 w4 b 58 s) := HST.out.old B4
  have HK4 : Hid (∀ V, Kp (fun k => k = b ∨ k = bt ∨ base ≤ k) w4 V → V.heap[b4]? = some (.cells #[.int .i64 0, .int .i64 0, .int .i64 0, .int .u32 0, .int .u32 0, .int .i64 0, .int .i64 0, .int .i64 0, .int .i64 0, .int .i64 0, .int .i64 0, .int .i64 0, .int .i64 0, .int .i64 0, .int .i64 0, .slice none 0 0] 39 (0, 0))) := fun V hV => hV.heap q4 (by have := HNE.out; omega)
  have HK7 : Hid (∀ V, Kp (fun k => k = b ∨ k = bt ∨ base ≤ k) w4 V → V.heap[b7]? = some (.cells #[.nilFunc, .func (.func 20) #[] #[], .func (.func 21) #[] #[], .func (.func 22) #[] #[], .func (.func 23) #[] #[], .func (.func 24) #[] #[], .func (.func 25) #[] #[], .func (.func 26) #[] #[]] 65 (0, 0))) := fun V hV => hV.heap q7 (by have := HNE.out; omega)
  have HKZ : Hid (∀ V, Kp (fun k => k = b ∨ k = bt ∨ base ≤ k) w4 V → Seg V za z) := fun V hV => (HSG.out.old B4).kp hV (fun x off e hp y => by
    have y1 := HSG.out.lt x off e hp
    have y2 := HZ.out x off e hp
    have := HNE.out
    omega)
  have HKT : Hid (∀ V, Kp (fun k => k = b ∨ k = bt ∨ base ≤ k) w4 V → Tab V) := fun V hV => SegK.kp (HTB.out.old B4) hV (fun x off e hp y => by
    have y1 := SegK.lt HTB.out x off e hp
    cases e
    have := HNE.out
    have := HL.out
    omega)
  have HKE : Hid (∀ V V', Kp (fun k => k = b ∨ k = bt ∨ base ≤ k) w4 V → Kp (fun k => k = b ∨ k = b4) V V' → Kp (fun k => k = b) w V') := fun V V' hV hV' => by
    have k0 : Kp (fun k => k = b ∨ b4 ≤ k) w V := (Kp.of_below (S := fun k => k = b ∨ b4 ≤ k) B4).trans hV (fun k _ x => by have := HNE.out; have := HB4.out; omega)
    have k1 : Kp (fun k => k = b ∨ b4 ≤ k) w V' := k0.trans hV' (fun k _ x => by have := HNE.out; omega)
    exact k1.mono (fun k hk x => by have := HB4.out; omega)
  have HOB : Hid (b4 ≤ base) := by show _ ≤ _; have := HNE.out; omega
  clear c3 c4 hb7 hbt hbase hw3 hw4 s2 s3 s4 hs1 hbw hb4' b2 q4 q7 qt B4
  go_wp2_with fail
  rw [HW4.out, HB3.out.1, HB3.out.2.1]
  go_loopw [9, 10] (fun t9 t10 V => ∃ (k : Nat) (wh : Bool) (s' : R19) (e' : E19), k ≤ z.length ∧ t9 = .int .i64 (k : Int) ∧ t10 = .bool wh ∧ I s' e' (z.drop k) ∧ St19 V b 58 s' ∧ Ev19 V bt base e' ∧ Kp (fun k => k = b ∨ k = bt ∨ base ≤ k) w4 V ∧ s'.tk = s.tk ∧ run19 D s e019 0 z = (if wh = true then (0, k, s', e') else run19 D s' e' k (z.drop k))) (fun t9 _ _ => z.length - (intOf t9).toNat)
  case atStart => exact ⟨0, false, s, e019, Nat.zero_le _, rfl, rfl, HI0.out, HS0.out, HV0.out, Kp.refl _ _, rfl, by simp⟩
  case round =>
    obtain ⟨k, wh, s', e', hk, rfl, rfl, hI, hS, hE, hK, hT, hR⟩ := hrel
    have HI : Hid (I s' e' (z.drop k)) := hI
    have HS : Hid (St19 wr b 58 s') := hS
    have HE : Hid (Ev19 wr bt base e') := hE
    have HKK : Hid (Kp (fun k => k = b ∨ k = bt ∨ base ≤ k) w4 wr) := hK
    have HTK : Hid (s'.tk = s.tk) := hT
    have HR : Hid (run19 D s e019 0 z = (if wh = true then (0, k, s', e') else run19 D s' e' k (z.drop k))) := hR
    have HKL : Hid (k ≤ z.length) := hk
    have c0 := hS.c0
    have c3 := hS.c3
    clear hI hS hE hK hT hR HS0 HV0 HI0
    by_cases hlt : k < z.length
    rotate_left
    · have hlti : ¬ (k : Int) < (z.length : Int) := by omega
      have HEQ : Hid (run19 D s e019 0 z = (0, k, s', e')) := by
        show _ = _
        rw [HR.out, List.drop_eq_nil_of_le (by omega)]
        cases wh <;> rfl
      clear hlt hk
      obtain ⟨p, c, qe, oe⟩ := HE.out
      have hne := HNE.out
      have n1 : ¬ bt = b := hne.1
      have n2 : ¬ b4 = b := hne.2.1
      have n2' : ¬ b = b4 := fun x => n2 x.symm
      have c22 := HS.out.c22
      have f22 := HS.out.f 22
      obtain ⟨T, hTT⟩ : ∃ T, T = s'.tk + (k : Int) := ⟨_, rfl⟩
      have hwT : IntKind.i64.wrap (s'.tk + (k : Int)) = T := by rw [IntWalk.i64_in _ (by have := HL.out; have := HTK.out; have := HKL.out; omega)]; exact hTT.symm
      obtain ⟨u1, hu1⟩ : ∃ u1, u1 = wr.setCell ⟨b, 22, none⟩ (.int .i64 T) := ⟨_, rfl⟩
      have qu : St19 u1 b 58 { s' with tk := T } := by rw [hu1]; exact HS.out.set (s' := { s' with tk := T }) rfl
      have ku : Kp (fun k => k = b) wr u1 := by rw [hu1]; exact kp1_19 _
      have qe1 : u1.heap[bt]? = some (.cells (e'.cs p c) 39 (0, 0)) := ku.heap qe n1
      have q41 : u1.heap[b4]? = some (.cells #[.int .i64 0, .int .i64 0, .int .i64 0, .int .u32 0, .int .u32 0, .int .i64 0, .int .i64 0, .int .i64 0, .int .i64 0, .int .i64 0, .int .i64 0, .int .i64 0, .int .i64 0, .int .i64 0, .int .i64 0, .slice none 0 0] 39 (0, 0)) := ku.heap (HK4.out wr HKK.out) n2
      have hq2 := setRow_heap u1 b4 _ (e'.cs p c) _ _ q41
      have kr : Kp (fun k => k = b4) u1 (u1.setRow b4 (e'.cs p c)) := grow19 u1 b4 (e'.cs p c)
      have HQF : Hid (St19 (u1.setRow b4 (e'.cs p c)) b 58 { s' with tk := T } ∧ (u1.setRow b4 (e'.cs p c)).heap[b4]? = some (.cells (e'.cs p c) 39 (0, 0)) ∧ (u1.setRow b4 (e'.cs p c)).ownsRow w.heap.size 5 1 (.slice p e'.bs.length c) e'.bs.length (e'.bs.map (Value.int .u8)) ∧ Kp (fun k => k = b) w (u1.setRow b4 (e'.cs p c))) := by
        refine ⟨qu.kp kr n2', hq2, ?_, HKE.out wr _ HKK.out ((ku.mono (fun _ _ x => .inl x)).trans kr (fun _ _ x => .inr x))⟩
        have o1 := own_kp oe ku (fun k hk x => by have := (oe.lt k hk).1; have x : k = b := x; omega)
        have o2 := own_kp o1 kr (fun k hk x => by have := (o1.lt k hk).1; have x : k = b4 := x; omega)
        exact own_base o2 (by have := HOB.out; have := HB4.out; omega)
      have HU1 : Hid (wr.setCell ⟨b, 22, none⟩ (.int .i64 T) = u1) := hu1.symm
      have HTT : Hid (T = s.tk + (k : Int)) := by show _ = _; rw [hTT, HTK.out]
      have HQE : Hid (u1.heap[bt]? = some (.cells (e'.cs p c) 39 (0, 0)) ∧ u1.heap[b4]? = some (.cells #[.int .i64 0, .int .i64 0, .int .i64 0, .int .u32 0, .int .u32 0, .int .i64 0, .int .i64 0, .int .i64 0, .int .i64 0, .int .i64 0, .int .i64 0, .int .i64 0, .int .i64 0, .int .i64 0, .int .i64 0, .slice none 0 0] 39 (0, 0))) := ⟨qe1, q41⟩
      clear qu ku qe1 q41 qe oe hne hu1 hTT hq2 kr
      go_wp2_with (first
        | (rw [HU1.out]; refine wpList_load_row rfl 39 (.tmp 8) rfl bt rfl _ _ _ _ HQE.out.1 Tryz.underlying39 rfl info_ev19 ?_)
        | (refine wpList_store_row rfl 39 (.tmp 4) (.tmp 64) rfl b4 (e'.cs p c) rfl rfl _ _ HQE.out.2 info_ev19 (evc_size19 e' p c) (evc_all19 e' p c) ?_))
      refine bodyPost_ret (v := .tuple #[.agg (e'.cs p c), .int .i64 (k : Int), .int .i64 0]) (results_ctt19 (fn := Tryz.f14) (p := 4) (u := 5) (v := 6) (ty := 39) rfl _ _ b4 _ _ _ _ rfl HQF.out.2.1 Tryz.underlying39 rfl info_ev19) rfl ?_
      refine .inr ?_
      rw [HEQ.out, ← HTT.out]
      exact ⟨rfl, p, c, rfl, HQF.out.1, HQF.out.2.2.1, HQF.out.2.2.2⟩
    have hlti : (k : Int) < (z.length : Int) := by omega
    cases wh
    rotate_left
    · have HEQ : Hid (run19 D s e019 0 z = (0, k, s', e')) := by show _ = _; rw [HR.out]; rfl
      clear hlt hk
      obtain ⟨p, c, qe, oe⟩ := HE.out
      have hne := HNE.out
      have n1 : ¬ bt = b := hne.1
      have n2 : ¬ b4 = b := hne.2.1
      have n2' : ¬ b = b4 := fun x => n2 x.symm
      have c22 := HS.out.c22
      have f22 := HS.out.f 22
      obtain ⟨T, hTT⟩ : ∃ T, T = s'.tk + (k : Int) := ⟨_, rfl⟩
      have hwT : IntKind.i64.wrap (s'.tk + (k : Int)) = T := by rw [IntWalk.i64_in _ (by have := HL.out; have := HTK.out; have := HKL.out; omega)]; exact hTT.symm
      obtain ⟨u1, hu1⟩ : ∃ u1, u1 = wr.setCell ⟨b, 22, none⟩ (.int .i64 T) := ⟨_, rfl⟩
      have qu : St19 u1 b 58 { s' with tk := T } := by rw [hu1]; exact HS.out.set (s' := { s' with tk := T }) rfl
      have ku : Kp (fun k => k = b) wr u1 := by rw [hu1]; exact kp1_19 _
      have qe1 : u1.heap[bt]? = some (.cells (e'.cs p c) 39 (0, 0)) := ku.heap qe n1
      have q41 : u1.heap[b4]? = some (.cells #[.int .i64 0, .int .i64 0, .int .i64 0, .int .u32 0, .int .u32 0, .int .i64 0, .int .i64 0, .int .i64 0, .int .i64 0, .int .i64 0, .int .i64 0, .int .i64 0, .int .i64 0, .int .i64 0, .int .i64 0, .slice none 0 0] 39 (0, 0)) := ku.heap (HK4.out wr HKK.out) n2
      have hq2 := setRow_heap u1 b4 _ (e'.cs p c) _ _ q41
      have kr : Kp (fun k => k = b4) u1 (u1.setRow b4 (e'.cs p c)) := grow19 u1 b4 (e'.cs p c)
      have HQF : Hid (St19 (u1.setRow b4 (e'.cs p c)) b 58 { s' with tk := T } ∧ (u1.setRow b4 (e'.cs p c)).heap[b4]? = some (.cells (e'.cs p c) 39 (0, 0)) ∧ (u1.setRow b4 (e'.cs p c)).ownsRow w.heap.size 5 1 (.slice p e'.bs.length c) e'.bs.length (e'.bs.map (Value.int .u8)) ∧ Kp (fun k => k = b) w (u1.setRow b4 (e'.cs p c))) := by
        refine ⟨qu.kp kr n2', hq2, ?_, HKE.out wr _ HKK.out ((ku.mono (fun _ _ x => .inl x)).trans kr (fun _ _ x => .inr x))⟩
        have o1 := own_kp oe ku (fun k hk x => by have := (oe.lt k hk).1; have x : k = b := x; omega)
        have o2 := own_kp o1 kr (fun k hk x => by have := (o1.lt k hk).1; have x : k = b4 := x; omega)
        exact own_base o2 (by have := HOB.out; have := HB4.out; omega)
      have HU1 : Hid (wr.setCell ⟨b, 22, none⟩ (.int .i64 T) = u1) := hu1.symm
      have HTT : Hid (T = s.tk + (k : Int)) := by show _ = _; rw [hTT, HTK.out]
      have HQE : Hid (u1.heap[bt]? = some (.cells (e'.cs p c) 39 (0, 0)) ∧ u1.heap[b4]? = some (.cells #[.int .i64 0, .int .i64 0, .int .i64 0, .int .u32 0, .int .u32 0, .int .i64 0, .int .i64 0, .int .i64 0, .int .i64 0, .int .i64 0, .int .i64 0, .int .i64 0, .int .i64 0, .int .i64 0, .int .i64 0, .slice none 0 0] 39 (0, 0))) := ⟨qe1, q41⟩
      clear qu ku qe1 q41 qe oe hne hu1 hTT hq2 kr
      go_wp2_with (first
        | (rw [HU1.out]; refine wpList_load_row rfl 39 (.tmp 8) rfl bt rfl _ _ _ _ HQE.out.1 Tryz.underlying39 rfl info_ev19 ?_)
        | (refine wpList_store_row rfl 39 (.tmp 4) (.tmp 64) rfl b4 (e'.cs p c) rfl rfl _ _ HQE.out.2 info_ev19 (evc_size19 e' p c) (evc_all19 e' p c) ?_))
      refine bodyPost_ret (v := .tuple #[.agg (e'.cs p c), .int .i64 (k : Int), .int .i64 0]) (results_ctt19 (fn := Tryz.f14) (p := 4) (u := 5) (v := 6) (ty := 39) rfl _ _ b4 _ _ _ _ rfl HQF.out.2.1 Tryz.underlying39 rfl info_ev19) rfl ?_
      refine .inr ?_
      rw [HEQ.out, ← HTT.out]
      exact ⟨rfl, p, c, rfl, HQF.out.1, HQF.out.2.2.1, HQF.out.2.2.2⟩
    have HR2 : Hid (run19 D s e019 0 z = run19 D s' e' k (z.drop k)) := by show _ = _; rw [HR.out]; rfl
    by_cases h8 : s'.nx = 8
    · have HEQ : Hid (run19 D s e019 0 z = (0, k, s', e')) := by show _ = _; rw [HR2.out, run19_over h8]
      rw [h8] at c3
      clear hlt hk h8
      obtain ⟨p, c, qe, oe⟩ := HE.out
      have hne := HNE.out
      have n1 : ¬ bt = b := hne.1
      have n2 : ¬ b4 = b := hne.2.1
      have n2' : ¬ b = b4 := fun x => n2 x.symm
      have c22 := HS.out.c22
      have f22 := HS.out.f 22
      obtain ⟨T, hTT⟩ : ∃ T, T = s'.tk + (k : Int) := ⟨_, rfl⟩
      have hwT : IntKind.i64.wrap (s'.tk + (k : Int)) = T := by rw [IntWalk.i64_in _ (by have := HL.out; have := HTK.out; have := HKL.out; omega)]; exact hTT.symm
      obtain ⟨u1, hu1⟩ : ∃ u1, u1 = wr.setCell ⟨b, 22, none⟩ (.int .i64 T) := ⟨_, rfl⟩
      have qu : St19 u1 b 58 { s' with tk := T } := by rw [hu1]; exact HS.out.set (s' := { s' with tk := T }) rfl
      have ku : Kp (fun k => k = b) wr u1 := by rw [hu1]; exact kp1_19 _
      have qe1 : u1.heap[bt]? = some (.cells (e'.cs p c) 39 (0, 0)) := ku.heap qe n1
      have q41 : u1.heap[b4]? = some (.cells #[.int .i64 0, .int .i64 0, .int .i64 0, .int .u32 0, .int .u32 0, .int .i64 0, .int .i64 0, .int .i64 0, .int .i64 0, .int .i64 0, .int .i64 0, .int .i64 0, .int .i64 0, .int .i64 0, .int .i64 0, .slice none 0 0] 39 (0, 0)) := ku.heap (HK4.out wr HKK.out) n2
      have hq2 := setRow_heap u1 b4 _ (e'.cs p c) _ _ q41
      have kr : Kp (fun k => k = b4) u1 (u1.setRow b4 (e'.cs p c)) := grow19 u1 b4 (e'.cs p c)
      have HQF : Hid (St19 (u1.setRow b4 (e'.cs p c)) b 58 { s' with tk := T } ∧ (u1.setRow b4 (e'.cs p c)).heap[b4]? = some (.cells (e'.cs p c) 39 (0, 0)) ∧ (u1.setRow b4 (e'.cs p c)).ownsRow w.heap.size 5 1 (.slice p e'.bs.length c) e'.bs.length (e'.bs.map (Value.int .u8)) ∧ Kp (fun k => k = b) w (u1.setRow b4 (e'.cs p c))) := by
        refine ⟨qu.kp kr n2', hq2, ?_, HKE.out wr _ HKK.out ((ku.mono (fun _ _ x => .inl x)).trans kr (fun _ _ x => .inr x))⟩
        have o1 := own_kp oe ku (fun k hk x => by have := (oe.lt k hk).1; have x : k = b := x; omega)
        have o2 := own_kp o1 kr (fun k hk x => by have := (o1.lt k hk).1; have x : k = b4 := x; omega)
        exact own_base o2 (by have := HOB.out; have := HB4.out; omega)
      have HU1 : Hid (wr.setCell ⟨b, 22, none⟩ (.int .i64 T) = u1) := hu1.symm
      have HTT : Hid (T = s.tk + (k : Int)) := by show _ = _; rw [hTT, HTK.out]
      have HQE : Hid (u1.heap[bt]? = some (.cells (e'.cs p c) 39 (0, 0)) ∧ u1.heap[b4]? = some (.cells #[.int .i64 0, .int .i64 0, .int .i64 0, .int .u32 0, .int .u32 0, .int .i64 0, .int .i64 0, .int .i64 0, .int .i64 0, .int .i64 0, .int .i64 0, .int .i64 0, .int .i64 0, .int .i64 0, .int .i64 0, .slice none 0 0] 39 (0, 0))) := ⟨qe1, q41⟩
      clear qu ku qe1 q41 qe oe hne hu1 hTT hq2 kr
      go_wp2_with (first
        | (rw [HU1.out]; refine wpList_load_row rfl 39 (.tmp 8) rfl bt rfl _ _ _ _ HQE.out.1 Tryz.underlying39 rfl info_ev19 ?_)
        | (refine wpList_store_row rfl 39 (.tmp 4) (.tmp 64) rfl b4 (e'.cs p c) rfl rfl _ _ HQE.out.2 info_ev19 (evc_size19 e' p c) (evc_all19 e' p c) ?_))
      refine bodyPost_ret (v := .tuple #[.agg (e'.cs p c), .int .i64 (k : Int), .int .i64 0]) (results_ctt19 (fn := Tryz.f14) (p := 4) (u := 5) (v := 6) (ty := 39) rfl _ _ b4 _ _ _ _ rfl HQF.out.2.1 Tryz.underlying39 rfl info_ev19) rfl ?_
      refine .inr ?_
      rw [HEQ.out, ← HTT.out]
      exact ⟨rfl, p, c, rfl, HQF.out.1, HQF.out.2.2.1, HQF.out.2.2.2⟩
    obtain ⟨zb, off, rfl, hcz⟩ := (HKZ.out wr HKK.out).at_ k hlt
    have hvb := (HKZ.out wr HKK.out).bd k
    have hdr : z.drop k = z.getD k 0 :: z.drop (k + 1) := by
      rw [List.drop_eq_getElem_cons hlt]
      simp [List.getD, hlt]
    have HR3 : Hid (run19 D s e019 0 z = run19 D s' e' k (z.getD k 0 :: z.drop (k + 1))) := by show _ = _; rw [HR2.out, hdr]
    have HI3 : Hid (I s' e' (z.getD k 0 :: z.drop (k + 1))) := by have := HI.out; rw [hdr] at this; exact this
    generalize z.getD k 0 = v at *
    have HV : Hid (0 ≤ v ∧ v ≤ 255) := ⟨hvb.1, hvb.2⟩
    have HNX : Hid (s'.nx ≠ 8) := h8
    have hnx := HD.out.nx s' e' _ HI.out
    have AD := padd19 b 58 s' v wr (HKT.out wr HKK.out) HS.out ⟨hvb.1, hvb.2⟩
    have HAD : Hid (Calls Tryz.prog 18 #[.pointer (some ⟨b, 0, none⟩), .int .u8 v] wr fun e w' => e = .returned (.tuple #[]) ∧ St19 w' b 58 (am19 s' v) ∧ Kp (fun k => k = b) wr w') := AD
    have hki : IntKind.i64.wrap ((k : Int) + 1) = (k : Int) + 1 := IntWalk.i64_in _ (by have := HL.out; omega)
    obtain ⟨r, hr⟩ : ∃ r, r = D (am19 s' v) e' v := ⟨_, rfl⟩
    have HRR : Hid (r = D (am19 s' v) e' v) := hr
    have HCJ : Hid (∃ (j : Nat) (f : Nat), s'.nx = (j : Int) ∧ j < 8 ∧ (#[.nilFunc, .func (.func 20) #[] #[], .func (.func 21) #[] #[], .func (.func 22) #[] #[], .func (.func 23) #[] #[], .func (.func 24) #[] #[], .func (.func 25) #[] #[], .func (.func 26) #[] #[]] : Array Value)[j]? = some (.func (.func f) #[] #[]) ∧ (∀ (x : Array Value) (W : World), (callFunc f x).run Tryz.prog W = .ok (.enter f x) W) ∧ ∀ V, Tab V → St19 V b 58 (am19 s' v) → Ev19 V bt base e' → base ≤ V.heap.size → Calls Tryz.prog f #[.pointer (some ⟨b, 0, none⟩), .int .u8 v, .pointer (some ⟨bt, 0, none⟩)] V (PQ19 b bt base r V)) := by
      show ∃ (j : Nat) (f : Nat), _
      rw [hr]
      rcases (by omega : s'.nx = 1 ∨ s'.nx = 2 ∨ s'.nx = 3 ∨ s'.nx = 4 ∨ s'.nx = 5 ∨ s'.nx = 6 ∨ s'.nx = 7) with hj | hj | hj | hj | hj | hj | hj
      · exact ⟨1, 20, hj, by decide, rfl, fun x W => by kernel_rfl, fun V t q e m => HD.out.c1 V b bt base s' e' v _ HI3.out hj HV.out.1 HV.out.2 t q e HNE.out.1 HNE.out.2.2.2.2.2.1 HNE.out.2.2.2.2.2.2.1 m⟩
      · exact ⟨2, 21, hj, by decide, rfl, fun x W => by kernel_rfl, fun V t q e m => HD.out.c2 V b bt base s' e' v _ HI3.out hj HV.out.1 HV.out.2 t q e HNE.out.1 HNE.out.2.2.2.2.2.1 HNE.out.2.2.2.2.2.2.1 m⟩
      · exact ⟨3, 22, hj, by decide, rfl, fun x W => by kernel_rfl, fun V t q e m => HD.out.c3 V b bt base s' e' v _ HI3.out hj HV.out.1 HV.out.2 t q e HNE.out.1 HNE.out.2.2.2.2.2.1 HNE.out.2.2.2.2.2.2.1 m⟩
      · exact ⟨4, 23, hj, by decide, rfl, fun x W => by kernel_rfl, fun V t q e m => HD.out.c4 V b bt base s' e' v _ HI3.out hj HV.out.1 HV.out.2 t q e HNE.out.1 HNE.out.2.2.2.2.2.1 HNE.out.2.2.2.2.2.2.1 m⟩
      · exact ⟨5, 24, hj, by decide, rfl, fun x W => by kernel_rfl, fun V t q e m => HD.out.c5 V b bt base s' e' v _ HI3.out hj HV.out.1 HV.out.2 t q e HNE.out.1 HNE.out.2.2.2.2.2.1 HNE.out.2.2.2.2.2.2.1 m⟩
      · exact ⟨6, 25, hj, by decide, rfl, fun x W => by kernel_rfl, fun V t q e m => HD.out.c6 V b bt base s' e' v _ HI3.out hj HV.out.1 HV.out.2 t q e HNE.out.1 HNE.out.2.2.2.2.2.1 HNE.out.2.2.2.2.2.2.1 m⟩
      · exact ⟨7, 26, hj, by decide, rfl, fun x W => by kernel_rfl, fun V t q e m => HD.out.c7 V b bt base s' e' v _ HI3.out hj HV.out.1 HV.out.2 t q e HNE.out.1 HNE.out.2.2.2.2.2.1 HNE.out.2.2.2.2.2.2.1 m⟩
    obtain ⟨j, f, hj, hj8, hjf, hcf, hCJ⟩ := HCJ.out
    have HCA : Hid (∀ V, Tab V → St19 V b 58 (am19 s' v) → Ev19 V bt base e' → base ≤ V.heap.size → Calls Tryz.prog f #[.pointer (some ⟨b, 0, none⟩), .int .u8 v, .pointer (some ⟨bt, 0, none⟩)] V (PQ19 b bt base r V)) := hCJ
    clear hdr hvb AD hk hr HCJ hCJ
    rw [hj] at c3
    have HJ : Hid (s'.nx = (j : Int)) := hj
    have hji : (j : Int) < 8 := by omega
    clear hj h8 hnx
    go_wp2_with fail
    refine HAD.out.mono ?_
    rintro e5 w5 ⟨rfl, q5, k5⟩
    have K5 : Kp (fun k => k = b ∨ k = bt ∨ base ≤ k) w4 w5 := HKK.out.trans k5 (fun k _ x => .inl x)
    have g0 := q5.c0
    have g3 : w5.cell? ⟨b, 3, none⟩ = some (.int .i64 (j : Int)) := by have := q5.c3; rw [show (am19 s' v).nx = (j : Int) from HJ.out] at this; exact this
    have g7 : w5.cell? ⟨b7, j, none⟩ = some (.func (.func f) #[] #[]) := cell18 (HK7.out w5 K5) hjf
    have CJ := HCA.out w5 (HKT.out w5 K5) q5 (HE.out.kp k5 HNE.out.1 HNE.out.2.2.2.2.2.1) (by have := K5.size; have := HB3.out.2.2; omega)
    have HK5 : Hid (Kp (fun k => k = b ∨ k = bt ∨ base ≤ k) w4 w5) := K5
    clear q5 k5 K5 c0 c3 hjf
    go_wp2_with fail
    refine CJ.mono ?_
    rintro e6 w6 ⟨rfl, q6, v6, k6⟩
    have K6 : Kp (fun k => k = b ∨ k = bt ∨ base ≤ k) w4 w6 := HK5.out.trans k6 (fun k _ x => x)
    clear CJ g0 g3 g7
    by_cases he : r.2.1 = 0
    · have hwq := run19_wh (D := D) (k := k) (r := z.drop (k + 1)) HNX.out (by rw [← HRR.out]; exact he)
      rw [← HRR.out] at hwq
      have HRN : Hid (run19 D s e019 0 z = if r.1 = true then (0, k + 1, r.2.2.1, r.2.2.2) else run19 D r.2.2.1 r.2.2.2 (k + 1) (z.drop (k + 1))) := by show _ = _; rw [HR3.out, hwq]
      have HIN : Hid (I r.2.2.1 r.2.2.2 (z.drop (k + 1))) := by have := HD.out.iv s' e' v _ HI3.out HNX.out HV.out.1 HV.out.2 (by rw [← HRR.out]; exact he); rw [← HRR.out] at this; exact this
      have HTN : Hid (r.2.2.1.tk = s.tk) := by have := HD.out.tk s' e' v _ HI3.out HNX.out HV.out.1 HV.out.2; rw [← HRR.out] at this; show _ = _; rw [this]; exact HTK.out
      have HQN : Hid (St19 w6 b 58 r.2.2.1 ∧ Ev19 w6 bt base r.2.2.2 ∧ Kp (fun k => k = b ∨ k = bt ∨ base ≤ k) w4 w6) := ⟨q6, v6, K6⟩
      rw [he]
      clear q6 v6 k6 K6 hwq he
      generalize r.1 = wh at *
      generalize r.2.2.1 = s2 at *
      generalize r.2.2.2 = e2 at *
      go_wp2_with fail
      go_roundw
      case rel => exact ⟨k + 1, wh, s2, e2, by omega, by go_num, rfl, HIN.out, HQN.out.1, HQN.out.2.1, HQN.out.2.2, HTN.out, HRN.out⟩
      case measure => simp [intOf]; omega
    · have hwq := run19_err (D := D) (k := k) (r := z.drop (k + 1)) HNX.out (by rw [← HRR.out]; exact he)
      rw [← HRR.out] at hwq
      have HRN : Hid (run19 D s e019 0 z = (r.2.1, 0, s', e')) := by show _ = _; rw [HR3.out, hwq]
      have heb : (r.2.1 != 0) = true := by simp [he]
      have HHE : Hid (r.2.1 ≠ 0) := he
      have q46 := HK4.out w6 K6
      have kr : Kp (fun k => k = b4) w6 (w6.setRow b4 #[.int .i64 0, .int .i64 0, .int .i64 0, .int .u32 0, .int .u32 0, .int .i64 0, .int .i64 0, .int .i64 0, .int .i64 0, .int .i64 0, .int .i64 0, .int .i64 0, .int .i64 0, .int .i64 0, .int .i64 0, .slice none 0 0]) := grow19 w6 b4 #[.int .i64 0, .int .i64 0, .int .i64 0, .int .u32 0, .int .u32 0, .int .i64 0, .int .i64 0, .int .i64 0, .int .i64 0, .int .i64 0, .int .i64 0, .int .i64 0, .int .i64 0, .int .i64 0, .int .i64 0, .slice none 0 0]
      have HQF : Hid ((w6.setRow b4 #[.int .i64 0, .int .i64 0, .int .i64 0, .int .u32 0, .int .u32 0, .int .i64 0, .int .i64 0, .int .i64 0, .int .i64 0, .int .i64 0, .int .i64 0, .int .i64 0, .int .i64 0, .int .i64 0, .int .i64 0, .slice none 0 0]).heap[b4]? = some (.cells #[.int .i64 0, .int .i64 0, .int .i64 0, .int .u32 0, .int .u32 0, .int .i64 0, .int .i64 0, .int .i64 0, .int .i64 0, .int .i64 0, .int .i64 0, .int .i64 0, .int .i64 0, .int .i64 0, .int .i64 0, .slice none 0 0] 39 (0, 0)) ∧ Kp (fun k => k = b) w (w6.setRow b4 #[.int .i64 0, .int .i64 0, .int .i64 0, .int .u32 0, .int .u32 0, .int .i64 0, .int .i64 0, .int .i64 0, .int .i64 0, .int .i64 0, .int .i64 0, .int .i64 0, .int .i64 0, .int .i64 0, .int .i64 0, .slice none 0 0])) := ⟨setRow_heap w6 b4 _ #[.int .i64 0, .int .i64 0, .int .i64 0, .int .u32 0, .int .u32 0, .int .i64 0, .int .i64 0, .int .i64 0, .int .i64 0, .int .i64 0, .int .i64 0, .int .i64 0, .int .i64 0, .int .i64 0, .int .i64 0, .slice none 0 0] _ _ q46, HKE.out w6 _ K6 (kr.mono (fun _ _ x => .inr x))⟩
      have HQ4 : Hid (w6.heap[b4]? = some (.cells #[.int .i64 0, .int .i64 0, .int .i64 0, .int .u32 0, .int .u32 0, .int .i64 0, .int .i64 0, .int .i64 0, .int .i64 0, .int .i64 0, .int .i64 0, .int .i64 0, .int .i64 0, .int .i64 0, .int .i64 0, .slice none 0 0] 39 (0, 0))) := q46
      clear kr q46 q6 v6 k6 K6 hwq he
      generalize r.2.1 = er at *
      go_wp2_with (refine wpList_store_row rfl 39 (.tmp 4) (.tmp 52) rfl b4 #[.int .i64 0, .int .i64 0, .int .i64 0, .int .u32 0, .int .u32 0, .int .i64 0, .int .i64 0, .int .i64 0, .int .i64 0, .int .i64 0, .int .i64 0, .int .i64 0, .int .i64 0, .int .i64 0, .int .i64 0, .slice none 0 0] rfl rfl _ _ HQ4.out info_ev19 rfl evc_z19 ?_)
      refine bodyPost_ret (v := .tuple #[.agg #[.int .i64 0, .int .i64 0, .int .i64 0, .int .u32 0, .int .u32 0, .int .i64 0, .int .i64 0, .int .i64 0, .int .i64 0, .int .i64 0, .int .i64 0, .int .i64 0, .int .i64 0, .int .i64 0, .int .i64 0, .slice none 0 0], .int .i64 0, .int .i64 er]) (results_ctt19 (fn := Tryz.f14) (p := 4) (u := 5) (v := 6) (ty := 39) rfl _ _ b4 _ _ _ _ rfl HQF.out.1 Tryz.underlying39 rfl info_ev19) rfl ?_
      refine .inl ?_
      rw [HRN.out]
      exact ⟨HHE.out, rfl, HQF.out.2⟩
end Go.Proofs.YtpodakndckflgaaGreatDoor
