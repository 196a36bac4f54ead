import Derived.RangeFuncNested
import Derived.RangeFuncBound
import Derived.RangeFuncCalls
import Derived.RangeFuncLeaves
import Derived.Shelf.Abstract
import Derived.WalkKit
import Derived.OwnWalkIn
import Derived.TacticsInMore
import Derived.LoopNIn
import Derived.LoopIn
import Derived.Test.YtmfpdchfofffeaaGreatDoorProg
import Derived.Test.YtmfpdchfofffeaaGreatDoorBtMem
namespace Go.Proofs.YtmfpdchfofffeaaGreatDoor
open Go.RowKit Go.Shelf
set_option linter.unusedVariables false
structure Kr16 (D : Nat → Prop) (W W' : World) : Prop where
  size : W.heap.size ≤ W'.heap.size
  block : ∀ k, k < W.heap.size → D k → W'.heap[k]? = W.heap[k]?
theorem Kr16.refl (D : Nat → Prop) (W : World) : Kr16 D W W := ⟨Nat.le_refl _, fun _ _ _ => rfl⟩
theorem Kr16.trans {D : Nat → Prop} {A B C : World} (h : Kr16 D A B) (k : Kr16 D B C) : Kr16 D A C :=
  ⟨Nat.le_trans h.size k.size, fun i hi hd => (k.block i (Nat.lt_of_lt_of_le hi h.size) hd).trans (h.block i hi hd)⟩
theorem Kr16.mono {D D' : Nat → Prop} {A B : World} (h : Kr16 D A B) (hd : ∀ k, D' k → D k) : Kr16 D' A B := ⟨h.size, fun k hk hx => h.block k hk (hd k hx)⟩
theorem Kr16.of_kp {S D : Nat → Prop} {A B : World} (h : Kp S A B) (hd : ∀ k, D k → ¬ S k) : Kr16 D A B := ⟨h.size, fun k hk hx => h.block k hk (hd k hx)⟩
theorem Kr16.heap {D : Nat → Prop} {A B : World} {k : Nat} {o : Obj} (h : Kr16 D A B) (hk : A.heap[k]? = some o) (hd : D k) : B.heap[k]? = some o :=
  (h.block k (Array.getElem?_eq_some_iff.1 hk).1 hd).trans hk
theorem Kr16.cell {D : Nat → Prop} {A B : World} {p : Addr} {v : Value} (h : Kr16 D A B) (hp : A.cell? p = some v) (hd : D p.block) : B.cell? p = some v := by
  rw [World.cell?_of_block (w := A) (h.block p.block (World.block_lt_of_cell? A _ hp) hd)]; exact hp
theorem Kp.put16 {S : Nat → Prop} {W : World} {l : Nat} (hl : S l) (o : Obj) : Kp S W (W.putObj l o) :=
  ⟨rfl, rfl, rfl, by simp [World.putObj], fun k _ hn => World.putObj_heap_other (fun e => hn (e ▸ hl))⟩
/-- Where the iterator's own blocks lie. -/
def Lo16 (B : Nat) (E : Nat → Prop) (W : World) : Prop := ∀ k, E k → B ≤ k ∧ k < W.heap.size
/-- What is said abides the iterator's doings. -/
def Abd16 {β : Type} (B : Nat) (J : β → (Nat → Prop) → World → Prop) : Prop :=
  ∀ s E E' W W', J s E W → Lo16 B E W → Kp E W W' → (∀ k, E k → E' k) → (∀ k, E' k → E k ∨ W.heap.size ≤ k) → Lo16 B E' W' → J s E' W'
/-- What a yield must do. -/
def Yd16 (J : Nat → (Nat → Prop) → World → Prop) (PX : List PanicEntry → (Nat → Prop) → World → Prop) (i : Nat) (E D : Nat → Prop) (W : World) : Ending → World → Prop
  | .returned v, W' => v = .bool true ∧ J (i + 1) E W' ∧ Kr16 D W W'
  | .panicked ch, W' => PX ch E W' ∧ Kr16 D W W'
  | .outgrown, _ => False
/-- How an iterator ends. -/
def Rs16 (J : Nat → (Nat → Prop) → World → Prop) (PX : List PanicEntry → (Nat → Prop) → World → Prop) (m B : Nat) : Ending → World → Prop
  | .returned _, W' => ∃ E, Lo16 B E W' ∧ J m E W'
  | .panicked ch, W' => ∃ E, Lo16 B E W' ∧ PX ch E W'
  | .outgrown, _ => False
/-- An iterator: it tells L, one after the other. -/
def Seq16 (n : Nat) (P : Program) (g : Nat) (lb : Array Value) (L : List (Array Value)) (R : Nat → Prop) (w : World) : Prop :=
  ∀ (l : Nat) (J : Nat → (Nat → Prop) → World → Prop) (PX : List PanicEntry → (Nat → Prop) → World → Prop) (W : World), Kr16 R w W → Abd16 W.heap.size J → Abd16 W.heap.size PX →
    (∀ i v E W1, L[i]? = some v → J i E W1 → Lo16 W.heap.size E W1 → Kr16 R W W1 → YieldAt Fence.wide (n - 1) P l v W1 (Yd16 J PX i E (fun k => E k ∨ R k) W1)) →
    J 0 (fun _ => False) W → CallsIn Fence.wide n P g (#[.func (.yield l) #[] #[]] ++ lb) W (Rs16 J PX L.length W.heap.size)
theorem Seq16.later {n : Nat} {P : Program} {g : Nat} {lb : Array Value} {L : List (Array Value)} {R : Nat → Prop} {w w' : World} (h : Seq16 n P g lb L R w) (hk : Kr16 R w w') : Seq16 n P g lb L R w' :=
  fun l J PX W hW hJ hP hY h0 => h l J PX W (hk.trans hW) hJ hP hY h0

def fn16 (f : FuncId) (P : Program) (c : Code) (Q : Exit → Act → World → Prop) (a : Act) (w : World) : Prop :=
  ∀ (b : Frame) (k : List Item) (cs : List Frame), b.roundOf = none → b.fn = f →
    ∃ e a' w', Q e a' w' ∧ ArrivesIn (Machine.fenced P Fence.wide) P (lone (b.atR a (.code c :: k)) cs w) b k cs e a' w'
theorem calm16 {P : Program} (m : Machine) : Machine.fenced P Fence.wide m := fenced_wide P m
theorem fn16_of {f : FuncId} {P : Program} {c : Code} {Q : Exit → Act → World → Prop} {a : Act} {w : World} {n : Nat} (h : c.wpIn Fence.wide n P Q a w) : fn16 f P c Q a w :=
  fun b k cs hro _ => h b k cs hro trivial (room_wide _)
theorem fn16_seq {f : FuncId} {P : Program} {x y : Code} {Q : Exit → Act → World → Prop} {a : Act} {w : World} (h : fn16 f P x (Exit.then (fn16 f P y Q) Q) a w) : fn16 f P (.seq x y) Q a w := by
  intro b k cs hro hb
  have h0 : (lone (b.atR a (.code (.seq x y) :: k)) cs w).fenced P Fence.wide := calm16 _
  obtain ⟨e, a₁, w₁, hq, harr⟩ := h b (.code y :: k) cs hro hb
  cases e with
  | normal =>
    obtain ⟨e₂, a₂, w₂, hq₂, harr₂⟩ := hq b k cs hro hb
    exact ⟨e₂, a₂, w₂, hq₂, .of_steps (.head h0 stepR_seq harr) harr₂⟩
  | exit id => exact ⟨_, a₁, w₁, hq, .of_steps (.one h0 stepR_seq) (.pass (x := .code y) rfl (fun _ _ => .inl (by simp)) harr)⟩
  | goto l => exact ⟨_, a₁, w₁, hq, .of_steps (.one h0 stepR_seq) (.pass (x := .code y) rfl (fun _ _ => .inl (by simp)) harr)⟩
  | ret => exact ⟨_, a₁, w₁, hq, .of_steps (.one h0 stepR_seq) (.pass (x := .code y) rfl (fun _ _ => .inl (by simp)) harr)⟩
  | panic ch => exact ⟨_, a₁, w₁, hq, .of_steps (.one h0 stepR_seq) (.pass (x := .code y) rfl (fun _ _ => .inl (by simp)) harr)⟩
  | outgrown => exact ⟨_, a₁, w₁, hq, .of_steps (.one h0 stepR_seq) (.pass (x := .code y) rfl (fun _ _ => .inl (by simp)) harr)⟩
theorem fn16_block {f : FuncId} {P : Program} {id : Nat} {c : Code} {Q : Exit → Act → World → Prop} {a : Act} {w : World} (h : fn16 f P c (Exit.inBlock id Q) a w) : fn16 f P (.block id c) Q a w := by
  intro b k cs hro hb
  have h0 : (lone (b.atR a (.code (.block id c) :: k)) cs w).fenced P Fence.wide := calm16 _
  obtain ⟨e, a₁, w₁, hq, harr⟩ := h b (.inBlock id :: k) cs hro hb
  cases e with
  | normal => exact ⟨.normal, a₁, w₁, hq, .head h0 stepR_block (StepsIn.trans harr (.one (calm16 _) stepR_inBlock))⟩
  | exit id' =>
    by_cases hid : id' = id
    · simp only [Exit.inBlock, hid, if_true] at hq
      exact ⟨.normal, a₁, w₁, hq, .head h0 stepR_block (harr.1 k (by simp [exitTo, hid]))⟩
    · simp only [Exit.inBlock, hid, if_false] at hq
      have this : (id == id') = false := by simp; exact fun h => hid h.symm
      have hx : exitTo id' (.inBlock id :: k) = exitTo id' k := by simp [exitTo, this]
      exact ⟨.exit id', a₁, w₁, hq, fun k' hk => .head h0 stepR_block (harr.1 k' (by rw [hx]; exact hk)),
        fun hr' hk => let ⟨k₁, h1, h2⟩ := harr.2 hr' (by rw [hx]; exact hk); ⟨k₁, h1, .head h0 stepR_block h2⟩⟩
  | goto l =>
    have hx : gotoIn l (.inBlock id :: k) = gotoIn l k := by simp [gotoIn]
    exact ⟨_, a₁, w₁, hq, fun k' hk => .head h0 stepR_block (harr.1 k' (by rw [hx]; exact hk)),
      fun hr' hk => let ⟨k₁, h1, h2⟩ := harr.2 hr' (by rw [hx]; exact hk); ⟨k₁, h1, .head h0 stepR_block h2⟩⟩
  | ret => exact ⟨_, a₁, w₁, hq, .of_steps (.one h0 stepR_block) harr⟩
  | panic ch => exact ⟨_, a₁, w₁, hq, .of_steps (.one h0 stepR_block) harr⟩
  | outgrown => exact ⟨_, a₁, w₁, hq, .of_steps (.one h0 stepR_block) harr⟩
theorem callsIn_of_fn16 {P : Program} {n : Nat} {f : FuncId} {fn : Func} {c : Code} {args : Array Value} {w : World} {R : Ending → World → Prop}
    (hf : P.funcs[f]? = some fn) (hb : fn.body = some c)
    (h : fn16 f P c (bodyPostM Fence.wide n P fn R) { tmps := args ++ Array.replicate (fn.ntmps - args.size) undef, defers := [] } w) : CallsIn Fence.wide n P f args w R := by
  refine ⟨trivial, fun cs hr => ?_⟩
  let b : Frame := { (default : Frame) with fn := f, kind := .normal, roundOf := none }
  have henter : Frame.enter P f args .normal =
      b.atR { tmps := args ++ Array.replicate (fn.ntmps - args.size) undef, defers := [] } [.code c] := by
    simp [Frame.enter, Frame.atR, hf, hb, b]
  obtain ⟨e, a', w', hq, harr⟩ := h b [] cs rfl rfl
  rw [← henter] at harr
  cases e with
  | normal =>
    obtain ⟨e', w'', fr', hR, hs, hfn, hl⟩ := leaves_stepsInM a'.defers .returning w' { b.atR a' [] with mode := .returning } cs rfl rfl rfl hf rfl trivial hr hq
    exact ⟨e', w'', fr', hR, ComesIn.of_steps (StepsIn.trans harr (.one (calm16 _) (stepR_end rfl))) hs, hfn, hl⟩
  | ret =>
    obtain ⟨todo, hs₀⟩ := harr.1 rfl
    obtain ⟨e', w'', fr', hR, hs, hfn, hl⟩ := leaves_stepsInM a'.defers .returning w' { b.atR a' todo with mode := .returning } cs rfl rfl rfl hf rfl trivial hr hq
    exact ⟨e', w'', fr', hR, ComesIn.of_steps hs₀ hs, hfn, hl⟩
  | panic chain =>
    obtain ⟨todo, hs₀⟩ := harr
    obtain ⟨e', w'', fr', hR, hs, hfn, hl⟩ := leaves_stepsInM a'.defers (.panicking chain) w' { b.atR a' todo with mode := .panicking chain } cs rfl rfl rfl hf rfl trivial hr hq
    exact ⟨e', w'', fr', hR, ComesIn.of_steps hs₀ hs, hfn, hl⟩
  | exit id => exact hq.elim
  | goto l => exact hq.elim
  | outgrown => exact ⟨.outgrown, w', b, hq, harr.resolve_left (by simp [b]), rfl, trivial⟩
theorem fn16_rangeFunc {f : FuncId} {P : Program} {n : Nat} {g : Operand} {ps : Array Tmp} {assign body : Code} {Q : Exit → Act → World → Prop} {a : Act} {w : World}
    (h : ∃ (l : Nat) (mark : List Deferred) (w₁ : World) (d : Deferred) (w₁' : World) (fg : FuncId) (args : Array Value) (w₂ : World),
      (Instr.enterLoop f a.tmps ps assign body none).run P w = .ok (l, mark) w₁ ∧
      (resolve a.eval (rangeCall g l) 0).run P w₁ = .ok d w₁' ∧
      (invoke d.target d.args).run P w₁' = .ok (.enter fg args) w₂ ∧
      CallsIn Fence.wide n P fg args w₂ (rangePost Fence.wide n P l Q { a with defers := mark ++ a.defers })) :
    fn16 f P (Code.rangeFunc g ps assign body) Q a w := by
  intro b k cs hro hb
  obtain ⟨l, mark, w₁, d, w₁', fg, args, w₂, he, hres, hinv, hF, hcall⟩ := h
  subst hb
  rw [← hro] at he
  have h0 : (lone (b.atR a (.code (.rangeFunc g ps assign body) :: k)) cs w).fenced P Fence.wide := calm16 _
  have henter := stepR_rangeFunc (P := P) (b := b) (a := a) (k := k) (cs := cs) (w := w) he hres hinv
  obtain ⟨e, w₃, fr, hR, hsteps, hfn, hleave⟩ := hcall (b.atR { a with defers := mark ++ a.defers } (.inRangeFunc l :: k) :: cs) (room_wide _)
  cases e with
  | outgrown =>
    obtain ⟨a₀, w₀, hq⟩ := hR
    exact ⟨.outgrown, a₀, w₀, hq, .inr (Outgrown.of_steps (.one henter) hsteps)⟩
  | returned v =>
    obtain ⟨jump, w₄, hend, hj⟩ := hR
    have sback : StepsIn (Machine.fenced P Fence.wide) P (lone (b.atR a (.code (.rangeFunc g ps assign body) :: k)) cs w) (lone (b.atR { a with defers := mark ++ a.defers } ((jump.map Item.code).toList ++ k)) cs w₄) := by
      refine .head h0 henter (StepsIn.trans hsteps (.head (calm16 _) ?_ (.one (calm16 _) (stepR_endRangeFunc hend))))
      rw [← finish_atR_inRangeFunc l v]; exact step_leave_returned hleave
    cases jump with
    | none => exact ⟨.normal, _, w₄, hj, sback⟩
    | some c =>
      obtain ⟨e', a'', w₅, hq, harr⟩ := hj b k cs hro trivial (room_wide _)
      exact ⟨e', a'', w₅, hq, .of_steps sback harr⟩
  | panicked chain =>
    refine ⟨.panic chain, _, w₃, hR, .inRangeFunc l :: k, .head h0 henter (StepsIn.trans hsteps (.one (calm16 _) ?_))⟩
    rw [← Frame.raise_atR]; exact step_leave_panicked hleave
/-- What is asked at a round's end, a panic taken in. -/
def rp16 (P : Program) (l : Nat) (R : Ending → World → Prop) : Exit → Act → World → Prop
  | .normal, _, w => ∃ v w', (Instr.endRound l none).run P w = .ok v w' ∧ R (.returned v) w'
  | .panic ch, a, w => a.defers = [] ∧ R (.panicked ch) w
  | _, _, _ => False
theorem round16 {P : Program} {n : Nat} {l : Nat} {f : FuncId} {fn : Func} (hf : P.funcs[f]? = some fn) {tmps : Array Value} {assign body : Code} {w : World} {R : Ending → World → Prop}
    (h : assign.wpIn (Fence.wide.inRound l) n P (Exit.then (fun a₁ w₁ => ∃ w₂, (Instr.beginRound l).run P w₁ = .ok () w₂ ∧ body.wpIn (Fence.wide.inRound l) n P (rp16 P l R) a₁ w₂) (fun _ _ _ => False))
      { tmps := tmps, defers := [] } w) :
    RoundIn Fence.wide n P l f tmps assign body w R := by
  refine ⟨trivial, fun c cs hr => ?_⟩
  let b : Frame := { (default : Frame) with fn := f, kind := .normal, roundOf := some l }
  have hb0 : Frame.round l f tmps assign body .normal = b.atR { tmps := tmps, defers := [] } [.code assign, .beginRound, .code body] := by
    simp [Frame.round, Frame.atR, b]
  have hr' : (Fence.wide.inRound l).room ((c :: cs).length + 1 + n) := hr
  obtain ⟨e, a₁, w₁, hq, harr⟩ := h b [.beginRound, .code body] (c :: cs) rfl trivial hr'
  rw [← hb0] at harr
  cases e with
  | normal =>
    obtain ⟨w₂, hbr, hbody⟩ := hq
    have s1 : StepsIn (Machine.fenced P (Fence.wide.inRound l)) P (lone (b.atR a₁ [.beginRound, .code body]) (c :: cs) w₁) (lone (b.atR a₁ [.code body]) (c :: cs) w₂) :=
      .one (calm16 _) (stepR_beginRound rfl hbr)
    obtain ⟨e₂, a₂, w₃, hq₂, harr₂⟩ := hbody b [] (c :: cs) rfl trivial hr'
    cases e₂ with
    | normal =>
      obtain ⟨v, w₄, hend, hR⟩ := hq₂
      exact ⟨.returned v, w₄, hR, (StepsIn.trans harr s1).trans (StepsIn.trans harr₂ (.one (calm16 _) (stepR_round_end rfl rfl hend)))⟩
    | panic chain =>
      obtain ⟨hd, hR⟩ := hq₂
      obtain ⟨todo, hs⟩ := harr₂
      refine ⟨.panicked chain, w₃, hR, (StepsIn.trans harr s1).trans (StepsIn.trans hs (.one (calm16 _) ?_))⟩
      exact step_leave_panicked ⟨rfl, hd, fn, hf⟩
    | ret => exact hq₂.elim
    | exit id => exact hq₂.elim
    | goto t => exact hq₂.elim
    | outgrown => exact hq₂.elim
  | exit id => exact hq.elim
  | goto t => exact hq.elim
  | ret => exact hq.elim
  | panic chain => exact hq.elim
  | outgrown => exact hq.elim

/-- What a loop's body must come to. -/
def bp16 (I : Nat → (Nat → Prop) → World → Prop) (PX : List PanicEntry → (Nat → Prop) → World → Prop) (i : Nat) (E D : Nat → Prop) (W : World) : Exit → Act → World → Prop
  | .normal, _, W' => I (i + 1) E W' ∧ Kr16 D W W'
  | .panic ch, a, W' => a.defers = [] ∧ PX ch E W' ∧ Kr16 D W W'
  | _, _, _ => False
/-- What the loop's left sides leave: the body is walked from there. -/
def As16 (I : Nat → (Nat → Prop) → World → Prop) (l i : Nat) (E D : Nat → Prop) (W : World) (B : Act → World → Prop) (a1 : Act) (W1 : World) : Prop :=
  Kr16 D W W1 ∧ I i E W1 ∧ ∀ W2, Kp (fun k => k = l) W1 W2 → (∃ r, W2.heap[l]? = some (.loop r)) → I i E W2 → B a1 W2
theorem As16.mk {I : Nat → (Nat → Prop) → World → Prop} {l i : Nat} {E D : Nat → Prop} {W : World} {B : Act → World → Prop} {a1 : Act} {W1 : World} (h1 : Kr16 D W W1) (h2 : I i E W1) (h3 : ∀ W2, Kp (fun k => k = l) W1 W2 → (∃ r, W2.heap[l]? = some (.loop r)) → I i E W2 → B a1 W2) : As16 I l i E D W B a1 W1 := ⟨h1, h2, h3⟩
theorem range16 {f : FuncId} {fn : Func} {P : Program} {n : Nat} {g : Operand} {ps : Array Tmp} {assign body : Code} {Q : Exit → Act → World → Prop} {a : Act} {w : World} (hf : P.funcs[f]? = some fn) {gf : Nat} {lb : Array Value} (hg : a.eval g = .func (.func gf) #[] lb) (eg : ∀ args w, (callFunc gf args).run P w = .ok (.enter gf args) w)
    {L : List (Array Value)} {R : Nat → Prop} (hR : ∀ k, R k → k < w.heap.size) (hseq : Seq16 n P gf lb L R w) (hps : ∀ v ∈ L, v.size = ps.size)
    (I : Nat → (Nat → Prop) → World → Prop) (hI : Abd16 w.heap.size I) (PX : List PanicEntry → (Nat → Prop) → World → Prop) (hPX : Abd16 w.heap.size PX) (h0 : I 0 (fun _ => False) w)
    (hround : ∀ (l i : Nat) (v : Array Value) (E : Nat → Prop) (W : World), L[i]? = some v → I i E W → Lo16 w.heap.size E W → E l → (∃ r, W.heap[l]? = some (.loop r)) → Kr16 R w W → assign.wpIn (Fence.wide.inRound l) (n - 1) P (Exit.then (As16 I l i E (fun k => E k ∨ R k) W (fun a1 W2 => body.wpIn (Fence.wide.inRound l) (n - 1) P (bp16 I PX i E (fun k => E k ∨ R k) W2) a1 W2)) (fun _ _ _ => False))
      { tmps := (ps.zip v).foldl (fun t (p, v) => t.setIfInBounds p v) a.tmps, defers := [] } W)
    (hdone : ∀ (D : Nat) (E : Nat → Prop) (W : World), E D → Lo16 w.heap.size E W → I L.length E W → W.heap[D]? = some (.deferred (some [])) → Q .normal { a with defers := { target := .collected D, args := #[] } :: a.defers } W)
    (hpan : ∀ (ch : List PanicEntry) (D : Nat) (E : Nat → Prop) (W : World), E D → Lo16 w.heap.size E W → PX ch E W → W.heap[D]? = some (.deferred (some [])) → Q (.panic ch) { a with defers := { target := .collected D, args := #[] } :: a.defers } W) :
    fn16 f P (Code.rangeFunc g ps assign body) Q a w := by
  refine fn16_rangeFunc (n := n) ?_
  let rec_ : LoopState → Loop := fun st => { state := st, pending := none, fn := f, tmps := a.tmps, params := ps, assign, body, defers := w.heap.size }
  have hsz : ((w.alloc (.deferred (some []))).alloc (.loop (rec_ .ready))).heap.size = w.heap.size + 2 := by simp
  have e0 : (w.alloc (.deferred (some []))).heap.size = w.heap.size + 1 := by simp
  have hl0 : ((w.alloc (.deferred (some []))).alloc (.loop (rec_ .ready))).heap[w.heap.size + 1]? = some (.loop (rec_ .ready)) := by
    rw [← e0]; exact heap_alloc_new _ _
  have hd0 : ((w.alloc (.deferred (some []))).alloc (.loop (rec_ .ready))).heap[w.heap.size]? = some (.deferred (some [])) := by
    exact (Below.heap_alloc (w.alloc (.deferred (some []))) _ w.heap.size (by omega)).trans (heap_alloc_new w _)
  have hb0 : Below w.heap.size w ((w.alloc (.deferred (some []))).alloc (.loop (rec_ .ready))) := ((Below.refl _ _).alloc (Nat.le_refl _) _).alloc (by omega) _
  have hent := run_enterLoop_outer (P := P) (w := w) f a.tmps ps assign body
  obtain ⟨W1, hW1⟩ : ∃ W1, W1 = (w.alloc (.deferred (some []))).alloc (.loop (rec_ .ready)) := ⟨_, rfl⟩
  rw [← hW1] at hsz hl0 hd0 hb0
  let U : (Nat → Prop) → Nat → Prop := fun E k => E k ∨ k = w.heap.size ∨ k = w.heap.size + 1
  have hUlo : ∀ E W, Lo16 W1.heap.size E W → W1.heap.size ≤ W.heap.size → Lo16 w.heap.size (U E) W := by
    intro E W hlo hs k hk
    rcases hk with hk | hk | hk
    · have := hlo k hk; omega
    · omega
    · omega
  have hpz : ∀ (A : World) (l : Nat) (o : Obj), (A.putObj l o).heap.size = A.heap.size := fun A l o => by simp [World.putObj]
  have hKR : Kr16 R w W1 := ⟨hb0.size, fun k hk _ => hb0.block k hk⟩
  let J : Nat → (Nat → Prop) → World → Prop := fun i E W => I i (U E) W ∧ W1.heap.size ≤ W.heap.size ∧ W.heap[w.heap.size + 1]? = some (.loop (rec_ .ready)) ∧ W.heap[w.heap.size]? = some (.deferred (some []))
  let X : List PanicEntry → (Nat → Prop) → World → Prop := fun ch E W => PX ch (U E) W ∧ W1.heap.size ≤ W.heap.size ∧ W.heap[w.heap.size]? = some (.deferred (some []))
  have hJ : Abd16 W1.heap.size J := by
    rintro s E E' A B ⟨x1, x2, x3, x4⟩ hlo hk h1 h2 h3
    have hsz2 := hk.size
    refine ⟨hI s (U E) (U E') A B x1 (hUlo E A hlo x2) (hk.mono fun i _ hi => .inl hi) ?_ ?_ (hUlo E' B h3 (by omega)), by omega, hk.heap x3 ?_, hk.heap x4 ?_⟩
    · rintro k (hk | hk)
      · exact .inl (h1 k hk)
      · exact .inr hk
    · rintro k (hk | hk)
      · rcases h2 k hk with h | h
        · exact .inl (.inl h)
        · exact .inr h
      · exact .inl (.inr hk)
    · intro hx; have := hlo _ hx; omega
    · intro hx; have := hlo _ hx; omega
  have hX : Abd16 W1.heap.size X := by
    rintro s E E' A B ⟨x1, x2, x4⟩ hlo hk h1 h2 h3
    have hsz2 := hk.size
    refine ⟨hPX s (U E) (U E') A B x1 (hUlo E A hlo x2) (hk.mono fun i _ hi => .inl hi) ?_ ?_ (hUlo E' B h3 (by omega)), by omega, hk.heap x4 ?_⟩
    · rintro k (hk | hk)
      · exact .inl (h1 k hk)
      · exact .inr hk
    · rintro k (hk | hk)
      · rcases h2 k hk with h | h
        · exact .inl (.inl h)
        · exact .inr h
      · exact .inl (.inr hk)
    · intro hx; have := hlo _ hx; omega
  refine ⟨w.heap.size + 1, [{ target := .collected w.heap.size, args := #[] }], W1, { target := .fn (.func gf) lb, args := #[.func (.yield (w.heap.size + 1)) #[] #[]] }, W1, gf, #[.func (.yield (w.heap.size + 1)) #[] #[]] ++ lb, W1, ?_, ?_, ?_, ?_⟩
  · rw [hW1]; exact hent
  · simp only [resolve, hg]
    simp [go_sem]
  · simp [invoke, go_sem, eg]
  · have hI0 : I 0 (U fun _ => False) W1 := hI 0 (fun _ => False) _ w W1 h0 (fun k hk => hk.elim) (.of_below hb0) (fun k hk => hk.elim) (by rintro k (hk | hk | hk); exact hk.elim; exact .inr (by omega); exact .inr (by omega)) (hUlo _ _ (fun k hk => hk.elim) (Nat.le_refl _))
    refine (hseq (w.heap.size + 1) J X W1 hKR hJ hX ?_ ⟨hI0, Nat.le_refl _, hl0, hd0⟩).mono ?_
    · rintro i v E A hv ⟨x1, x2, x3, x4⟩ hlo hkr
      refine ⟨f, _, assign, body, run_yield x3 (hps v (List.mem_of_getElem? hv)), round16 hf ?_⟩
      have hlo' := hUlo E A hlo x2
      have hEl : U E (w.heap.size + 1) := .inr (.inr rfl)
      refine wpIn_mono (hround (w.heap.size + 1) i v (U E) A hv x1 hlo' hEl ⟨_, x3⟩ (hKR.trans hkr)) ?_
      rintro e a1 A1 he
      cases e with
      | normal =>
        obtain ⟨k1, k3, k4⟩ := he
        have y3 := k1.heap x3 (.inl hEl)
        have y4 := k1.heap x4 (.inl (.inr (.inl rfl)))
        refine ⟨_, run_beginRound y3 rfl, ?_⟩
        have hlo1 : Lo16 w.heap.size (U E) A1 := fun k hk => ⟨(hlo' k hk).1, Nat.lt_of_lt_of_le (hlo' k hk).2 k1.size⟩
        have z3 : (A1.putObj (w.heap.size + 1) (.loop { rec_ .ready with state := .busy })).heap[w.heap.size + 1]? = some (.loop { rec_ .ready with state := .busy }) := World.putObj_heap_same (Array.getElem?_eq_some_iff.1 y3).1
        have z4 := (World.putObj_heap_other (w := A1) (o := .loop { rec_ .ready with state := .busy }) (show w.heap.size ≠ w.heap.size + 1 by omega)).trans y4
        have hkp : Kp (U E) A1 (A1.putObj (w.heap.size + 1) (.loop { rec_ .ready with state := .busy })) := Kp.put16 hEl _
        have hs1 := k1.size
        have hlo2 : Lo16 w.heap.size (U E) (A1.putObj (w.heap.size + 1) (.loop { rec_ .ready with state := .busy })) := fun k hk => ⟨(hlo1 k hk).1, Nat.lt_of_lt_of_le (hlo1 k hk).2 hkp.size⟩
        refine wpIn_mono (k4 _ (Kp.put16 (S := fun k => k = w.heap.size + 1) rfl _) ⟨_, z3⟩ (hI _ _ _ _ _ k3 hlo1 hkp (fun _ h => h) (fun _ h => .inl h) hlo2)) ?_
        have fin : ∀ A3, Kr16 (fun k => U E k ∨ R k) (A1.putObj (w.heap.size + 1) (.loop { rec_ .ready with state := .busy })) A3 → Kr16 (fun k => E k ∨ R k) A A3 := by
          intro A3 hA
          have q1 : Kr16 (fun k => E k ∨ R k) A A1 := k1.mono (by rintro k (h | h); exact .inl (.inl h); exact .inr h)
          have q2 : Kr16 (fun k => E k ∨ R k) A1 (A1.putObj (w.heap.size + 1) (.loop { rec_ .ready with state := .busy })) := Kr16.of_kp (S := fun k => k = w.heap.size + 1) (Kp.put16 (S := fun k => k = w.heap.size + 1) rfl _) (by
            rintro k (h | h) e
            · have := hlo k h; omega
            · have := hR k h; omega)
          exact (q1.trans q2).trans (hA.mono (by rintro k (h | h); exact .inl (.inl h); exact .inr h))
        rintro e2 a2 A3 he2
        cases e2 with
        | normal =>
          obtain ⟨j3, j1⟩ := he2
          have u3 := j1.heap z3 (.inl hEl)
          have u4 := j1.heap z4 (.inl (.inr (.inl rfl)))
          have hlo3 : Lo16 w.heap.size (U E) A3 := fun k hk => ⟨(hlo2 k hk).1, Nat.lt_of_lt_of_le (hlo2 k hk).2 j1.size⟩
          have hkp3 : ∀ o, Kp (U E) A3 (A3.putObj (w.heap.size + 1) o) := fun o => Kp.put16 hEl _
          have s3 : A1.heap.size ≤ A3.heap.size := by have := j1.size; rwa [hpz] at this
          have hlo4 : ∀ o, Lo16 w.heap.size (U E) (A3.putObj (w.heap.size + 1) o) := fun o k hk => ⟨(hlo3 k hk).1, Nat.lt_of_lt_of_le (hlo3 k hk).2 (hkp3 o).size⟩
          refine ⟨_, _, run_endRound none u3, rfl, ⟨hI _ _ _ _ _ j3 hlo3 (hkp3 _) (fun _ h => h) (fun _ h => .inl h) (hlo4 _), ?_, ?_, ?_⟩, ?_⟩
          · rw [hpz]; omega
          · exact World.putObj_heap_same (Array.getElem?_eq_some_iff.1 u3).1
          · exact (World.putObj_heap_other (by omega)).trans u4
          · refine (fin A3 j1).trans (Kr16.of_kp (S := fun k => k = w.heap.size + 1) (Kp.put16 (S := fun k => k = w.heap.size + 1) rfl _) ?_)
            rintro k (h | h) e
            · have := hlo k h; omega
            · have := hR k h; omega
        | panic ch =>
          obtain ⟨jd, j3, j1⟩ := he2
          have u4 := j1.heap z4 (.inl (.inr (.inl rfl)))
          have s3 : A1.heap.size ≤ A3.heap.size := by have := j1.size; rwa [hpz] at this
          exact ⟨jd, ⟨j3, by omega, u4⟩, fin A3 j1⟩
        | ret => exact he2.elim
        | exit id => exact he2.elim
        | goto t => exact he2.elim
        | outgrown => exact he2.elim
      | ret => exact he.elim
      | exit id => exact he.elim
      | goto t => exact he.elim
      | panic ch => exact he.elim
      | outgrown => exact he.elim
    · rintro e A he
      cases e with
      | returned v =>
        obtain ⟨E, hlo, x1, x2, x3, x4⟩ := he
        have hlo' := hUlo E A hlo x2
        have hEl : U E (w.heap.size + 1) := .inr (.inr rfl)
        have hkp : ∀ o, Kp (U E) A (A.putObj (w.heap.size + 1) o) := fun o => Kp.put16 hEl _
        have hlo4 : ∀ o, Lo16 w.heap.size (U E) (A.putObj (w.heap.size + 1) o) := fun o k hk => ⟨(hlo' k hk).1, Nat.lt_of_lt_of_le (hlo' k hk).2 (hkp o).size⟩
        exact ⟨none, _, run_endLoop x3 (by intro h; cases h), hdone w.heap.size (U E) _ (.inr (.inl rfl)) (hlo4 _) (hI _ _ _ _ _ x1 hlo' (hkp _) (fun _ h => h) (fun _ h => .inl h) (hlo4 _)) ((World.putObj_heap_other (by omega)).trans x4)⟩
      | panicked ch =>
        obtain ⟨E, hlo, x1, x2, x4⟩ := he
        exact hpan ch w.heap.size (U E) _ (.inr (.inl rfl)) (hUlo E A hlo x2) x1 x4
      | outgrown => exact he.elim
end Go.Proofs.YtmfpdchfofffeaaGreatDoor
