import Derived.Test.YtmfpdchfofffeaaGreatDoorEd4
namespace Go.Proofs.YtmfpdchfofffeaaGreatDoor
open Go.RowKit Go.Shelf
set_option linter.unusedVariables false
attribute [local go_sem] Oper.semAt_some
theorem SegK.kr {k : IntKind} {M : Int} {w w' : World} {D : Nat → Prop} {a : Option Addr} {zs : List Int} (h : SegK k M w a zs) (hb : Kr16 D w w') (hn : ∀ b off, a = some ⟨b, off, none⟩ → 0 < zs.length → D b) : SegK k M w' a zs :=
  h.of_cells fun b off i v hi ha hcl => hb.cell hcl (hn b off ha (by omega))
theorem roundIn_any16 {P : Program} {n n' l l' : Nat} {f : FuncId} {tmps : Array Value} {assign body : Code} {w : World} {R : Ending → World → Prop} (h : RoundIn Fence.wide n P l f tmps assign body w R) : RoundIn (Fence.wide.inRound l') n' P l f tmps assign body w R :=
  ⟨trivial, fun c cs _ => h.2 c cs (room_wide _)⟩
/-- A box holds what is left of a list. -/
def Bl16 (V : World) (R : Nat → Prop) (b : Nat) (L : List Int) (t : TypeId) : Prop := ∃ pa pc, V.heap[b]? = some (.cells #[.slice pa L.length pc] t (0, 0)) ∧ Seg V pa L ∧ L.length ≤ pc ∧ ∀ x off, pa = some ⟨x, off, none⟩ → 0 < L.length → R x
theorem Bl16.kr {V V' : World} {R G : Nat → Prop} {b : Nat} {L : List Int} {t : TypeId} (h : Bl16 V R b L t) (hk : Kr16 G V V') (hb : G b) (hR : ∀ k, R k → G k) : Bl16 V' R b L t := by
  obtain ⟨pa, pc, h1, h2, h3, h4⟩ := h
  exact ⟨pa, pc, hk.heap h1 hb, h2.kr hk (fun x off e hl => hR _ (h4 x off e hl)), h3, h4⟩
/-- What is left behind a reslice. -/
def rs16 (a : Option Addr) (c d : Nat) : Option Addr := if c = d then a else a.map fun x => x.add d
theorem seg_rs16 {V : World} {a : Option Addr} {L : List Int} {c d : Nat} (h : Seg V a L) (hd : d ≤ L.length) (hc : L.length ≤ c) : Seg V (rs16 a c d) (L.drop d) ∧ ∀ x off, rs16 a c d = some ⟨x, off, none⟩ → 0 < (L.drop d).length → ∃ o, a = some ⟨x, o, none⟩ := by
  unfold rs16
  by_cases h0 : L.drop d = []
  · rw [h0]
    exact ⟨SegK.nil (by decide) _ _, fun _ _ _ hl => by simp at hl⟩
  · have hl : d < L.length := by
      rcases Nat.lt_or_ge d L.length with x | x
      · exact x
      · exact absurd (List.drop_eq_nil_of_le x) h0
    rw [if_neg (by omega)]
    obtain ⟨b, off, rfl, _⟩ := h.at_ 0 (by omega)
    have hadd : (⟨b, off, none⟩ : Addr).add d = ⟨b, off + d, none⟩ := by simp [Addr.add]
    simp only [Option.map_some, hadd]
    refine ⟨h.drop d, fun x o e _ => ?_⟩
    have e2 : some (⟨b, off + d, none⟩ : Addr) = some ⟨x, o, none⟩ := e
    injection e2 with e2
    injection e2 with e3 e4
    subst e3
    exact ⟨off, rfl⟩
/-- The state of origins' own loop. -/
structure Oi16 (W : World) (R : Nat → Prop) (J : Nat → (Nat → Prop) → World → Prop) (l : Nat) (S : List St16) (D X : List Int) (bY bD bX Bw N : Nat) (i : Nat) (E F : Nat → Prop) (V : World) : Prop where
  ef : ∀ k, E k → F k
  fY : F bY
  fD : F bD
  fX : F bX
  fw : F Bw
  lo : Lo16 W.heap.size F V
  j : J (sa16 S i + sc16 S i) F V
  hY : V.heap[bY]? = some (.cells #[.func (.yield l) #[] #[]] 508 (0, 0))
  hD : Bl16 V R bD (D.drop (sa16 S i)) 36
  hX : Bl16 V R bX (X.drop (sc16 S i)) 36
  kr : Kr16 R W V
  sz : N ≤ V.heap.size
theorem Oi16.step {W : World} {R : Nat → Prop} {J : Nat → (Nat → Prop) → World → Prop} {l : Nat} {S : List St16} {D X : List Int} {bY bD bX Bw N i : Nat} {E E' F : Nat → Prop} {V V' : World} (hJ : Abd16 W.heap.size J) (hN : W.heap.size ≤ N) (hRl : ∀ k, R k → k < W.heap.size)
    (hl : bY < N ∧ bD < N ∧ bX < N) (h : Oi16 W R J l S D X bY bD bX Bw N i E F V) (hlo : Lo16 N E V) (hk : Kp E V V') (h1 : ∀ k, E k → E' k) (h2 : ∀ k, E' k → E k ∨ V.heap.size ≤ k) (h3 : Lo16 N E' V') (G : Nat → Prop) (hG : ∀ k, G k → V.heap.size ≤ k ∧ k < V'.heap.size) : Oi16 W R J l S D X bY bD bX Bw N i E' (fun k => (F k ∨ E' k) ∨ G k) V' := by
  have hs := hk.size
  have hkr : Kr16 (fun k => R k ∨ k = bY ∨ k = bD ∨ k = bX) V V' := Kr16.of_kp hk (by
    rintro k (x | x | x | x) e
    · have := hRl k x; have := hlo k e; omega
    · have := hlo k e; omega
    · have := hlo k e; omega
    · have := hlo k e; omega)
  have hsz := h.sz
  have lo2 : Lo16 W.heap.size (fun k => (F k ∨ E' k) ∨ G k) V' := by
    rintro k ((x | x) | x)
    · have := h.lo k x; omega
    · have := h3 k x; omega
    · have := hG k x; omega
  refine ⟨fun k x => .inl (.inr x), .inl (.inl h.fY), .inl (.inl h.fD), .inl (.inl h.fX), .inl (.inl h.fw), lo2, ?_, hkr.heap h.hY (.inr (.inl rfl)), h.hD.kr hkr (.inr (.inr (.inl rfl))) (fun k x => .inl x), h.hX.kr hkr (.inr (.inr (.inr rfl))) (fun k x => .inl x), h.kr.trans (hkr.mono fun k x => .inl x), by have := h.sz; omega⟩
  refine hJ _ F _ V V' h.j h.lo (hk.mono fun k _ x => h.ef k x) (fun k x => .inl (.inl x)) ?_ lo2
  rintro k ((x | x) | x)
  · exact .inl x
  · rcases h2 k x with y | y
    · exact .inl (h.ef k y)
    · exact .inr y
  · exact .inr (hG k x).1
end Go.Proofs.YtmfpdchfofffeaaGreatDoor
