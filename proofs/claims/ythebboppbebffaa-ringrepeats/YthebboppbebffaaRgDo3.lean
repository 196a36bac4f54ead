
import Derived.Test.YthebboppbebffaaRgDo2
namespace Go.Proofs.Ythebboppbebffaa
open Go.RowKit
set_option linter.unusedVariables false

set_option maxRecDepth 100000 in
set_option maxHeartbeats 4000000 in
theorem do_copy {b bx S M : Nat} {F G : Nat → Prop} {L : List Int} (D N : Int) (ba : Option Addr) (np bc : Nat) (w : World) (h : RP w b F S L) (hw : WR w bx G S L) (hd : Dj F G) (hl : L.length ≤ 70368744177000) (hS : S ≤ 32768) (hM : 258 ≤ M) :
    Calls Try.prog 14 #[.pointer (some ⟨b, 0, none⟩), .pointer (some ⟨bx, 0, none⟩), .agg #[.int .i64 2, .slice ba np bc, .int .i64 D, .int .i64 N]] w fun e w' => DoQ w b bx S M F G L e w' := by
  have I : DoI w _ b bx S F G L 2 D N ba np bc w.heap.size := DoI.new h hw hd
  obtain ⟨wA, hwA⟩ : ∃ wA, wA = w.alloc (.cells #[.int .i64 2, .slice ba np bc, .int .i64 D, .int .i64 N] 36) := ⟨_, rfl⟩
  rw [← hwA] at I
  have HWA : Hid (wA = w.alloc (.cells #[.int .i64 2, .slice ba np bc, .int .i64 D, .int .i64 N] 36)) := hwA
  obtain ⟨ob, hob⟩ : ∃ ob, ob = w.heap.size := ⟨_, rfl⟩
  have HOB : Hid (ob = w.heap.size) := hob
  rw [← hob] at I
  obtain ⟨c0, c1, c2, c3⟩ := I.c
  have hsz := I.sz
  have hoA : ob < wA.heap.size := by omega
  have bA := I.bel
  clear hwA hob h hw
  have CP := pcopy_u D N I.r (by omega)
  have CW : Hid (∀ W, WR W bx G S L → Calls Try.prog 28 #[.pointer (some ⟨bx, 0, none⟩), .int .i64 D, .int .i64 N] W fun e w' => CopU WR W bx S G (copX S L D N) (copL S L D N) (copE S L D N) e w') := fun W hW => wcopy_u D N hW (by omega) hS
  have hXl := copX_len S L D N
  have HLl : Hid ((copL S L D N).length ≤ L.length + 258) := copL_len S L D N
  have HXB : Hid ((∀ z ∈ copL S L D N, 0 ≤ z ∧ z ≤ 255) → ∀ z ∈ copX S L D N, 0 ≤ z ∧ z ≤ 255) := copX_bd
  generalize copX S L D N = X at *
  generalize copL S L D N = L2 at *
  generalize copE S L D N = E at *
  obtain ⟨n, hn⟩ : ∃ n, n = X.length := ⟨_, rfl⟩
  have HN : Hid (X.length = n) := hn.symm
  rw [← hn] at hXl
  clear hn
  have hFl : ∀ k, F k → k < w.heap.size := fun k e => I.lt k (.inl e)
  have hGl : ∀ k, G k → k < w.heap.size := fun k e => I.lt k (.inr e)
  have zA := bA.size
  go_enter Try.func14, Try.ntmps14
  go_wp2_with fail
  rw [← HWA.out, ← HOB.out]
  refine CP.mono ?_
  rintro e w2 ⟨a1, k1, F2, rfl, O1, R2, K2, P2, J2⟩
  rw [HN.out] at O1 J2 ⊢
  have d2 : w2.cell? ⟨ob, 2, none⟩ = some (.int .i64 D) := (World.cell?_of_block (a := ⟨ob, 2, none⟩) (K2.block ob hoA (fun e => by have := hFl _ e; have := HOB.out; omega))).trans c2
  have d3 : w2.cell? ⟨ob, 3, none⟩ = some (.int .i64 N) := (World.cell?_of_block (a := ⟨ob, 3, none⟩) (K2.block ob hoA (fun e => by have := hFl _ e; have := HOB.out; omega))).trans c3
  have X2 : WR w2 bx G S L := I.x.kp K2 hd.symm
  have z2 := K2.size
  have hXb := HXB.out R2.bd
  clear c0 c1 c2 c3 CP
  go_wp2_with fail
  refine (CW.out _ X2).mono ?_
  rintro e w3 ⟨a3, k3, G3, rfl, O3, X3, K3, P3, J3⟩
  rw [HN.out] at O3 J3 ⊢
  have z3 := K3.size
  have l1 : ∀ k, OB (.slice a1 n k1) k → wA.heap.size ≤ k ∧ k < w2.heap.size := fun k e => O1.lt k e
  have hF2G : Dj F2 G := hd.fresh (w := wA) P2 (fun k e => by have := hGl k e; omega)
  have R3 : RP w3 b F2 S L2 := R2.kp K3 hF2G
  have O13 := own_kp O1 K3 (fun k e e2 => by have := (l1 k e).1; have := hGl k e2; omega)
  obtain ⟨q3, a3', k3', hv3, s3, _⟩ := own_seg O3 (M := 255) (by decide) hXb
  cases hv3
  have hF2G3 : Dj F2 G3 := (hF2G.symm.fresh P3 (fun k e => R2.lt k e)).symm
  have CO := own6_any a1 a3 X X n n k1 k3 wA.heap.size HN HN w3 O13 hXb s3 (by omega) (by omega) (by omega)
  rw [show (X == X) = true by simp] at CO
  clear q3 d2 d3 CW
  go_wp2_with fail
  refine CO.mono ?_
  rintro e w4 ⟨rfl, K4⟩
  go_wp2_with fail
  refine (num6_any E w4).mono ?_
  rintro e w' ⟨rfl, hw'⟩
  subst w'
  go_wp2_with fail
  go_ret
  have R4 : RP w4 b F2 S L2 := R3.kp K4 J2.symm
  have X4 : WR w4 bx G3 S L2 := X3.kp K4 (fun k e1 e2 => by
    have h1 := l1 k e2
    rcases P3 k e1 with e | e
    · have := hGl k e; omega
    · omega)
  refine ⟨rfl, F2, G3, L2, R4, X4, hF2G3, ?_, ?_, by have := HLl.out; omega⟩
  · exact (((Kp.of_below bA).trans K2 (fun _ _ e => .inl e)).trans K3 (fun _ _ e => .inr e)).trans K4 (fun k hk e => by have := (l1 k e).1; omega)
  · rintro k (e | e)
    · rcases P2 k e with e | e
      · exact .inl (.inl e)
      · exact .inr (by omega)
    · rcases P3 k e with e | e
      · exact .inl (.inr e)
      · exact .inr (by omega)
end Go.Proofs.Ythebboppbebffaa
