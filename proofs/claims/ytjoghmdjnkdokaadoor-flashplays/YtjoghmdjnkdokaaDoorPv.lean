import Derived.Test.YtjoghmdjnkdokaaDoorPp
import Derived.Test.YtjoghmdjnkdokaaDoorPq
import Derived.Test.YtjoghmdjnkdokaaDoorPs
import Derived.Test.YtjoghmdjnkdokaaDoorPu
import Derived.Test.YtjoghmdjnkdokaaDoorPi
namespace Go.Proofs.YtjoghmdjnkdokaaDoor
open Go.RowKit Go.Shelf
set_option linter.unusedVariables false
set_option linter.unusedSimpArgs false

/-! Both devices beside each other, behind a world. -/
structure Dv21 (B V : World) (f b : Nat) (F G F' G' : Nat → Prop) (S S2 : Fs21) : Prop where
  p : Fl21 V f F' S
  d : Rl21d V b G' S2
  dj : ∀ k, F' k → ¬ G' k
  fF : ∀ k, F' k → F k ∨ B.heap.size ≤ k
  gG : ∀ k, G' k → G k ∨ B.heap.size ≤ k
  kk : Kp (fun k => F k ∨ G k) B V
section
variable {B V V' : World} {f b : Nat} {F G F' G' : Nat → Prop} {S S2 S' : Fs21}
theorem Dv21.below (h : Dv21 B V f b F G F' G' S S2) (hb : Below V.heap.size V V') : Dv21 B V' f b F G F' G' S S2 :=
  ⟨h.p.old hb, h.d.old hb, h.dj, h.fF, h.gG, h.kk.trans (Kp.of_below hb) (fun _ _ e => e)⟩
theorem Dv21.prog (h : Dv21 B V f b F G F' G' S S2) (hn : Fn21 V V' f F' S') : ∃ F'', Dv21 B V' f b F G F'' G' S' S2 := by
  obtain ⟨F'', h1, h2, h3⟩ := hn
  refine ⟨F'', h1, h.d.kp (fun k e => h3.block k (h.d.lts k e) (fun q => h.dj k q e)) h3.size, fun k e q => ?_, fun k e => ?_, h.gG, h.kk.trans h3 (fun i hi e => ?_)⟩
  · rcases h2 k e with e | e
    · exact h.dj k e q
    · have := h.d.lts k q; omega
  · rcases h2 k e with e | e
    · exact h.fF k e
    · exact .inr (Nat.le_trans h.kk.size e)
  · rcases h.fF i e with e | e
    · exact .inl e
    · omega
theorem Dv21.doc (h : Dv21 B V f b F G F' G' S S2) (hn : Rn21 V V' b G' S') : ∃ G'', Dv21 B V' f b F G F' G'' S S' := by
  obtain ⟨G'', h1, h2, h3⟩ := hn
  have hlt : ∀ k, F' k → k < V.heap.size := by
    obtain ⟨m, c, f, ta, tc, la, lc, W, _, _, _, _, _, h6⟩ := h.p
    exact h6
  refine ⟨G'', h.p.kp (fun k e => h3.block k (hlt k e) (fun q => h.dj k e q)) h3.size, h1, fun k e q => ?_, h.fF, fun k e => ?_, h.kk.trans h3 (fun i hi e => ?_)⟩
  · rcases h2 k q with q | q
    · exact h.dj k e q
    · have := hlt k e; omega
  · rcases h2 k e with e | e
    · exact h.gG k e
    · exact .inr (Nat.le_trans h.kk.size e)
  · rcases h.gG i e with e | e
    · exact .inr e
    · omega
theorem Dv21.blk (h : Dv21 B V f b F G F' G' S S2) {k : Nat} (hk : k < B.heap.size) (h1 : ¬ F k) (h2 : ¬ G k) : V.heap[k]? = B.heap[k]? :=
  h.kk.block k hk (fun e => e.elim h1 h2)
/-- A block that is none of theirs is written. -/
theorem Dv21.set (h : Dv21 B V f b F G F' G' S S2) {g : Nat} (hk : Kp (fun k => k = g) V V') (hf : ¬ F' g) (hg : ¬ G' g) (hlt : B.heap.size ≤ g ∨ F g ∨ G g) : Dv21 B V' f b F G F' G' S S2 := by
  have hltF : ∀ k, F' k → k < V.heap.size := by
    obtain ⟨m, c, f, ta, tc, la, lc, W, _, _, _, _, _, h6⟩ := h.p
    exact h6
  refine ⟨h.p.kp (fun k e => hk.block k (hltF k e) (fun q => hf (q ▸ e))) hk.size, h.d.kp (fun k e => hk.block k (h.d.lts k e) (fun q => hg (q ▸ e))) hk.size, h.dj, h.fF, h.gG, h.kk.trans hk (fun i hi e => ?_)⟩
  subst e
  rcases hlt with e | e | e
  · omega
  · exact .inl e
  · exact .inr e
end
def ds21 (S : Fs21) (c a p n : Int) (L : List Int) : Fs21 := if c = 1 then erS21 S a p else if c = 2 then pgS21 S a p L else if c = 4 then cuS21 S n L else if c = 5 then { S with on := true } else if c = 6 then tuS21 S else if c = 7 then liS21 S n else S
def lgl21 (S S' : Fs21) : Prop := S'.lg.length ≤ S.lg.length + 1 ∧ S'.pg = S.pg ∧ S'.ps = S.ps
theorem lgl21_rn (S : Fs21) (kd x y : Int) (s : Sh21) : lgl21 S (rn21 S kd x y s) := by
  unfold rn21 cu21 go21 lgl21
  split <;> simp
theorem ok21_tu' {S : Fs21} (h : Ok21 S) : Ok21 (tuS21 S) := by
  unfold tuS21
  split
  · exact ⟨h.pg, h.ps, by have := h.ac; show 1 - S.ac = 0 ∨ 1 - S.ac = 1; omega, h.lm, h.lf, h.tn, h.sh⟩
  · exact h
theorem ok21_li {S : Fs21} (h : Ok21 S) (n : Int) : Ok21 (liS21 S n) := by
  unfold liS21
  split
  · exact h
  · exact ⟨h.pg, h.ps, h.ac, by show 0 ≤ n ∧ n ≤ 1099511627776; omega, h.lf, h.tn, h.sh⟩
theorem ok21_cu' {S : Fs21} (h : Ok21 S) (n : Int) (hn : In21 n) (L : List Int) : Ok21 (cuS21 S n L) := by
  unfold cuS21
  split
  · exact h
  · split
    · exact h
    · exact ⟨h.pg, h.ps, h.ac, h.lm, by unfold In21 at hn; show 0 ≤ n ∧ n ≤ 9223372036854775807; omega, by show (if 0 < n then L else []).length ≤ S.pg; (split <;> (first | omega | simp)), h.sh⟩
theorem ok21_ds {S : Fs21} (h : Ok21 S) (c a p n : Int) (hn : In21 n) (L : List Int) : Ok21 (ds21 S c a p n L) := by
  unfold ds21
  split
  · exact ok21_er h a p
  · split
    · exact ok21_pg h a p L
    · split
      · exact ok21_cu' h n hn L
      · split
        · exact ⟨h.pg, h.ps, h.ac, h.lm, h.lf, h.tn, h.sh⟩
        · split
          · exact ok21_tu' h
          · split
            · exact ok21_li h n
            · exact h
theorem lgl21_ds (S : Fs21) (c a p n : Int) (L : List Int) : lgl21 S (ds21 S c a p n L) := by
  have h0 : lgl21 S S := ⟨by omega, rfl, rfl⟩
  unfold ds21
  split
  · unfold erS21; split
    · exact h0
    · split
      · exact h0
      · exact lgl21_rn S _ _ _ _
  · split
    · unfold pgS21; split
      · exact h0
      · split
        · exact h0
        · split
          · exact h0
          · exact lgl21_rn S _ _ _ _
    · split
      · unfold cuS21; split
        · exact h0
        · split
          · exact h0
          · exact h0
      · split
        · exact h0
        · split
          · unfold tuS21; split <;> exact h0
          · split
            · unfold liS21; split <;> exact h0
            · exact h0
theorem ox_rw21 {w : World} {g n base : Nat} {zs : List Int} (h : Rw21 w g zs) (hn : zs.length = n) (hb : base ≤ g) (hl : n ≤ 140737488355328) : RowX 5 w base (.slice (some ⟨g, 0, none⟩) n n) zs := by
  obtain ⟨X, hX⟩ := h
  subst hn
  refine ⟨by simp, .inr ⟨g, zs.length, _, rfl, hb, hX, Nat.le_refl _, by unfold maxLen; omega, by simp, ?_⟩⟩
  simp
end Go.Proofs.YtjoghmdjnkdokaaDoor
