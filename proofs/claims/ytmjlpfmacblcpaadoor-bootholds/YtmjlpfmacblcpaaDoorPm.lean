import Derived.Test.YtmjlpfmacblcpaaDoorPl
namespace Go.Proofs.YtmjlpfmacblcpaaDoor
open Go.RowKit Go.Shelf
set_option linter.unusedVariables false
set_option linter.unusedSimpArgs false
def pb21 (S : Fs21) (x : Int) (p i : Nat) : Int := (sh21 S x (p : Int)).b.getD i 255
def rb21 (S : Fs21) (x : Int) (a n : Nat) : List Int := (List.range n).map fun i => pb21 S x ((a + i) / S.pg) ((a + i) % S.pg)
theorem rb21_len (S : Fs21) (x : Int) (a n : Nat) : (rb21 S x a n).length = n := by simp [rb21]
theorem pad21 (B : List Int) (fr : Nat) : ∀ k, (List.range k).map (fun i => B.getD (fr + i) 255) = (B.drop fr).take k ++ List.replicate (k - ((B.drop fr).take k).length) 255 := by
  intro k
  apply List.ext_getElem?
  intro i
  by_cases hi : i < k
  · by_cases h2 : fr + i < B.length
    · have h3 : i < min k (B.length - fr) := by omega
      simp [List.getElem?_append, hi, h2, h3, List.getD, List.getElem?_take, List.getElem?_drop]
    · have h3 : ¬ i < min k (B.length - fr) := by omega
      have h4 : i - min k (B.length - fr) < k - min k (B.length - fr) := by omega
      have h5 : B[fr + i]? = none := List.getElem?_eq_none (by omega)
      simp [List.getElem?_append, hi, h2, h3, h4, h5, List.getD, List.getElem?_replicate]
  · have h3 : ¬ i < min k (B.length - fr) := by omega
    have h4 : ¬ i - min k (B.length - fr) < k - min k (B.length - fr) := by omega
    simp [List.getElem?_append, hi, h3, h4, List.getElem?_replicate]
theorem rb21_more (S : Fs21) (x : Int) (a d k : Nat) (hpg : 0 < S.pg) (hk : k ≤ S.pg - (a + d) % S.pg) : rb21 S x a (d + k) = rb21 S x a d ++ (List.range k).map (fun i => (sh21 S x (((a + d) / S.pg : Nat) : Int)).b.getD ((a + d) % S.pg + i) 255) := by
  unfold rb21
  rw [List.range_add, List.map_append, List.map_map]
  congr 1
  apply List.map_congr_left
  intro i hi
  have hi' : i < k := by simpa using hi
  have hm : (a + d) % S.pg < S.pg := Nat.mod_lt _ hpg
  have e := Nat.div_add_mod (a + d) S.pg
  have e1 : (a + (d + i)) / S.pg = (a + d) / S.pg := by
    have : a + (d + i) = S.pg * ((a + d) / S.pg) + ((a + d) % S.pg + i) := by omega
    have hz : ((a + d) % S.pg + i) / S.pg = 0 := Nat.div_eq_of_lt (by omega)
    rw [this, Nat.mul_add_div hpg, hz, Nat.add_zero]
  have e2 : (a + (d + i)) % S.pg = (a + d) % S.pg + i := by
    have : a + (d + i) = S.pg * ((a + d) / S.pg) + ((a + d) % S.pg + i) := by omega
    have hz : ((a + d) % S.pg + i) % S.pg = (a + d) % S.pg + i := Nat.mod_eq_of_lt (by omega)
    rw [this, Nat.mul_add_mod, hz]
  show pb21 S x ((a + (d + i)) / S.pg) ((a + (d + i)) % S.pg) = _
  rw [e1, e2]
  rfl
theorem sp21_at (A R cs : List Int) (d : Nat) (hl : A.length = d) : sp21 (A ++ R) d cs = A ++ cs ++ R.drop cs.length := by
  subst hl
  unfold sp21
  rw [List.take_left, List.drop_append]
  have e1 : A.drop (A.length + cs.length) = [] := List.drop_eq_nil_of_le (by omega)
  have e2 : A.length + cs.length - A.length = cs.length := by omega
  rw [e1, e2, List.nil_append]
theorem rb21_step (S : Fs21) (x : Int) (a d k n : Nat) (X : List Int) (hpg : 0 < S.pg) (hk : k ≤ S.pg - (a + d) % S.pg) (hn : d + k ≤ n) :
    sp21 (rb21 S x a d ++ List.replicate (n - d) 255 ++ X) d (((sh21 S x (((a + d) / S.pg : Nat) : Int)).b.drop ((a + d) % S.pg)).take k) = rb21 S x a (d + k) ++ List.replicate (n - (d + k)) 255 ++ X := by
  rw [rb21_more S x a d k hpg hk, pad21]
  obtain ⟨cs, hcs⟩ : ∃ cs, cs = ((sh21 S x (((a + d) / S.pg : Nat) : Int)).b.drop ((a + d) % S.pg)).take k := ⟨_, rfl⟩
  have hcl : cs.length ≤ k := by rw [hcs]; simp; omega
  rw [← hcs]
  have hl := rb21_len S x a d
  generalize rb21 S x a d = A at *
  rw [List.append_assoc A, sp21_at A _ cs d hl, List.drop_append, List.drop_replicate]
  have e3 : X.drop (cs.length - (List.replicate (n - d) (255 : Int)).length) = X := by
    rw [List.length_replicate, show cs.length - (n - d) = 0 by omega]; rfl
  rw [e3, show n - d - cs.length = (k - cs.length) + (n - (d + k)) by omega, ← List.replicate_append_replicate]
  simp
end Go.Proofs.YtmjlpfmacblcpaaDoor

namespace Go.Proofs.YtmjlpfmacblcpaaDoor
open Go.RowKit Go.Shelf
set_option linter.unusedVariables false
set_option linter.unusedSimpArgs false
def sz21 (S : Fs21) (x : Int) : Int := pn21 S.ps x * (S.pg : Int)
def rdE21 (S : Fs21) (x a n : Int) : Int := if S.on = false then 213 else if sz21 S x = 0 ∨ a < 0 ∨ n < 0 ∨ sz21 S x - a < n then 211 else 0
theorem fldc21 (a : Option Addr) (n c : Nat) (er : Bool) (wr : Int) (W : World) : (Instr.field 89 (.agg #[.slice a n c, .bool er, .int .i64 wr]) 0).run Tryd.prog W = .ok (.slice a n c) W := by kernel_rfl
/-- What holds of Read's loop behind d bytes. -/
def Rl21 (w : World) (B g n : Nat) (S : Fs21) (x : Int) (a d : Nat) (wr : World) : Prop := ∃ X : List Int, wr.heap[g]? = some (.cells ((rb21 S x a d ++ List.replicate (n - d) 255 ++ X).map (Value.int .u8)).toArray 5 (0, 0)) ∧ Below B w wr
def RdQ21 (w : World) (S : Fs21) (x a n : Int) (e : Ending) (w' : World) : Prop := Below w.heap.size w w' ∧ ((rdE21 S x a n ≠ 0 ∧ e = .returned (.tuple #[.slice none 0 0, .int .i64 (rdE21 S x a n)])) ∨ (rdE21 S x a n = 0 ∧ ∃ g, e = .returned (.tuple #[.slice (some ⟨g, 0, none⟩) n.toNat n.toNat, .int .i64 0]) ∧ w.heap.size ≤ g ∧ Rw21 w' g (rb21 S x a.toNat n.toNat)))
set_option maxRecDepth 100000 in
set_option maxHeartbeats 16000000 in
theorem pread21 {w : World} {b : Nat} {F : Nat → Prop} {S : Fs21} (hF : Fl21 w b F S) (hO : Ok21 S) (x a n : Int) (hx : In21 x) (ha : In21 a) (hn : In21 n) :
    Calls Tryd.prog 20 #[.pointer (some ⟨b, 0, none⟩), .int .i64 x, .int .i64 a, .int .i64 n] w (RdQ21 w S x a n) := by
  obtain ⟨c0, c1, c2, c3, c4, cf⟩ := hF.cells
  have HST := pstop21 b S.pg S.on w c0 hO.pg.1 c3
  have hpn := pn21_bd S.ps x hO.ps.2
  obtain ⟨P, hP⟩ : ∃ P, P = pn21 S.ps x := ⟨_, rfl⟩
  have HPO : Hid (∀ W : World, W.cell? ⟨b, 1, none⟩ = some (.int .i64 (S.ps : Int)) → Calls Tryd.prog 40 #[.pointer (some ⟨b, 0, none⟩), .int .i64 x] W fun e w' => e = .returned (.int .i64 P) ∧ w' = W) := fun W h => by rw [hP]; exact ppof21 b S.ps x W h
  obtain ⟨SZ, hSZ⟩ : ∃ SZ, SZ = sz21 S x := ⟨_, rfl⟩
  have hsz : 0 ≤ SZ ∧ SZ ≤ 16777216 := by
    have h1 := hO.pg
    rw [hSZ]
    unfold sz21
    constructor
    · exact Int.mul_nonneg hpn.1 (by omega)
    · have h2 : pn21 S.ps x * (S.pg : Int) ≤ 4096 * 4096 := Int.mul_le_mul hpn.2 (by omega) (by omega) (by omega)
      omega
  have hmul : IntKind.i64.wrap (P * (S.pg : Int)) = SZ := by
    have e : P * (S.pg : Int) = SZ := by rw [hP, hSZ]; rfl
    rw [e, IntWalk.i64_in _ (by omega)]
  have HQ : Hid (∀ e w', RdQ21 w S x a n e w' = (Below w.heap.size w w' ∧ ((rdE21 S x a n ≠ 0 ∧ e = .returned (.tuple #[.slice none 0 0, .int .i64 (rdE21 S x a n)])) ∨ (rdE21 S x a n = 0 ∧ ∃ g, e = .returned (.tuple #[.slice (some ⟨g, 0, none⟩) n.toNat n.toNat, .int .i64 0]) ∧ w.heap.size ≤ g ∧ Rw21 w' g (rb21 S x a.toNat n.toNat))))) := fun _ _ => rfl
  have HE : Hid (rdE21 S x a n = if S.on = false then 213 else if SZ = 0 ∨ a < 0 ∨ n < 0 ∨ SZ - a < n then 211 else 0) := by show _ = _; rw [hSZ]; rfl
  have HFL : Hid (Fl21 w b F S) := hF
  cases hon : S.on
  · rw [hon] at HST HE
    rw [if_pos rfl] at HE
    clear hmul hF
    go_enter Tryd.func20, Tryd.ntmps20
    go_wp2_with fail
    refine HST.mono ?_
    rintro e w1 ⟨rfl, hw⟩
    subst w1
    go_wp2_with fail
    go_ret2
    rw [HQ.out, HE.out]
    exact ⟨Below.refl _ _, .inl ⟨by decide, rfl⟩⟩
  · rw [hon] at HST HE
    rw [if_neg (by simp)] at HE
    have c1d : w.drew.cell? ⟨b, 1, none⟩ = some (.int .i64 (S.ps : Int)) := c1
    have c0d : w.drew.cell? ⟨b, 0, none⟩ = some (.int .i64 (S.pg : Int)) := c0
    by_cases hbad : SZ = 0 ∨ a < 0 ∨ n < 0 ∨ SZ - a < n
    · rw [if_pos hbad] at HE
      have hsub : 0 ≤ a → IntKind.i64.wrap (SZ - a) = SZ - a := fun h => IntWalk.i64_in _ (by unfold In21 at ha; omega)
      have HBAD : Hid (SZ = 0 ∨ a < 0 ∨ n < 0 ∨ SZ - a < n) := hbad
      clear hF hSZ hP hbad
      by_cases h1 : SZ = 0
      · subst h1
        clear hsub HBAD
        go_enter Tryd.func20, Tryd.ntmps20
        go_wp2_with fail
        refine HST.mono ?_
        rintro e w1 ⟨rfl, hw⟩
        subst w1
        go_wp2_with fail
        go_quiet ((first | (go_at_call 40; exact Calls.quiet_of_same (HPO.out _ (by exact c1)))))
        go_wp2_with fail
        go_ret2
        rw [HQ.out, HE.out]
        exact ⟨below_drewN21 (Below.refl _ _) _, .inl ⟨by decide, rfl⟩⟩
      · have h1' : (SZ == 0) = false := by simp [h1]
        by_cases h2 : a < 0
        · clear hsub HBAD
          go_enter Tryd.func20, Tryd.ntmps20
          go_wp2_with fail
          refine HST.mono ?_
          rintro e w1 ⟨rfl, hw⟩
          subst w1
          go_wp2_with fail
          go_quiet ((first | (go_at_call 40; exact Calls.quiet_of_same (HPO.out _ (by exact c1)))))
          go_wp2_with fail
          go_ret2
          rw [HQ.out, HE.out]
          exact ⟨below_drewN21 (Below.refl _ _) _, .inl ⟨by decide, rfl⟩⟩
        · by_cases h3 : n < 0
          · clear hsub HBAD
            go_enter Tryd.func20, Tryd.ntmps20
            go_wp2_with fail
            refine HST.mono ?_
            rintro e w1 ⟨rfl, hw⟩
            subst w1
            go_wp2_with fail
            go_quiet ((first | (go_at_call 40; exact Calls.quiet_of_same (HPO.out _ (by exact c1)))))
            go_wp2_with fail
            go_ret2
            rw [HQ.out, HE.out]
            exact ⟨below_drewN21 (Below.refl _ _) _, .inl ⟨by decide, rfl⟩⟩
          · have h4 : SZ - a < n := by have := HBAD.out; omega
            have hsub' := hsub (by omega)
            clear hsub HBAD
            go_enter Tryd.func20, Tryd.ntmps20
            go_wp2_with fail
            refine HST.mono ?_
            rintro e w1 ⟨rfl, hw⟩
            subst w1
            go_wp2_with fail
            go_quiet ((first | (go_at_call 40; exact Calls.quiet_of_same (HPO.out _ (by exact c1)))))
            go_wp2_with fail
            go_ret2
            rw [HQ.out, HE.out]
            exact ⟨below_drewN21 (Below.refl _ _) _, .inl ⟨by decide, rfl⟩⟩
    · rw [if_neg hbad] at HE
      obtain ⟨A, rfl⟩ := Int.eq_ofNat_of_zero_le (show 0 ≤ a by omega)
      obtain ⟨N, rfl⟩ := Int.eq_ofNat_of_zero_le (show 0 ≤ n by omega)
      have h1 : ¬ SZ = 0 := by omega
      have h1' : (SZ == 0) = false := by simp [h1]
      have h4 : ¬ SZ - (A : Int) < (N : Int) := by omega
      have hsub : IntKind.i64.wrap (SZ - (A : Int)) = SZ - (A : Int) := IntWalk.i64_in _ (by omega)
      have hAN : A + N ≤ 16777216 := by omega
      obtain ⟨g0, hg0⟩ : ∃ g0, g0 = w.heap.size := ⟨_, rfl⟩
      have HG0 : Hid (g0 = w.heap.size) := hg0
      have HREP : Hid (∀ d : Nat, Calls Tryd.prog 72 #[.slice (some ⟨g0, 0, none⟩) 1 1, .int .i64 (N : Int)] ((w.alloc (.cells #[.int .u8 255] 5)).drewN d) fun e w' => e = .returned (.slice (some ⟨g0 + 1, 0, none⟩) N N) ∧ Rw21 w' (g0 + 1) (List.replicate N 255) ∧ Below w.heap.size w w') := fun d => by
        have q : (w.alloc (.cells #[.int .u8 255] 5)).heap[w.heap.size]? = some (.cells #[.int .u8 255] 5 (0, 0)) := heap_alloc_new _ _
        have sq : Seg ((w.alloc (.cells #[.int .u8 255] 5)).drewN d) (some ⟨w.heap.size, 0, none⟩) [255] := (seg_row21 (X := [255]) (by simpa using q) (by simp)).drewN _
        have h := prep21 (some ⟨w.heap.size, 0, none⟩) 1 N 255 _ sq (by omega)
        have e : ((w.alloc (.cells #[.int .u8 255] 5)).drewN d).heap.size = g0 + 1 := by rw [hg0]; show (w.alloc _).heap.size = _; simp
        rw [e, ← hg0] at h
        refine h.mono ?_
        rintro e' w' ⟨rfl, h1, h2⟩
        exact ⟨rfl, h1, (below_drewN21 ((Below.refl _ _).alloc (Nat.le_refl _) _) d).trans (h2.mono (by omega))⟩
      obtain ⟨m, c, f, ta, tc, la, lc, V, hI, hFb, hFm, hFl, hFV, hFs⟩ := hF
      have HC : Hid (∀ W : World, Below w.heap.size w W → W.cell? ⟨b, 0, none⟩ = some (.int .i64 (S.pg : Int))) := fun W hW => (hI.old hW).cel (i := 0) rfl
      have HSH : Hid (∀ (p : Nat) (W : World), p ≤ 16777216 → Below w.heap.size w W → Calls Tryd.prog 50 #[.pointer (some ⟨b, 0, none⟩), .agg #[.int .i64 x, .int .i64 (p : Int)]] W fun e w' => (∃ ka kc er wr, e = .returned (.agg #[.slice ka (sh21 S x (p : Int)).b.length kc, .bool er, .int .i64 wr]) ∧ Sl21 w V ka (sh21 S x (p : Int)).b kc) ∧ Below W.heap.size W w') := fun p W hp hW => by
        have hy : In21 (p : Int) := ⟨by omega, by omega⟩
        refine (psht21 b m c f x (p : Int) hx hy W ((hI.old hW).cel (i := 5) rfl) (hI.old hW).hm (hI.sv x (p : Int))).mono ?_
        rintro e w' ⟨rfl, hb⟩
        obtain ⟨ka, kc, e1, e2⟩ := hI.shv x (p : Int)
        exact ⟨⟨ka, kc, _, _, by rw [e1], e2⟩, hb⟩
      have HVS : Hid (∀ k, V k → k < w.heap.size) := fun k e => hFs k (hFV k e)
      have hpg := hO.pg
      have HPG : Hid (64 ≤ S.pg ∧ S.pg ≤ 4096) := hpg
      clear hSZ hP hI hFb hFm hFl hFV hFs hbad HFL hg0
      go_enter Tryd.func20, Tryd.ntmps20
      go_wp2_with fail
      refine HST.mono ?_
      rintro e w1 ⟨rfl, hw⟩
      subst w1
      go_wp2_with fail
      go_quiet ((first | (go_at_call 40; exact Calls.quiet_of_same (HPO.out _ (by exact c1)))))
      go_wp2_with fail
      rw [← HG0.out]
      refine (HREP.out _).mono ?_
      rintro e w2 ⟨rfl, ⟨X, hX⟩, b2⟩
      have HI : Rl21 w w.heap.size (g0 + 1) N S x A 0 w2 := ⟨X, by simpa [rb21] using hX, b2⟩
      clear hX HREP HPO HST
      go_wp2_with fail
      go_loopw [13] (fun td wr => ∃ d : Nat, d ≤ N ∧ td = .int .i64 (d : Int) ∧ Rl21 w w.heap.size (g0 + 1) N S x A d wr) (fun td _ => N - (intOf td).toNat)
      case atStart => exact ⟨0, by omega, rfl, HI⟩
      case round =>
        obtain ⟨d, hdN, rfl, hR⟩ := hrel
        obtain ⟨Y, hY, hB⟩ := hR
        by_cases hlt : d < N
        · have hlti : (d : Int) < (N : Int) := by omega
          obtain ⟨s, hs⟩ : ∃ s, s = A + d := ⟨_, rfl⟩
          obtain ⟨pgi, hpgi⟩ : ∃ pgi, pgi = s / S.pg := ⟨_, rfl⟩
          obtain ⟨fr, hfr⟩ : ∃ fr, fr = s % S.pg := ⟨_, rfl⟩
          have hsum : (A : Int) + (d : Int) = (s : Int) := by omega
          have hws : IntKind.i64.wrap (s : Int) = (s : Int) := IntWalk.i64_in _ (by omega)
          have e0 := HC.out wr hB
          have HS : Hid (s = A + d ∧ pgi = s / S.pg ∧ fr = s % S.pg) := ⟨hs, hpgi, hfr⟩
          have p0 : ¬ S.pg = 0 := by omega
          have p0' : ((S.pg : Int) == 0) = false := by simp [p0]
          have p0'' : ¬ (S.pg : Int) = 0 := by omega
          have hq : Int.tdiv (s : Int) (S.pg : Int) = (pgi : Int) := by rw [hpgi]; rfl
          have hr : Int.tmod (s : Int) (S.pg : Int) = (fr : Int) := by rw [hfr]; rfl
          have hpl : pgi ≤ s := by rw [hpgi]; exact Nat.div_le_self _ _
          have hfl : fr < S.pg := by rw [hfr]; exact Nat.mod_lt _ (by omega)
          have hwq : IntKind.i64.wrap (pgi : Int) = (pgi : Int) := IntWalk.i64_in _ (by omega)
          have hwr : IntKind.i64.wrap (fr : Int) = (fr : Int) := IntWalk.i64_in _ (by omega)
          clear hs hpgi hfr HI
          obtain ⟨s2, hs2⟩ : ∃ s2, s2 = d + S.pg := ⟨_, rfl⟩
          obtain ⟨s3, hs3⟩ : ∃ s3, s3 = s2 - fr := ⟨_, rfl⟩
          obtain ⟨nx, hnx⟩ : ∃ nx, nx = min N s3 := ⟨_, rfl⟩
          have hsum2 : (d : Int) + (S.pg : Int) = (s2 : Int) := by omega
          have hw2 : IntKind.i64.wrap (s2 : Int) = (s2 : Int) := IntWalk.i64_in _ (by omega)
          have hsub3 : (s2 : Int) - (fr : Int) = (s3 : Int) := by omega
          have hw3 : IntKind.i64.wrap (s3 : Int) = (s3 : Int) := IntWalk.i64_in _ (by omega)
          have hmin : (if s3 < N then (s3 : Int) else (N : Int)) = (nx : Int) := by split <;> omega
          have hmin' : (if (s3 : Int) < (N : Int) then (s3 : Int) else (N : Int)) = (nx : Int) := by split <;> omega
          have HNX : Hid (nx = min N s3 ∧ s3 = s2 - fr ∧ s2 = d + S.pg) := ⟨hnx, hs3, hs2⟩
          have hdx : d < nx := by omega
          have hxN : nx ≤ N := by omega
          have hkk : nx - d ≤ S.pg - fr := by omega
          clear hs2 hs3 hnx
          go_wp2_with fail
          go_quiet (fail)
          go_wp2_with fail
          obtain ⟨w3, hw3'⟩ : ∃ w3, w3 = wr.drewN nq := ⟨_, rfl⟩
          have HW3 : Hid (wr.drewN nq = w3) := hw3'.symm
          have b3 : Below w.heap.size w w3 := by rw [hw3']; exact below_drewN21 hB _
          have hY3 : w3.heap[g0 + 1]? = some (.cells ((rb21 S x A d ++ List.replicate (N - d) 255 ++ Y).map (Value.int .u8)).toArray 5 (0, 0)) := by rw [hw3']; exact hY
          rw [HW3.out]
          refine (HSH.out pgi w3 (by omega) b3).mono ?_
          rintro e w4 ⟨⟨ka, kc, er, wrr, rfl, hsl⟩, b4⟩
          have hfd := fldc21 ka (sh21 S x (pgi : Int)).b.length kc er wrr
          obtain ⟨K, hK⟩ : ∃ K, K = (sh21 S x (pgi : Int)).b := ⟨_, rfl⟩
          rw [← hK] at hfd hsl
          rw [← hK]
          obtain ⟨KL, hKL⟩ : ∃ KL, KL = K.length := ⟨_, rfl⟩
          rw [← hKL] at hfd
          rw [← hKL]
          obtain ⟨lo, hlo⟩ : ∃ lo, lo = min fr KL := ⟨_, rfl⟩
          have hmin2 : (if KL < fr then (KL : Int) else (fr : Int)) = (lo : Int) := by split <;> omega
          have hmin2' : (if (KL : Int) < (fr : Int) then (KL : Int) else (fr : Int)) = (lo : Int) := by split <;> omega
          obtain ⟨q, hq'⟩ : ∃ q, q = min (KL - lo) (nx - d) := ⟨_, rfl⟩
          have hcs : ((K.drop fr).take (nx - d)).length = q := by simp; omega
          have b4' : Below w.heap.size w w4 := b3.trans (b4.mono b3.size)
          have hg3 : g0 + 1 < w3.heap.size := (Array.getElem?_eq_some_iff.1 hY3).1
          have hY4 := (b4.block (g0 + 1) hg3).trans hY3
          have hsg : Seg w4 ka K := (hsl.kp (w' := w4) (V' := V) (fun k e => b4'.block k (HVS.out k e)) (fun _ e => e)).1
          have hkc : KL ≤ kc := by rw [hKL]; exact hsl.2.2.2
          have hlk : lo ≤ KL := by omega
          have hl1 : (d : Int) ≤ (nx : Int) := by omega
          have hl2 : (nx : Int) ≤ (N : Int) := by omega
          have hl3 : (lo : Int) ≤ (KL : Int) := by omega
          have hNd : ¬ N = d := by omega
          have HSTEP : Hid (∀ w5 : World, w5.heap[g0 + 1]? = some (.cells ((sp21 (rb21 S x A d ++ List.replicate (N - d) 255 ++ Y) d ((K.drop fr).take (nx - d))).map (Value.int .u8)).toArray 5 (0, 0)) → Kp (fun k => k = g0 + 1) w4 w5 → Rl21 w w.heap.size (g0 + 1) N S x A nx w5) := fun w5 h5 k5 => by
            have e := rb21_step S x A d (nx - d) N Y (by omega) (by have := HS.out.2.2; have := HS.out.1; subst this; omega) (by omega)
            have e1 := HS.out.1
            have e2 := HS.out.2.1
            have e3 := HS.out.2.2
            rw [← e1, ← e2, ← e3, ← hK, show d + (nx - d) = nx by omega] at e
            rw [e] at h5
            exact ⟨Y, h5, b4'.trans (k5.below (fun i e => by have := HG0.out; omega) b4'.size)⟩
          have HQ0 : Hid (q = min (KL - lo) (nx - d) ∧ lo = min fr KL ∧ KL = K.length) := ⟨hq', hlo, hKL⟩
          have HCS : Hid (((K.drop fr).take (nx - d)).length = q) := hcs
          have hfit : d + q ≤ (rb21 S x A d ++ List.replicate (N - d) 255 ++ Y).length := by
            rw [List.length_append, List.length_append, rb21_len, List.length_replicate]; omega
          have HFIT : Hid (d + q ≤ (rb21 S x A d ++ List.replicate (N - d) 255 ++ Y).length) := hfit
          have HY4 : Hid (w4.heap[g0 + 1]? = some (.cells ((rb21 S x A d ++ List.replicate (N - d) 255 ++ Y).map (Value.int .u8)).toArray 5 (0, 0))) := hY4
          rcases hsl.2.1 with hka | ⟨k, hka, hVk⟩
          · subst hka
            have hkc0 : kc = 0 := hsl.2.2.1 rfl
            have hKL0 : KL = 0 := by omega
            have hlo0 : lo = 0 := by omega
            have hq0 : q = 0 := by omega
            subst hkc0 hKL0 hlo0
            have HQQ : Hid (q = 0) := hq0
            clear hsl hsg hK hKL hlo hq' hcs hfit hY4 hY3 hY hkc hlk hq0 hl3 hmin2 hmin2'
            have HSLK : ∀ W : World, (Instr.slice 22 (.slice none 0 0) (some (.int .i64 0)) none none).run Tryd.prog W = .ok (.slice none 0 0) W := fun W => by kernel_rfl
            rcases Nat.eq_zero_or_pos fr with hf0 | hf0
            · have HF0 : Hid (fr = 0) := hf0
              subst hf0
              go_wp2_with fail
              go_region_held3 (fun _ => True) (trivial)
                (first | (refine step_copy21 rfl (.tmp 93) (.tmp 99) 22 22 rfl 5 Tryd.underlying22 size_y21 rfl rfl (g0 + 1) d (rb21 S x A d ++ List.replicate (N - d) 255 ++ Y) 5 (by exact HY4.out) ((K.drop 0).take (nx - d)) q HCS.out (by rw [HQQ.out]; simp) (fun hp => absurd hp (by rw [HCS.out, HQQ.out]; simp)) HFIT.out ?_; intro w5 h5 k5))
              all_goals
                go_wp2_with fail
                go_roundw
                case rel => exact ⟨nx, hxN, by go_num, HSTEP.out w5 h5.out ⟨k5.os, k5.tape, k5.output, k5.size, k5.block⟩⟩
                case measure => simp [intOf]; omega
            · have hf1 : (0 : Int) < (fr : Int) := by omega
              go_wp2_with fail
              go_region_held3 (fun _ => True) (trivial)
                (first | (refine step_copy21 rfl (.tmp 93) (.tmp 99) 22 22 rfl 5 Tryd.underlying22 size_y21 rfl rfl (g0 + 1) d (rb21 S x A d ++ List.replicate (N - d) 255 ++ Y) 5 (by exact HY4.out) ((K.drop fr).take (nx - d)) q HCS.out (by rw [HQQ.out]; simp) (fun hp => absurd hp (by rw [HCS.out, HQQ.out]; simp)) HFIT.out ?_; intro w5 h5 k5))
              all_goals
                go_wp2_with fail
                go_roundw
                case rel => exact ⟨nx, hxN, by go_num, HSTEP.out w5 h5.out ⟨k5.os, k5.tape, k5.output, k5.size, k5.block⟩⟩
                case measure => simp [intOf]; omega
          · subst hka
            have hsgd : 0 < q → Seg w4 (some ⟨k, lo, none⟩) ((K.drop fr).take (nx - d)) := fun hq0 => by
              have e : lo = fr := by omega
              rw [e]
              have := (hsg.drop fr).take (nx - d)
              simpa using this
            have HSG : Hid (0 < q → Seg w4 (some ⟨k, lo, none⟩) ((K.drop fr).take (nx - d)) ∧ ¬ kc = lo) := fun h => ⟨hsgd h, by omega⟩
            clear hsl hsg hK hKL hlo hq' hcs hfit hY4 hY3 hY hkc hsgd
            go_wp2_with fail
            go_region_held3 (fun _ => True) (trivial)
              (first | (refine step_copy21 rfl (.tmp 93) (.tmp 99) 22 22 rfl 5 Tryd.underlying22 size_y21 rfl rfl (g0 + 1) d (rb21 S x A d ++ List.replicate (N - d) 255 ++ Y) 5 (by exact HY4.out) ((K.drop fr).take (nx - d)) q HCS.out (by have := HQ0.out; show q = min _ _; omega) (fun hp => ⟨by first | rfl | (simp; done) | (rw [if_neg hNd]; simp), by rw [HCS.out] at hp; have hh := HSG.out hp; first | exact hh.1.drew | (rw [if_neg hh.2]; simpa using hh.1.drew)⟩) HFIT.out ?_; intro w5 h5 k5))
            all_goals
              go_wp2_with fail
              go_roundw
              case rel => exact ⟨nx, hxN, by go_num, HSTEP.out w5 h5.out ⟨k5.os, k5.tape, k5.output, k5.size, k5.block⟩⟩
              case measure => simp [intOf]; omega
        · obtain rfl : d = N := by omega
          have hlti : ¬ (d : Int) < (d : Int) := by omega
          clear HI hlt
          go_wp2_with fail
          go_ret2
          rw [HQ.out, HE.out]
          have := HG0.out
          refine ⟨hB, .inr ⟨rfl, g0 + 1, rfl, by omega, Y, ?_⟩⟩
          simpa using hY
end Go.Proofs.YtmjlpfmacblcpaaDoor
