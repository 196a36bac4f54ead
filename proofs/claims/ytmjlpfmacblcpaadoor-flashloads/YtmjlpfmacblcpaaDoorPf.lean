import Derived.Test.YtmjlpfmacblcpaaDoorPe
import Derived.Lib.SlBytesConst
namespace Go.Proofs.YtmjlpfmacblcpaaDoor
open Go.RowKit Go.Shelf
set_option linter.unusedVariables false
set_option linter.unusedSimpArgs false
def pb21 (S : Fs21) (x : Int) (p i : Nat) : Int := (sh21 S x (p : Int)).b.getD i 255
def rb21 (S : Fs21) (x : Int) (a n : Nat) : List Int := (List.range n).map fun i => pb21 S x ((a + i) / S.pg) ((a + i) % S.pg)
theorem rb21_len (S : Fs21) (x : Int) (a n : Nat) : (rb21 S x a n).length = n := by simp [rb21]
theorem pad21 (B : List Int) (fr : Nat) : ∀ k, (List.range k).map (fun i => B.getD (fr + i) 255) = (B.drop fr).take k ++ List.replicate (k - ((B.drop fr).take k).length) 255 := by
  intro k
  apply List.ext_getElem?
  intro i
  by_cases hi : i < k
  · by_cases h2 : fr + i < B.length
    · have h3 : i < min k (B.length - fr) := by omega
      simp [List.getElem?_append, hi, h2, h3, List.getD, List.getElem?_take, List.getElem?_drop]
    · have h3 : ¬ i < min k (B.length - fr) := by omega
      have h4 : i - min k (B.length - fr) < k - min k (B.length - fr) := by omega
      have h5 : B[fr + i]? = none := List.getElem?_eq_none (by omega)
      simp [List.getElem?_append, hi, h2, h3, h4, h5, List.getD, List.getElem?_replicate]
  · have h3 : ¬ i < min k (B.length - fr) := by omega
    have h4 : ¬ i - min k (B.length - fr) < k - min k (B.length - fr) := by omega
    simp [List.getElem?_append, hi, h3, h4, List.getElem?_replicate]
theorem rb21_more (S : Fs21) (x : Int) (a d k : Nat) (hpg : 0 < S.pg) (hk : k ≤ S.pg - (a + d) % S.pg) : rb21 S x a (d + k) = rb21 S x a d ++ (List.range k).map (fun i => (sh21 S x (((a + d) / S.pg : Nat) : Int)).b.getD ((a + d) % S.pg + i) 255) := by
  unfold rb21
  rw [List.range_add, List.map_append, List.map_map]
  congr 1
  apply List.map_congr_left
  intro i hi
  have hi' : i < k := by simpa using hi
  have hm : (a + d) % S.pg < S.pg := Nat.mod_lt _ hpg
  have e := Nat.div_add_mod (a + d) S.pg
  have e1 : (a + (d + i)) / S.pg = (a + d) / S.pg := by
    have : a + (d + i) = S.pg * ((a + d) / S.pg) + ((a + d) % S.pg + i) := by omega
    have hz : ((a + d) % S.pg + i) / S.pg = 0 := Nat.div_eq_of_lt (by omega)
    rw [this, Nat.mul_add_div hpg, hz, Nat.add_zero]
  have e2 : (a + (d + i)) % S.pg = (a + d) % S.pg + i := by
    have : a + (d + i) = S.pg * ((a + d) / S.pg) + ((a + d) % S.pg + i) := by omega
    have hz : ((a + d) % S.pg + i) % S.pg = (a + d) % S.pg + i := Nat.mod_eq_of_lt (by omega)
    rw [this, Nat.mul_add_mod, hz]
  show pb21 S x ((a + (d + i)) / S.pg) ((a + (d + i)) % S.pg) = _
  rw [e1, e2]
  rfl
theorem sp21_at (A R cs : List Int) (d : Nat) (hl : A.length = d) : sp21 (A ++ R) d cs = A ++ cs ++ R.drop cs.length := by
  subst hl
  unfold sp21
  rw [List.take_left, List.drop_append]
  have e1 : A.drop (A.length + cs.length) = [] := List.drop_eq_nil_of_le (by omega)
  have e2 : A.length + cs.length - A.length = cs.length := by omega
  rw [e1, e2, List.nil_append]
theorem rb21_step (S : Fs21) (x : Int) (a d k n : Nat) (X : List Int) (hpg : 0 < S.pg) (hk : k ≤ S.pg - (a + d) % S.pg) (hn : d + k ≤ n) :
    sp21 (rb21 S x a d ++ List.replicate (n - d) 255 ++ X) d (((sh21 S x (((a + d) / S.pg : Nat) : Int)).b.drop ((a + d) % S.pg)).take k) = rb21 S x a (d + k) ++ List.replicate (n - (d + k)) 255 ++ X := by
  rw [rb21_more S x a d k hpg hk, pad21]
  obtain ⟨cs, hcs⟩ : ∃ cs, cs = ((sh21 S x (((a + d) / S.pg : Nat) : Int)).b.drop ((a + d) % S.pg)).take k := ⟨_, rfl⟩
  have hcl : cs.length ≤ k := by rw [hcs]; simp; omega
  rw [← hcs]
  have hl := rb21_len S x a d
  generalize rb21 S x a d = A at *
  rw [List.append_assoc A, sp21_at A _ cs d hl, List.drop_append, List.drop_replicate]
  have e3 : X.drop (cs.length - (List.replicate (n - d) (255 : Int)).length) = X := by
    rw [List.length_replicate, show cs.length - (n - d) = 0 by omega]; rfl
  rw [e3, show n - d - cs.length = (k - cs.length) + (n - (d + k)) by omega, ← List.replicate_append_replicate]
  simp
end Go.Proofs.YtmjlpfmacblcpaaDoor

namespace Go.Proofs.YtmjlpfmacblcpaaDoor
open Go.RowKit Go.Shelf
set_option linter.unusedVariables false
set_option linter.unusedSimpArgs false
def sz21 (S : Fs21) (x : Int) : Int := pn21 S.ps x * (S.pg : Int)
def rdE21 (S : Fs21) (x a n : Int) : Int := if S.on = false then 213 else if sz21 S x = 0 ∨ a < 0 ∨ n < 0 ∨ sz21 S x - a < n then 211 else 0
theorem fldc21 (a : Option Addr) (n c : Nat) (er : Bool) (wr : Int) (W : World) : (Instr.field 89 (.agg #[.slice a n c, .bool er, .int .i64 wr]) 0).run Tryd.prog W = .ok (.slice a n c) W := by kernel_rfl
/-- What holds of Read's loop behind d bytes. -/
def Rl21 (w : World) (B g n : Nat) (S : Fs21) (x : Int) (a d : Nat) (wr : World) : Prop := ∃ X : List Int, wr.heap[g]? = some (.cells ((rb21 S x a d ++ List.replicate (n - d) 255 ++ X).map (Value.int .u8)).toArray 5 (0, 0)) ∧ Below B w wr
def RdQ21 (w : World) (S : Fs21) (x a n : Int) (e : Ending) (w' : World) : Prop := Below w.heap.size w w' ∧ ((rdE21 S x a n ≠ 0 ∧ e = .returned (.tuple #[.slice none 0 0, .int .i64 (rdE21 S x a n)])) ∨ (rdE21 S x a n = 0 ∧ ∃ g, e = .returned (.tuple #[.slice (some ⟨g, 0, none⟩) n.toNat n.toNat, .int .i64 0]) ∧ w.heap.size ≤ g ∧ Rw21 w' g (rb21 S x a.toNat n.toNat)))
set_option maxRecDepth 100000 in
set_option maxHeartbeats 16000000 in
theorem pread21 {w : World} {b : Nat} {F : Nat → Prop} {S : Fs21} (hF : Fl21 w b F S) (hO : Ok21 S) (x a n : Int) (hx : In21 x) (ha : In21 a) (hn : In21 n) :
    Calls Tryd.prog 20 #[.pointer (some ⟨b, 0, none⟩), .int .i64 x, .int .i64 a, .int .i64 n] w (RdQ21 w S x a n) := by
  obtain ⟨c0, c1, c2, c3, c4, cf⟩ := hF.cells
  have HST := pstop21 b S.pg S.on w c0 hO.pg.1 c3
  have hpn := pn21_bd S.ps x hO.ps.2
  obtain ⟨P, hP⟩ : ∃ P, P = pn21 S.ps x := ⟨_, rfl⟩
  have HPO : Hid (∀ W : World, W.cell? ⟨b, 1, none⟩ = some (.int .i64 (S.ps : Int)) → Calls Tryd.prog 40 #[.pointer (some ⟨b, 0, none⟩), .int .i64 x] W fun e w' => e = .returned (.int .i64 P) ∧ w' = W) := fun W h => by rw [hP]; exact ppof21 b S.ps x W h
  obtain ⟨SZ, hSZ⟩ : ∃ SZ, SZ = sz21 S x := ⟨_, rfl⟩
  have hsz : 0 ≤ SZ ∧ SZ ≤ 16777216 := by
    have h1 := hO.pg
    rw [hSZ]
    unfold sz21
    constructor
    · exact Int.mul_nonneg hpn.1 (by omega)
    · have h2 : pn21 S.ps x * (S.pg : Int) ≤ 4096 * 4096 := Int.mul_le_mul hpn.2 (by omega) (by omega) (by omega)
      omega
  have hmul : IntKind.i64.wrap (P * (S.pg : Int)) = SZ := by
    have e : P * (S.pg : Int) = SZ := by rw [hP, hSZ]; rfl
    rw [e, IntWalk.i64_in _ (by omega)]
  have HQ : Hid (∀ e w', RdQ21 w S x a n e w' = (Below w.heap.size w w' ∧ ((rdE21 S x a n ≠ 0 ∧ e = .returned (.tuple #[.slice none 0 0, .int .i64 (rdE21 S x a n)])) ∨ (rdE21 S x a n = 0 ∧ ∃ g, e = .returned (.tuple #[.slice (some ⟨g, 0, none⟩) n.toNat n.toNat, .int .i64 0]) ∧ w.heap.size ≤ g ∧ Rw21 w' g (rb21 S x a.toNat n.toNat))))) := fun _ _ => rfl
  have HE : Hid (rdE21 S x a n = if S.on = false then 213 else if SZ = 0 ∨ a < 0 ∨ n < 0 ∨ SZ - a < n then 211 else 0) := by show _ = _; rw [hSZ]; rfl
  have HFL : Hid (Fl21 w b F S) := hF
  cases hon : S.on
  · rw [hon] at HST HE
    rw [if_pos rfl] at HE
    clear hmul hF
    go_enter Tryd.func20, Tryd.ntmps20
    go_wp2_with fail
    refine HST.mono ?_
    rintro e w1 ⟨rfl, hw⟩
    subst w1
    go_wp2_with fail
    go_ret2
    rw [HQ.out, HE.out]
    exact ⟨Below.refl _ _, .inl ⟨by decide, rfl⟩⟩
  · rw [hon] at HST HE
    rw [if_neg (by simp)] at HE
    have c1d : w.drew.cell? ⟨b, 1, none⟩ = some (.int .i64 (S.ps : Int)) := c1
    have c0d : w.drew.cell? ⟨b, 0, none⟩ = some (.int .i64 (S.pg : Int)) := c0
    by_cases hbad : SZ = 0 ∨ a < 0 ∨ n < 0 ∨ SZ - a < n
    · rw [if_pos hbad] at HE
      have hsub : 0 ≤ a → IntKind.i64.wrap (SZ - a) = SZ - a := fun h => IntWalk.i64_in _ (by unfold In21 at ha; omega)
      have HBAD : Hid (SZ = 0 ∨ a < 0 ∨ n < 0 ∨ SZ - a < n) := hbad
      clear hF hSZ hP hbad
      by_cases h1 : SZ = 0
      · subst h1
        clear hsub HBAD
        go_enter Tryd.func20, Tryd.ntmps20
        go_wp2_with fail
        refine HST.mono ?_
        rintro e w1 ⟨rfl, hw⟩
        subst w1
        go_wp2_with fail
        go_quiet ((first | (go_at_call 40; exact Calls.quiet_of_same (HPO.out _ (by exact c1)))))
        go_wp2_with fail
        go_ret2
        rw [HQ.out, HE.out]
        exact ⟨below_drewN21 (Below.refl _ _) _, .inl ⟨by decide, rfl⟩⟩
      · have h1' : (SZ == 0) = false := by simp [h1]
        by_cases h2 : a < 0
        · clear hsub HBAD
          go_enter Tryd.func20, Tryd.ntmps20
          go_wp2_with fail
          refine HST.mono ?_
          rintro e w1 ⟨rfl, hw⟩
          subst w1
          go_wp2_with fail
          go_quiet ((first | (go_at_call 40; exact Calls.quiet_of_same (HPO.out _ (by exact c1)))))
          go_wp2_with fail
          go_ret2
          rw [HQ.out, HE.out]
          exact ⟨below_drewN21 (Below.refl _ _) _, .inl ⟨by decide, rfl⟩⟩
        · by_cases h3 : n < 0
          · clear hsub HBAD
            go_enter Tryd.func20, Tryd.ntmps20
            go_wp2_with fail
            refine HST.mono ?_
            rintro e w1 ⟨rfl, hw⟩
            subst w1
            go_wp2_with fail
            go_quiet ((first | (go_at_call 40; exact Calls.quiet_of_same (HPO.out _ (by exact c1)))))
            go_wp2_with fail
            go_ret2
            rw [HQ.out, HE.out]
            exact ⟨below_drewN21 (Below.refl _ _) _, .inl ⟨by decide, rfl⟩⟩
          · have h4 : SZ - a < n := by have := HBAD.out; omega
            have hsub' := hsub (by omega)
            clear hsub HBAD
            go_enter Tryd.func20, Tryd.ntmps20
            go_wp2_with fail
            refine HST.mono ?_
            rintro e w1 ⟨rfl, hw⟩
            subst w1
            go_wp2_with fail
            go_quiet ((first | (go_at_call 40; exact Calls.quiet_of_same (HPO.out _ (by exact c1)))))
            go_wp2_with fail
            go_ret2
            rw [HQ.out, HE.out]
            exact ⟨below_drewN21 (Below.refl _ _) _, .inl ⟨by decide, rfl⟩⟩
    · rw [if_neg hbad] at HE
      obtain ⟨A, rfl⟩ := Int.eq_ofNat_of_zero_le (show 0 ≤ a by omega)
      obtain ⟨N, rfl⟩ := Int.eq_ofNat_of_zero_le (show 0 ≤ n by omega)
      have h1 : ¬ SZ = 0 := by omega
      have h1' : (SZ == 0) = false := by simp [h1]
      have h4 : ¬ SZ - (A : Int) < (N : Int) := by omega
      have hsub : IntKind.i64.wrap (SZ - (A : Int)) = SZ - (A : Int) := IntWalk.i64_in _ (by omega)
      have hAN : A + N ≤ 16777216 := by omega
      obtain ⟨g0, hg0⟩ : ∃ g0, g0 = w.heap.size := ⟨_, rfl⟩
      have HG0 : Hid (g0 = w.heap.size) := hg0
      have HREP : Hid (∀ d : Nat, Calls Tryd.prog 72 #[.slice (some ⟨g0, 0, none⟩) 1 1, .int .i64 (N : Int)] ((w.alloc (.cells #[.int .u8 255] 5)).drewN d) fun e w' => e = .returned (.slice (some ⟨g0 + 1, 0, none⟩) N N) ∧ Rw21 w' (g0 + 1) (List.replicate N 255) ∧ Below w.heap.size w w') := fun d => by
        have q : (w.alloc (.cells #[.int .u8 255] 5)).heap[w.heap.size]? = some (.cells #[.int .u8 255] 5 (0, 0)) := heap_alloc_new _ _
        have sq : Seg ((w.alloc (.cells #[.int .u8 255] 5)).drewN d) (some ⟨w.heap.size, 0, none⟩) [255] := (seg_row21 (X := [255]) (by simpa using q) (by simp)).drewN _
        have h := prep21 (some ⟨w.heap.size, 0, none⟩) 1 N 255 _ sq (by omega)
        have e : ((w.alloc (.cells #[.int .u8 255] 5)).drewN d).heap.size = g0 + 1 := by rw [hg0]; show (w.alloc _).heap.size = _; simp
        rw [e, ← hg0] at h
        refine h.mono ?_
        rintro e' w' ⟨rfl, h1, h2⟩
        exact ⟨rfl, h1, (below_drewN21 ((Below.refl _ _).alloc (Nat.le_refl _) _) d).trans (h2.mono (by omega))⟩
      obtain ⟨m, c, f, ta, tc, la, lc, V, hI, hFb, hFm, hFl, hFV, hFs⟩ := hF
      have HC : Hid (∀ W : World, Below w.heap.size w W → W.cell? ⟨b, 0, none⟩ = some (.int .i64 (S.pg : Int))) := fun W hW => (hI.old hW).cel (i := 0) rfl
      have HSH : Hid (∀ (p : Nat) (W : World), p ≤ 16777216 → Below w.heap.size w W → Calls Tryd.prog 50 #[.pointer (some ⟨b, 0, none⟩), .agg #[.int .i64 x, .int .i64 (p : Int)]] W fun e w' => (∃ ka kc er wr, e = .returned (.agg #[.slice ka (sh21 S x (p : Int)).b.length kc, .bool er, .int .i64 wr]) ∧ Sl21 w V ka (sh21 S x (p : Int)).b kc) ∧ Below W.heap.size W w') := fun p W hp hW => by
        have hy : In21 (p : Int) := ⟨by omega, by omega⟩
        refine (psht21 b m c f x (p : Int) hx hy W ((hI.old hW).cel (i := 5) rfl) (hI.old hW).hm (hI.sv x (p : Int))).mono ?_
        rintro e w' ⟨rfl, hb⟩
        obtain ⟨ka, kc, e1, e2⟩ := hI.shv x (p : Int)
        exact ⟨⟨ka, kc, _, _, by rw [e1], e2⟩, hb⟩
      have HVS : Hid (∀ k, V k → k < w.heap.size) := fun k e => hFs k (hFV k e)
      have hpg := hO.pg
      have HPG : Hid (64 ≤ S.pg ∧ S.pg ≤ 4096) := hpg
      clear hSZ hP hI hFb hFm hFl hFV hFs hbad HFL hg0
      go_enter Tryd.func20, Tryd.ntmps20
      go_wp2_with fail
      refine HST.mono ?_
      rintro e w1 ⟨rfl, hw⟩
      subst w1
      go_wp2_with fail
      go_quiet ((first | (go_at_call 40; exact Calls.quiet_of_same (HPO.out _ (by exact c1)))))
      go_wp2_with fail
      rw [← HG0.out]
      refine (HREP.out _).mono ?_
      rintro e w2 ⟨rfl, ⟨X, hX⟩, b2⟩
      have HI : Rl21 w w.heap.size (g0 + 1) N S x A 0 w2 := ⟨X, by simpa [rb21] using hX, b2⟩
      clear hX HREP HPO HST
      go_wp2_with fail
      go_loopw [13] (fun td wr => ∃ d : Nat, d ≤ N ∧ td = .int .i64 (d : Int) ∧ Rl21 w w.heap.size (g0 + 1) N S x A d wr) (fun td _ => N - (intOf td).toNat)
      case atStart => exact ⟨0, by omega, rfl, HI⟩
      case round =>
        obtain ⟨d, hdN, rfl, hR⟩ := hrel
        obtain ⟨Y, hY, hB⟩ := hR
        by_cases hlt : d < N
        · have hlti : (d : Int) < (N : Int) := by omega
          obtain ⟨s, hs⟩ : ∃ s, s = A + d := ⟨_, rfl⟩
          obtain ⟨pgi, hpgi⟩ : ∃ pgi, pgi = s / S.pg := ⟨_, rfl⟩
          obtain ⟨fr, hfr⟩ : ∃ fr, fr = s % S.pg := ⟨_, rfl⟩
          have hsum : (A : Int) + (d : Int) = (s : Int) := by omega
          have hws : IntKind.i64.wrap (s : Int) = (s : Int) := IntWalk.i64_in _ (by omega)
          have e0 := HC.out wr hB
          have HS : Hid (s = A + d ∧ pgi = s / S.pg ∧ fr = s % S.pg) := ⟨hs, hpgi, hfr⟩
          have p0 : ¬ S.pg = 0 := by omega
          have p0' : ((S.pg : Int) == 0) = false := by simp [p0]
          have p0'' : ¬ (S.pg : Int) = 0 := by omega
          have hq : Int.tdiv (s : Int) (S.pg : Int) = (pgi : Int) := by rw [hpgi]; rfl
          have hr : Int.tmod (s : Int) (S.pg : Int) = (fr : Int) := by rw [hfr]; rfl
          have hpl : pgi ≤ s := by rw [hpgi]; exact Nat.div_le_self _ _
          have hfl : fr < S.pg := by rw [hfr]; exact Nat.mod_lt _ (by omega)
          have hwq : IntKind.i64.wrap (pgi : Int) = (pgi : Int) := IntWalk.i64_in _ (by omega)
          have hwr : IntKind.i64.wrap (fr : Int) = (fr : Int) := IntWalk.i64_in _ (by omega)
          clear hs hpgi hfr HI
          obtain ⟨s2, hs2⟩ : ∃ s2, s2 = d + S.pg := ⟨_, rfl⟩
          obtain ⟨s3, hs3⟩ : ∃ s3, s3 = s2 - fr := ⟨_, rfl⟩
          obtain ⟨nx, hnx⟩ : ∃ nx, nx = min N s3 := ⟨_, rfl⟩
          have hsum2 : (d : Int) + (S.pg : Int) = (s2 : Int) := by omega
          have hw2 : IntKind.i64.wrap (s2 : Int) = (s2 : Int) := IntWalk.i64_in _ (by omega)
          have hsub3 : (s2 : Int) - (fr : Int) = (s3 : Int) := by omega
          have hw3 : IntKind.i64.wrap (s3 : Int) = (s3 : Int) := IntWalk.i64_in _ (by omega)
          have hmin : (if s3 < N then (s3 : Int) else (N : Int)) = (nx : Int) := by split <;> omega
          have hmin' : (if (s3 : Int) < (N : Int) then (s3 : Int) else (N : Int)) = (nx : Int) := by split <;> omega
          have HNX : Hid (nx = min N s3 ∧ s3 = s2 - fr ∧ s2 = d + S.pg) := ⟨hnx, hs3, hs2⟩
          have hdx : d < nx := by omega
          have hxN : nx ≤ N := by omega
          have hkk : nx - d ≤ S.pg - fr := by omega
          clear hs2 hs3 hnx
          go_wp2_with fail
          go_quiet (fail)
          go_wp2_with fail
          obtain ⟨w3, hw3'⟩ : ∃ w3, w3 = wr.drewN nq := ⟨_, rfl⟩
          have HW3 : Hid (wr.drewN nq = w3) := hw3'.symm
          have b3 : Below w.heap.size w w3 := by rw [hw3']; exact below_drewN21 hB _
          have hY3 : w3.heap[g0 + 1]? = some (.cells ((rb21 S x A d ++ List.replicate (N - d) 255 ++ Y).map (Value.int .u8)).toArray 5 (0, 0)) := by rw [hw3']; exact hY
          rw [HW3.out]
          refine (HSH.out pgi w3 (by omega) b3).mono ?_
          rintro e w4 ⟨⟨ka, kc, er, wrr, rfl, hsl⟩, b4⟩
          have hfd := fldc21 ka (sh21 S x (pgi : Int)).b.length kc er wrr
          obtain ⟨K, hK⟩ : ∃ K, K = (sh21 S x (pgi : Int)).b := ⟨_, rfl⟩
          rw [← hK] at hfd hsl
          rw [← hK]
          obtain ⟨KL, hKL⟩ : ∃ KL, KL = K.length := ⟨_, rfl⟩
          rw [← hKL] at hfd
          rw [← hKL]
          obtain ⟨lo, hlo⟩ : ∃ lo, lo = min fr KL := ⟨_, rfl⟩
          have hmin2 : (if KL < fr then (KL : Int) else (fr : Int)) = (lo : Int) := by split <;> omega
          have hmin2' : (if (KL : Int) < (fr : Int) then (KL : Int) else (fr : Int)) = (lo : Int) := by split <;> omega
          obtain ⟨q, hq'⟩ : ∃ q, q = min (KL - lo) (nx - d) := ⟨_, rfl⟩
          have hcs : ((K.drop fr).take (nx - d)).length = q := by simp; omega
          have b4' : Below w.heap.size w w4 := b3.trans (b4.mono b3.size)
          have hg3 : g0 + 1 < w3.heap.size := (Array.getElem?_eq_some_iff.1 hY3).1
          have hY4 := (b4.block (g0 + 1) hg3).trans hY3
          have hsg : Seg w4 ka K := (hsl.kp (w' := w4) (V' := V) (fun k e => b4'.block k (HVS.out k e)) (fun _ e => e)).1
          have hkc : KL ≤ kc := by rw [hKL]; exact hsl.2.2.2
          have hlk : lo ≤ KL := by omega
          have hl1 : (d : Int) ≤ (nx : Int) := by omega
          have hl2 : (nx : Int) ≤ (N : Int) := by omega
          have hl3 : (lo : Int) ≤ (KL : Int) := by omega
          have hNd : ¬ N = d := by omega
          have HSTEP : Hid (∀ w5 : World, w5.heap[g0 + 1]? = some (.cells ((sp21 (rb21 S x A d ++ List.replicate (N - d) 255 ++ Y) d ((K.drop fr).take (nx - d))).map (Value.int .u8)).toArray 5 (0, 0)) → Kp (fun k => k = g0 + 1) w4 w5 → Rl21 w w.heap.size (g0 + 1) N S x A nx w5) := fun w5 h5 k5 => by
            have e := rb21_step S x A d (nx - d) N Y (by omega) (by have := HS.out.2.2; have := HS.out.1; subst this; omega) (by omega)
            have e1 := HS.out.1
            have e2 := HS.out.2.1
            have e3 := HS.out.2.2
            rw [← e1, ← e2, ← e3, ← hK, show d + (nx - d) = nx by omega] at e
            rw [e] at h5
            exact ⟨Y, h5, b4'.trans (k5.below (fun i e => by have := HG0.out; omega) b4'.size)⟩
          have HQ0 : Hid (q = min (KL - lo) (nx - d) ∧ lo = min fr KL ∧ KL = K.length) := ⟨hq', hlo, hKL⟩
          have HCS : Hid (((K.drop fr).take (nx - d)).length = q) := hcs
          have hfit : d + q ≤ (rb21 S x A d ++ List.replicate (N - d) 255 ++ Y).length := by
            rw [List.length_append, List.length_append, rb21_len, List.length_replicate]; omega
          have HFIT : Hid (d + q ≤ (rb21 S x A d ++ List.replicate (N - d) 255 ++ Y).length) := hfit
          have HY4 : Hid (w4.heap[g0 + 1]? = some (.cells ((rb21 S x A d ++ List.replicate (N - d) 255 ++ Y).map (Value.int .u8)).toArray 5 (0, 0))) := hY4
          rcases hsl.2.1 with hka | ⟨k, hka, hVk⟩
          · subst hka
            have hkc0 : kc = 0 := hsl.2.2.1 rfl
            have hKL0 : KL = 0 := by omega
            have hlo0 : lo = 0 := by omega
            have hq0 : q = 0 := by omega
            subst hkc0 hKL0 hlo0
            have HQQ : Hid (q = 0) := hq0
            clear hsl hsg hK hKL hlo hq' hcs hfit hY4 hY3 hY hkc hlk hq0 hl3 hmin2 hmin2'
            have HSLK : ∀ W : World, (Instr.slice 22 (.slice none 0 0) (some (.int .i64 0)) none none).run Tryd.prog W = .ok (.slice none 0 0) W := fun W => by kernel_rfl
            rcases Nat.eq_zero_or_pos fr with hf0 | hf0
            · have HF0 : Hid (fr = 0) := hf0
              subst hf0
              go_wp2_with fail
              go_region_held3 (fun _ => True) (trivial)
                (first | (refine step_copy21 rfl (.tmp 93) (.tmp 99) 22 22 rfl 5 Tryd.underlying22 size_y21 rfl rfl (g0 + 1) d (rb21 S x A d ++ List.replicate (N - d) 255 ++ Y) 5 (by exact HY4.out) ((K.drop 0).take (nx - d)) q HCS.out (by rw [HQQ.out]; simp) (fun hp => absurd hp (by rw [HCS.out, HQQ.out]; simp)) HFIT.out ?_; intro w5 h5 k5))
              all_goals
                go_wp2_with fail
                go_roundw
                case rel => exact ⟨nx, hxN, by go_num, HSTEP.out w5 h5.out ⟨k5.os, k5.tape, k5.output, k5.size, k5.block⟩⟩
                case measure => simp [intOf]; omega
            · have hf1 : (0 : Int) < (fr : Int) := by omega
              go_wp2_with fail
              go_region_held3 (fun _ => True) (trivial)
                (first | (refine step_copy21 rfl (.tmp 93) (.tmp 99) 22 22 rfl 5 Tryd.underlying22 size_y21 rfl rfl (g0 + 1) d (rb21 S x A d ++ List.replicate (N - d) 255 ++ Y) 5 (by exact HY4.out) ((K.drop fr).take (nx - d)) q HCS.out (by rw [HQQ.out]; simp) (fun hp => absurd hp (by rw [HCS.out, HQQ.out]; simp)) HFIT.out ?_; intro w5 h5 k5))
              all_goals
                go_wp2_with fail
                go_roundw
                case rel => exact ⟨nx, hxN, by go_num, HSTEP.out w5 h5.out ⟨k5.os, k5.tape, k5.output, k5.size, k5.block⟩⟩
                case measure => simp [intOf]; omega
          · subst hka
            have hsgd : 0 < q → Seg w4 (some ⟨k, lo, none⟩) ((K.drop fr).take (nx - d)) := fun hq0 => by
              have e : lo = fr := by omega
              rw [e]
              have := (hsg.drop fr).take (nx - d)
              simpa using this
            have HSG : Hid (0 < q → Seg w4 (some ⟨k, lo, none⟩) ((K.drop fr).take (nx - d)) ∧ ¬ kc = lo) := fun h => ⟨hsgd h, by omega⟩
            clear hsl hsg hK hKL hlo hq' hcs hfit hY4 hY3 hY hkc hsgd
            go_wp2_with fail
            go_region_held3 (fun _ => True) (trivial)
              (first | (refine step_copy21 rfl (.tmp 93) (.tmp 99) 22 22 rfl 5 Tryd.underlying22 size_y21 rfl rfl (g0 + 1) d (rb21 S x A d ++ List.replicate (N - d) 255 ++ Y) 5 (by exact HY4.out) ((K.drop fr).take (nx - d)) q HCS.out (by have := HQ0.out; show q = min _ _; omega) (fun hp => ⟨by first | rfl | (simp; done) | (rw [if_neg hNd]; simp), by rw [HCS.out] at hp; have hh := HSG.out hp; first | exact hh.1.drew | (rw [if_neg hh.2]; simpa using hh.1.drew)⟩) HFIT.out ?_; intro w5 h5 k5))
            all_goals
              go_wp2_with fail
              go_roundw
              case rel => exact ⟨nx, hxN, by go_num, HSTEP.out w5 h5.out ⟨k5.os, k5.tape, k5.output, k5.size, k5.block⟩⟩
              case measure => simp [intOf]; omega
        · obtain rfl : d = N := by omega
          have hlti : ¬ (d : Int) < (d : Int) := by omega
          clear HI hlt
          go_wp2_with fail
          go_ret2
          rw [HQ.out, HE.out]
          have := HG0.out
          refine ⟨hB, .inr ⟨rfl, g0 + 1, rfl, by omega, Y, ?_⟩⟩
          simpa using hY
end Go.Proofs.YtmjlpfmacblcpaaDoor

namespace Go.Proofs.YtmjlpfmacblcpaaDoor
open Go.RowKit Go.Shelf
set_option linter.unusedVariables false
set_option linter.unusedSimpArgs false
def pgE21 (S : Fs21) (x y : Int) (n : Nat) : Int := if rf21 S.on S.ps x y ≠ 0 then rf21 S.on S.ps x y else if S.pg < n then 1 else if (sh21 S x y).er = false then 212 else rc21 S
def pgS21 (S : Fs21) (x y : Int) (L : List Int) : Fs21 := if rf21 S.on S.ps x y ≠ 0 then S else if S.pg < L.length then S else if (sh21 S x y).er = false then S else rn21 S 2 x y ⟨L, false, (sh21 S x y).wr⟩
theorem fldb21 (a : Option Addr) (n c : Nat) (er : Bool) (wr : Int) (W : World) : (Instr.field 89 (.agg #[.slice a n c, .bool er, .int .i64 wr]) 1).run Tryd.prog W = .ok (.bool er) W := by kernel_rfl
set_option maxRecDepth 100000 in
set_option maxHeartbeats 8000000 in
theorem pprog21 {w : World} {b : Nat} {F : Nat → Prop} {S : Fs21} (hF : Fl21 w b F S) (hO : Ok21 S) (x y : Int) (hx : In21 x) (hy : In21 y) (hlg : S.lg.length ≤ 5500000001000) (a : Option Addr) (L : List Int) (n cap : Nat) (hs : Seg w a L) (hn : Hid (L.length = n)) (hnil : a = none → cap = 0) :
    Calls Tryd.prog 45 #[.pointer (some ⟨b, 0, none⟩), .int .i64 x, .int .i64 y, .slice a n cap] w fun e w' => e = .returned (.int .i64 (pgE21 S x y n)) ∧ Fn21 w w' b F (pgS21 S x y L) := by
  have HFl : Hid (Fl21 w b F S) := hF
  obtain ⟨m, c, f, ta, tc, la, lc, V, hI, hFb, hFm, hFl, hFV, hFs⟩ := hF
  have hlt := hI.bl
  obtain ⟨w1, hw1⟩ : ∃ w1, w1 = w.alloc (.cells #[.int .i64 x, .int .i64 y] 98) := ⟨_, rfl⟩
  have HW : Hid (w.alloc (.cells #[.int .i64 x, .int .i64 y] 98) = w1) := hw1.symm
  have b1 : Below w.heap.size w w1 := by rw [hw1]; exact (Below.refl _ _).alloc (Nat.le_refl _) _
  have q1 : w1.heap[w.heap.size]? = some (.cells #[.int .i64 x, .int .i64 y] 98 (0, 0)) := by rw [hw1]; exact heap_alloc_new _ _
  have HB1 : Hid (Below w.heap.size w w1) := b1
  have HR : Hid (∀ W : World, Below w.heap.size w W → Calls Tryd.prog 92 #[.pointer (some ⟨b, 0, none⟩), .agg #[.int .i64 x, .int .i64 y]] W fun e w' => e = .returned (.int .i64 (rf21 S.on S.ps x y)) ∧ Below W.heap.size W w') := fun W hW => pref21 b S.pg S.ps S.on x y W ((hI.old hW).cel (i := 0) rfl) hO.pg.1 ((hI.old hW).cel (i := 1) rfl) ((hI.old hW).cel (i := 3) rfl)
  have HS : Hid (∀ W : World, Below w.heap.size w W → Calls Tryd.prog 50 #[.pointer (some ⟨b, 0, none⟩), .agg #[.int .i64 x, .int .i64 y]] W fun e w' => e = .returned (shv21 (f x y) x) ∧ Below W.heap.size W w') := fun W hW => psht21 b m c f x y hx hy W ((hI.old hW).cel (i := 5) rfl) (hI.old hW).hm (hI.sv x y)
  obtain ⟨wa, wcap, hsv, hsl⟩ := hI.shv x y
  rw [hsv] at HS
  have HRUN : Hid (L.length ≤ S.pg → ∀ W : World, Below w.heap.size w W → Calls Tryd.prog 93 #[.pointer (some ⟨b, 0, none⟩), .iface 166 (.agg #[.int .i64 x, .int .i64 y, .slice a n cap])] W fun e w' => e = .returned (.int .i64 (rc21 S)) ∧ Fn21 W w' b F (rn21 S 2 x y ⟨L, false, (sh21 S x y).wr⟩)) := fun hle W hW => prun21 (hI.old hW) hO x y hx hy _ _ 2 ⟨L, false, (sh21 S x y).wr⟩ hlg (mtp21 x y a n cap) (fun Y a' n' k er hY => (pafp21 er (sh21 S x y).wr a' a n' k n cap x y L Y ((hs.old hW).old hY) hn hnil (by have := hO.pg.2; have := hn.out; omega)).mono (by
    rintro e w' ⟨⟨ra, rc, rfl, hc⟩, hb⟩
    exact ⟨⟨ra, rc, by rw [hn.out], hc⟩, hb⟩)) F hFb hFm hFl hFV (fun k e => Nat.lt_of_lt_of_le (hFs k e) hW.size)
  have c0 : ∀ W : World, Below w.heap.size w W → W.cell? ⟨b, 0, none⟩ = some (.int .i64 (S.pg : Int)) := fun W hW => (hI.old hW).cel (i := 0) rfl
  have HC0 : Hid (∀ W : World, Below w.heap.size w W → W.cell? ⟨b, 0, none⟩ = some (.int .i64 (S.pg : Int))) := c0
  have HE : Hid (pgE21 S x y n = if rf21 S.on S.ps x y ≠ 0 then rf21 S.on S.ps x y else if S.pg < n then 1 else if (sh21 S x y).er = false then 212 else rc21 S) := rfl
  have HS' : Hid (pgS21 S x y L = if rf21 S.on S.ps x y ≠ 0 then S else if S.pg < n then S else if (sh21 S x y).er = false then S else rn21 S 2 x y ⟨L, false, (sh21 S x y).wr⟩) := by show pgS21 S x y L = _; rw [← hn.out]; rfl
  rw [HE.out, HS'.out]
  generalize rf21 S.on S.ps x y = rf at *
  by_cases hrf : rf = 0
  · subst hrf
    rw [if_neg (show ¬ ((0 : Int) ≠ 0) by simp), if_neg (show ¬ ((0 : Int) ≠ 0) by simp)]
    by_cases h1 : S.pg < n
    · rw [if_pos h1, if_pos h1]
      have h1' : (S.pg : Int) < (n : Int) := by omega
      clear HRUN
      clear c0 hI hsv hsl HE HS' hw1 b1
      go_enter Tryd.func45, Tryd.ntmps45
      go_wp2_with fail
      rw [HW.out]
      refine (HR.out _ HB1.out).mono ?_
      rintro e w2 ⟨rfl, b2⟩
      have b2' : Below w.heap.size w w2 := HB1.out.trans (b2.mono HB1.out.size)
      have q2 := (b2.block _ (Array.getElem?_eq_some_iff.1 q1).1).trans q1
      have q20 := two_cell0 q2
      have q21 := two_cell1 q2
      have d0 := HC0.out w2 b2'
      go_wp2_with fail
      go_ret
      exact ⟨rfl, HFl.out.stay b2'⟩
    · rw [if_neg h1, if_neg h1]
      have h1' : ¬ (S.pg : Int) < (n : Int) := by omega
      have HRUN' := HRUN.out (by have := hn.out; omega)
      have HRU : Hid (∀ W : World, Below w.heap.size w W → Calls Tryd.prog 93 #[.pointer (some ⟨b, 0, none⟩), .iface 166 (.agg #[.int .i64 x, .int .i64 y, .slice a n cap])] W fun e w' => e = .returned (.int .i64 (rc21 S)) ∧ Fn21 W w' b F (rn21 S 2 x y ⟨L, false, (sh21 S x y).wr⟩)) := HRUN'
      clear HRUN HRUN'
      generalize rn21 S 2 x y ⟨L, false, (sh21 S x y).wr⟩ = S' at *
      generalize rc21 S = E' at *
      obtain ⟨WR, hWR⟩ : ∃ WR, WR = (sh21 S x y).wr := ⟨_, rfl⟩
      obtain ⟨WL, hWL⟩ : ∃ WL, WL = (sh21 S x y).b.length := ⟨_, rfl⟩
      rw [← hWR, ← hWL] at HS
      cases hWE : (sh21 S x y).er
      · rw [if_pos rfl, if_pos rfl]
        rw [hWE] at HS
        have hfd := fldb21 wa WL wcap false WR
        clear hWR hWL hWE
        clear c0 hI hsv hsl HE HS' hw1 b1
        go_enter Tryd.func45, Tryd.ntmps45
        go_wp2_with fail
        rw [HW.out]
        refine (HR.out _ HB1.out).mono ?_
        rintro e w2 ⟨rfl, b2⟩
        have b2' : Below w.heap.size w w2 := HB1.out.trans (b2.mono HB1.out.size)
        have q2 := (b2.block _ (Array.getElem?_eq_some_iff.1 q1).1).trans q1
        have q20 := two_cell0 q2
        have q21 := two_cell1 q2
        have d0 := HC0.out w2 b2'
        go_wp2_with fail
        refine (HS.out _ b2').mono ?_
        rintro e w3 ⟨rfl, b3⟩
        have b3' : Below w.heap.size w w3 := b2'.trans (b3.mono b2'.size)
        have q3 := (b3.block _ (Array.getElem?_eq_some_iff.1 q2).1).trans q2
        have q30 := two_cell0 q3
        have q31 := two_cell1 q3
        go_wp2_with fail
        go_ret
        exact ⟨rfl, HFl.out.stay b3'⟩
      · rw [if_neg (by simp), if_neg (by simp)]
        rw [hWE] at HS
        have hfd := fldb21 wa WL wcap true WR
        clear hWR hWL hWE
        clear c0 hI hsv hsl HE HS' hw1 b1
        go_enter Tryd.func45, Tryd.ntmps45
        go_wp2_with fail
        rw [HW.out]
        refine (HR.out _ HB1.out).mono ?_
        rintro e w2 ⟨rfl, b2⟩
        have b2' : Below w.heap.size w w2 := HB1.out.trans (b2.mono HB1.out.size)
        have q2 := (b2.block _ (Array.getElem?_eq_some_iff.1 q1).1).trans q1
        have q20 := two_cell0 q2
        have q21 := two_cell1 q2
        have d0 := HC0.out w2 b2'
        go_wp2_with fail
        refine (HS.out _ b2').mono ?_
        rintro e w3 ⟨rfl, b3⟩
        have b3' : Below w.heap.size w w3 := b2'.trans (b3.mono b2'.size)
        have q3 := (b3.block _ (Array.getElem?_eq_some_iff.1 q2).1).trans q2
        have q30 := two_cell0 q3
        have q31 := two_cell1 q3
        go_wp2_with fail
        refine (HRU.out _ b3').mono ?_
        rintro e w4 ⟨rfl, hn4⟩
        go_wp2_with fail
        go_ret
        exact ⟨rfl, hn4.from b3'⟩
  · rw [if_pos (show rf ≠ 0 from hrf), if_pos (show rf ≠ 0 from hrf)]
    have hrf' : (rf == 0) = false := by simp [hrf]
    clear HRUN
    clear c0 hI hsv hsl HE HS' hw1 b1
    go_enter Tryd.func45, Tryd.ntmps45
    go_wp2_with fail
    rw [HW.out]
    refine (HR.out _ HB1.out).mono ?_
    rintro e w2 ⟨rfl, b2⟩
    have b2' : Below w.heap.size w w2 := HB1.out.trans (b2.mono HB1.out.size)
    have q2 := (b2.block _ (Array.getElem?_eq_some_iff.1 q1).1).trans q1
    have q20 := two_cell0 q2
    have q21 := two_cell1 q2
    have d0 := HC0.out w2 b2'
    go_wp2_with fail
    go_ret
    exact ⟨rfl, HFl.out.stay b2'⟩
end Go.Proofs.YtmjlpfmacblcpaaDoor

namespace Go.Proofs.YtmjlpfmacblcpaaDoor
open Go.RowKit Go.Shelf
set_option linter.unusedVariables false
set_option linter.unusedSimpArgs false
theorem seg_lit21 (w : World) (zs : List Int) (t : TypeId) (fr : Nat × Nat) (h : ∀ z ∈ zs, 0 ≤ z ∧ z ≤ 255) : Seg (w.alloc (.cells (zs.map (Value.int .u8)).toArray t fr)) (some ⟨w.heap.size, 0, none⟩) zs := by
  refine ⟨fun i hi => ⟨w.heap.size, 0, rfl, ?_⟩, by decide, getD_bd (by decide) h⟩
  have e : zs.getD i 0 = zs[i] := by simp [List.getD, hi]
  rw [e, Nat.zero_add, World.cell?_alloc_mark]
  simp [hi]
def s1_21 : Fs21 := nw21 64 2 0 [111, 108, 100] []
def s2_21 : Fs21 := pgS21 s1_21 1 0 []
def s3_21 : Fs21 := erS21 s2_21 1 0
def s4_21 : Fs21 := pgS21 s3_21 1 0 [120]
theorem ok21_new (p q : Nat) (ac : Int) (L0 L1 : List Int) (hp : 64 ≤ p ∧ p ≤ 4096) (hq : 1 ≤ q ∧ q ≤ 4096) (ha : ac = 0 ∨ ac = 1) : Ok21 (nw21 p q ac L0 L1) := by
  refine ⟨hp, hq, ha, by simp [nw21], by simp [nw21], by simp [nw21], fun x y s h => ?_⟩
  simp only [nw21, pj21] at h
  split at h
  · unfold ck21 at h
    split at h
    · simp only [Option.some.injEq] at h
      subst h
      refine ⟨?_, by simp, by simp, by simp⟩
      show (List.take _ _).length ≤ p
      simp
      omega
    · cases h
  · cases h
theorem ok21_up {S : Fs21} (h : Ok21 S) (x y : Int) (s : Sh21) (hs : s.b.length ≤ S.pg ∧ 0 ≤ s.wr ∧ s.wr ≤ 1099511627776 ∧ (s.er = true → s.b = [])) : ∀ x' y' s', up21 S.pa x y s x' y' = some s' → s'.b.length ≤ S.pg ∧ 0 ≤ s'.wr ∧ s'.wr ≤ 1099511627776 ∧ (s'.er = true → s'.b = []) := by
  intro x' y' s' e
  unfold up21 at e
  split at e
  · cases e; exact hs
  · exact h.sh x' y' s' e
theorem ok21_rn {S : Fs21} (h : Ok21 S) (kd x y : Int) (s : Sh21) (hs : s.b.length ≤ S.pg ∧ 0 ≤ s.wr ∧ s.wr ≤ 1099511627776 ∧ (s.er = true → s.b = [])) : Ok21 (rn21 S kd x y s) := by
  unfold rn21
  split
  · refine ⟨h.pg, h.ps, h.ac, h.lm, by simp [cu21], by simp [cu21], ok21_up h x y _ ⟨?_, hs.2.1, hs.2.2.1, by simp⟩⟩
    show (la21 _ _ _).length ≤ _
    rw [la21_len _ _ _ h.tn (sh21_ok h x y).1]
    exact Nat.le_refl _
  · refine ⟨h.pg, h.ps, h.ac, h.lm, ?_, h.tn, ok21_up h x y s hs⟩
    have := h.lf
    show 0 ≤ max 0 (S.lf - 1) ∧ max 0 (S.lf - 1) ≤ _
    omega
theorem ok21_er {S : Fs21} (h : Ok21 S) (x y : Int) : Ok21 (erS21 S x y) := by
  unfold erS21
  split
  · exact h
  · split
    · exact h
    · rename_i h1 h2
      have h3 := sh21_ok h x y
      have h4 : ¬ 1099511627776 ≤ (sh21 S x y).wr := by
        intro e
        exact h2 (by simp [wo21, e])
      exact ok21_rn h 1 x y _ ⟨by simp, by show 0 ≤ (sh21 S x y).wr + 1; omega, by show (sh21 S x y).wr + 1 ≤ _; omega, fun _ => rfl⟩
theorem ok21_pg {S : Fs21} (h : Ok21 S) (x y : Int) (L : List Int) : Ok21 (pgS21 S x y L) := by
  unfold pgS21
  split
  · exact h
  · split
    · exact h
    · split
      · exact h
      · rename_i h1 h2 h3
        have h4 := sh21_ok h x y
        exact ok21_rn h 2 x y _ ⟨by show L.length ≤ _; omega, h4.2.1, h4.2.2, by simp⟩
theorem Fn21.kpw {w w' : World} {b N : Nat} {F : Nat → Prop} {S : Fs21} (h : Fn21 w w' b F S) (hF : ∀ k, F k → N ≤ k) (hN : N ≤ w.heap.size) : ∃ F', Fl21 w' b F' S ∧ (∀ k, F' k → N ≤ k) ∧ Below N w w' := by
  obtain ⟨F', h1, h2, h3⟩ := h
  exact ⟨F', h1, fun k e => by rcases h2 k e with h | h; (exact hF k h); omega, h3.below hF hN⟩
set_option maxRecDepth 100000 in
set_option maxHeartbeats 8000000 in
theorem plives21 (w : World) : Calls Tryd.prog 11 #[] w fun e w' => e = .returned (.bool true) ∧ Below w.heap.size w w' := by
  have hcv : (convert 22 22 (.slice (some ⟨w.heap.size, 0, none⟩) 3 3)).run Tryd.prog (w.alloc (.cells #[.int .u8 111, .int .u8 108, .int .u8 100] 5)) = .ok (.slice (some ⟨w.heap.size, 0, none⟩) 3 3) (w.alloc (.cells #[.int .u8 111, .int .u8 108, .int .u8 100] 5 (3, 4))) := Lib.run_convert_bytes_const (P := Tryd.prog) w 22 5 #[.int .u8 111, .int .u8 108, .int .u8 100] 3 3 Tryd.underlying22 Tryd.underlying5
  obtain ⟨w1, hw1⟩ : ∃ w1, w1 = w.alloc (.cells #[.int .u8 111, .int .u8 108, .int .u8 100] 5 (3, 4)) := ⟨_, rfl⟩
  have HW1 : Hid (w.alloc (.cells #[.int .u8 111, .int .u8 108, .int .u8 100] 5 (3, 4)) = w1) := hw1.symm
  have b1 : Below w.heap.size w w1 := by rw [hw1]; exact (Below.refl _ _).alloc (Nat.le_refl _) _
  have HN := pnew21 (w := w1) 64 2 0 ⟨by omega, by omega⟩ ⟨by omega, by omega⟩ (some ⟨w.heap.size, 0, none⟩) none [111, 108, 100] [] 3 0 3 0 (by rw [hw1]; exact seg_lit21 w [111, 108, 100] _ _ (by decide)) (SegK.nil (by decide) _ _) rfl rfl (by omega) (by omega)
  have HB1 : Hid (Below w.heap.size w w1) := b1
  clear hw1 b1
  go_enter Tryd.func11, Tryd.ntmps11
  go_wp2_with fail
  rw [HW1.out]
  clear hcv
  refine HN.mono ?_
  rintro e w2 ⟨b2, h2⟩
  rcases h2 with ⟨h2, -⟩ | ⟨-, b, F, rfl, hF, hFw⟩
  · exact absurd h2 (by decide)
  have o1 : Ok21 s1_21 := ok21_new 64 2 0 _ _ (by omega) (by omega) (by omega)
  have hFl : Fl21 w2 b F s1_21 := hF
  have b2' : Below w.heap.size w w2 := HB1.out.trans (b2.mono HB1.out.size)
  have hFw' : ∀ k, F k → w.heap.size ≤ k := fun k e => Nat.le_trans HB1.out.size (hFw k e)
  have hPN := pprog21 hFl o1 1 0 ⟨by omega, by omega⟩ ⟨by omega, by omega⟩ (by decide) none [] 0 0 (SegK.nil (by decide) _ _) rfl (fun _ => rfl)
  have e1 : pgE21 s1_21 1 0 0 = 212 := by decide
  rw [e1] at hPN
  have o2 : Ok21 s2_21 := ok21_pg o1 1 0 []
  clear e1
  go_wp2_with fail
  refine hPN.mono ?_
  rintro e w3 ⟨rfl, hn3⟩
  obtain ⟨F3, hF3, hw3, b3⟩ := hn3.kpw hFw' b2'.size
  have b3' := b2'.trans b3
  have hER := perase21 (S := s2_21) hF3 o2 1 0 ⟨by omega, by omega⟩ ⟨by omega, by omega⟩ (by decide)
  have e2 : erE21 s2_21 1 0 = 0 := by decide
  rw [e2] at hER
  have o3 : Ok21 s3_21 := ok21_er o2 1 0
  clear e2 hPN
  go_wp2_with fail
  refine hER.mono ?_
  rintro e w4 ⟨rfl, hn4⟩
  obtain ⟨F4, hF4, hw4, b4⟩ := hn4.kpw hw3 b3'.size
  have b4' := b3'.trans b4
  have hcv : (convert 22 22 (.slice (some ⟨w4.heap.size, 0, none⟩) 1 1)).run Tryd.prog (w4.alloc (.cells #[.int .u8 120] 5)) = .ok (.slice (some ⟨w4.heap.size, 0, none⟩) 1 1) (w4.alloc (.cells #[.int .u8 120] 5 (1, 2))) := Lib.run_convert_bytes_const (P := Tryd.prog) w4 22 5 #[.int .u8 120] 1 1 Tryd.underlying22 Tryd.underlying5
  obtain ⟨w5, hw5⟩ : ∃ w5, w5 = w4.alloc (.cells #[.int .u8 120] 5 (1, 2)) := ⟨_, rfl⟩
  have HW5 : Hid (w4.alloc (.cells #[.int .u8 120] 5 (1, 2)) = w5) := hw5.symm
  have b5 : Below w4.heap.size w4 w5 := by rw [hw5]; exact (Below.refl _ _).alloc (Nat.le_refl _) _
  have b5' := b4'.trans (b5.mono b4'.size)
  have hPR := pprog21 (S := s3_21) (hF4.old b5) o3 1 0 ⟨by omega, by omega⟩ ⟨by omega, by omega⟩ (by decide) (some ⟨w4.heap.size, 0, none⟩) [120] 1 1 (by rw [hw5]; exact seg_lit21 w4 [120] _ _ (by decide)) rfl (by intro h; cases h)
  have e3 : pgE21 s3_21 1 0 1 = 0 := by decide
  rw [e3] at hPR
  have o4 : Ok21 s4_21 := ok21_pg o3 1 0 [120]
  clear e3 hER hw5
  go_wp2_with fail
  rw [HW5.out]
  clear hcv
  refine hPR.mono ?_
  rintro e w6 ⟨rfl, hn6⟩
  obtain ⟨F6, hF6, hw6, b6⟩ := hn6.kpw hw4 b5'.size
  have b6' := b5'.trans b6
  have hRD := pread21 (S := s4_21) hF6 o4 1 0 2 ⟨by omega, by omega⟩ ⟨by omega, by omega⟩ ⟨by omega, by omega⟩
  clear hPR
  go_wp2_with fail
  refine hRD.mono ?_
  rintro e w7 ⟨b7, h7⟩
  rcases h7 with ⟨h7, -⟩ | ⟨-, g, rfl, hg, X, hX⟩
  · exact absurd (show rdE21 s4_21 1 0 2 = 0 by decide) h7
  have hX' : w7.heap[g]? = some (.cells (([120, 255] ++ X).map (Value.int .u8)).toArray 5 (0, 0)) := hX
  have x0 : w7.cell? ⟨g, 0, none⟩ = some (.int .u8 120) := by simp [World.cell?, hX']
  have x1 : w7.cell? ⟨g, 1, none⟩ = some (.int .u8 255) := by simp [World.cell?, hX']
  have b7' := b6'.trans (b7.mono b6'.size)
  have hOP := pops21 (S := s4_21) (hF6.old b7) o4
  have e4 : ((s4_21.lg.length : Nat) : Int) = 2 := by decide
  rw [e4] at hOP
  clear hX hX' e4 hRD
  rw [show Int.toNat 2 = 2 from rfl]
  go_wp2_with fail
  refine hOP.mono ?_
  rintro e w8 ⟨rfl, hw8⟩
  subst w8
  go_wp2_with fail
  go_ret
  exact ⟨rfl, b7'⟩
end Go.Proofs.YtmjlpfmacblcpaaDoor

namespace Go.Proofs.YtmjlpfmacblcpaaDoor
open Go.RowKit Go.Shelf
set_option linter.unusedVariables false
set_option linter.unusedSimpArgs false
theorem wpList_apr21 {P : Program} {ops : Array Oper} {rest : List Oper} {o : Oper} {a : Act} {Q : Exit → Act → World → Prop} {w : World} (hgd : o.guard = none) (s x : Operand) (t : TypeId)
    (ho : o.op = Op.call { callee := Callee.builtin Builtin.append, args := #[s, x], argTypes := #[t, t] }) {u v v' : Value} {w' : World} (hs : a.eval s = u) (hx : a.eval x = v) (hr : (Builtin.append_ #[t, t] o.type #[u, v]).run P w = .ok v' w')
    (h : wpList P ops Q rest (a.put o.dst v') w') : wpList P ops Q (o :: rest) a w :=
  wpList_plain hgd fun K hK => operwp_app21 s x t ho hs hx hr (hK _ _ h)
theorem lgc21_len (L : List (Int × Int × Int)) : (lgc21 L).length = L.length * 3 := by
  induction L with
  | nil => rfl
  | cons o r ih => simp only [lgc21, List.flatMap_cons, List.length_append, List.length_cons, List.length_nil] at ih ⊢; omega
theorem lgc21_one (L : List (Int × Int × Int)) : ∀ u ∈ lgc21 L, u.oneCell' = true := by
  intro u hu
  simp only [lgc21, List.mem_flatMap] at hu
  obtain ⟨o, _, h⟩ := hu
  simp only [List.mem_cons, List.not_mem_nil, or_false] at h
  rcases h with rfl | rfl | rfl <;> rfl
theorem lgc21_get : ∀ (L : List (Int × Int × Int)) (i : Nat) (o : Int × Int × Int), L[i]? = some o → (lgc21 L)[i * 3]? = some (.int .i64 o.1) ∧ (lgc21 L)[i * 3 + 1]? = some (.int .i64 o.2.1) ∧ (lgc21 L)[i * 3 + 2]? = some (.int .i64 o.2.2)
  | [], i, o, h => by simp at h
  | p :: r, 0, o, h => by simp at h; subst h; simp [lgc21]
  | p :: r, i + 1, o, h => by
    have := lgc21_get r i o (by simpa using h)
    have e : lgc21 (p :: r) = .int .i64 p.1 :: .int .i64 p.2.1 :: .int .i64 p.2.2 :: lgc21 r := by simp [lgc21]
    rw [e, show (i + 1) * 3 = i * 3 + 1 + 1 + 1 by omega]
    simpa using this
set_option maxRecDepth 100000 in
set_option maxHeartbeats 2000000 in
theorem pclop21 (la : Option Addr) (n lc : Nat) (L : List (Int × Int × Int)) (hn : Hid (L.length = n)) (w : World) (hl : w.ownsRow 0 180 3 (.slice la n lc) n (lgc21 L)) (hb : n ≤ 5500000002000) :
    Calls Tryd.prog 117 #[.slice la n lc] w fun e w' => (∃ ra rc, e = .returned (.slice ra n rc) ∧ w'.ownsRow w.heap.size 180 3 (.slice ra n rc) n (lgc21 L)) ∧ Below w.heap.size w w' := by
  obtain ⟨i0, hi, hz0, hz1, hz2⟩ := info_parts info_op21
  cases la with
  | none =>
    have h0 : n = 0 ∧ lc = 0 := by
      rcases hl.2 with ⟨h1, h2⟩ | ⟨g, cp, cur, h1, _⟩
      · simp at h1; exact h1
      · simp at h1
    obtain ⟨rfl, rfl⟩ := h0
    have hL : L = [] := List.eq_nil_of_length_eq_zero hn.out
    subst hL
    have HE := Go.Lib.run_eql_slice_nil (P := Tryd.prog) w 94 180 none 0 0 0 0 Tryd.underlying94
    clear hl hn
    go_enter Tryd.func117, Tryd.ntmps117
    go_wp2_with fail
    go_ret
    exact ⟨⟨none, 0, rfl, World.ownsRow_nil _ _ _ _⟩, Below.refl _ _⟩
  | some ad =>
    obtain ⟨g, hg⟩ : ∃ g, ad = ⟨g, 0, none⟩ := by
      rcases hl.2 with ⟨h1, h2⟩ | ⟨g, cp, cur, h1, _⟩
      · simp at h1
      · simp at h1; exact ⟨g, h1.1⟩
    subst hg
    have hm0 : (w.alloc (.cells #[] 180)).ownsRow w.heap.size 180 3 (.slice (some ⟨w.heap.size, 0, none⟩) 0 0) 0 [] := World.ownsRow_made w #[] 0 (Nat.le_refl _) (by decide) rfl
    have hb0 : Below w.heap.size w (w.alloc (.cells #[] 180)) := (Below.refl _ _).alloc (Nat.le_refl _) _
    have hcells : ∀ j u, (lgc21 L)[j]? = some u → (w.alloc (.cells #[] 180)).cell? ((⟨g, 0, none⟩ : Addr).add j) = some u := fun j u hu => by
      have h1 := hl.cells (g := g) rfl j u hu
      have hadd : (⟨g, 0, none⟩ : Addr).add j = ⟨g, j, none⟩ := by unfold Addr.add; split <;> simp_all
      rw [hadd] at h1 ⊢
      rw [hb0.cell (p := ⟨g, j, none⟩) (World.block_lt_of_cell? w _ h1)]
      exact h1
    obtain ⟨v', w', hr, h2, h3, _⟩ := run_append_own (P := Tryd.prog) (w.alloc (.cells #[] 180)) w.heap.size 94 94 180 i0 _ 3 24 Tryd.underlying94 hi hz0 hz1 hz2 rfl (by decide) _ 0 [] hm0 ⟨g, 0, none⟩ n lc (lgc21 L) (by rw [lgc21_len, hn.out]) hcells (lgc21_one L) (by unfold maxLen; omega) (by omega) (by simp)
    rw [Nat.zero_add, List.nil_append] at h2
    obtain ⟨ra, rc, rfl⟩ : ∃ ra rc, v' = .slice ra n rc := by
      rcases h2.2 with ⟨rfl, h0⟩ | ⟨g', cp, cur, rfl, _⟩
      · exact ⟨none, 0, by rw [h0]⟩
      · exact ⟨_, _, rfl⟩
    have hb1 : Below w.heap.size w w' := hb0.trans ((Kp.grown (S := fun k => w.heap.size ≤ k) h3 (fun i e => by simp [Value.ownBlock] at e; omega)).below (fun i e => e) (by simp))
    have HR : Hid ((Builtin.append_ #[94, 94] 94 #[.slice (some ⟨w.heap.size, 0, none⟩) 0 0, .slice (some ⟨g, 0, none⟩) n lc]).run Tryd.prog (w.alloc (.cells #[] 180)) = .ok (.slice ra n rc) w') := hr
    have HE := fun c => Go.Lib.run_eql_slice_nil (P := Tryd.prog) w 94 180 (some ⟨g, 0, none⟩) n c 0 0 Tryd.underlying94
    clear hr hcells hm0 hl hn
    go_enter Tryd.func117, Tryd.ntmps117
    go_wp2_with (first
      | (at_builtin; refine wpList_apr21 rfl (.tmp 5) (.tmp 6) 94 rfl rfl rfl HR.out ?_))
    go_ret
    exact ⟨⟨ra, rc, rfl, h2⟩, hb1⟩
set_option maxRecDepth 100000 in
set_option maxHeartbeats 2000000 in
theorem plog21 {w : World} {b : Nat} {F : Nat → Prop} {S : Fs21} (hF : Fl21 w b F S) (hO : Ok21 S) (hlg : S.lg.length ≤ 5500000002000) :
    Calls Tryd.prog 99 #[.pointer (some ⟨b, 0, none⟩)] w fun e w' => (∃ ra rc, e = .returned (.slice ra S.lg.length rc) ∧ w'.ownsRow w.heap.size 180 3 (.slice ra S.lg.length rc) S.lg.length (lgc21 S.lg)) ∧ Below w.heap.size w w' := by
  obtain ⟨c0, c1, c2, c3, c4, cf⟩ := hF.cells
  have HM := pmade21 b S.pg w c0 hO.pg.1
  obtain ⟨m, c, f, ta, tc, la, lc, V, h1, _⟩ := hF
  have c8 := h1.cel (i := 8) rfl
  have HC := pclop21 la S.lg.length lc S.lg rfl w h1.hl hlg
  clear h1 cf c0 c1 c2 c4 c3
  go_enter Tryd.func99, Tryd.ntmps99
  go_wp2_with fail
  refine HM.mono ?_
  rintro e w1 ⟨rfl, hw⟩
  subst w1
  go_wp2_with fail
  refine HC.mono ?_
  rintro e w2 ⟨⟨ra, rc, rfl, h2⟩, b2⟩
  go_wp2_with fail
  go_ret
  exact ⟨⟨ra, rc, rfl, h2⟩, b2⟩
end Go.Proofs.YtmjlpfmacblcpaaDoor
