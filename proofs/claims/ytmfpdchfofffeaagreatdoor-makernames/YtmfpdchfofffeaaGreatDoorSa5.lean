import Derived.Test.YtmfpdchfofffeaaGreatDoorSa4
import Derived.Deep.RegionWith
namespace Go.Proofs.YtmfpdchfofffeaaGreatDoor
open Go.RowKit
set_option linter.unusedVariables false
def mx12 (s : List Int) : Nat := s.foldl (fun k v => max k (v + 1).toNat) 0
theorem mx12_snoc (s : List Int) (v : Int) : mx12 (s ++ [v]) = max (mx12 s) (v + 1).toNat := by simp [mx12, List.foldl_append]
theorem mx12_le_aux : ∀ (s : List Int) (k m : Nat), k ≤ m → (∀ z ∈ s, z < (m : Int)) → s.foldl (fun k v => max k (v + 1).toNat) k ≤ m
  | [], k, m, h, _ => h
  | x :: s, k, m, h, hs => mx12_le_aux s _ m (by have := hs x (by simp); show max k (x + 1).toNat ≤ m; omega) (fun z hz => hs z (by simp [hz]))
theorem mx12_le {s : List Int} {m : Nat} (hs : ∀ z ∈ s, z < (m : Int)) : mx12 s ≤ m := mx12_le_aux s 0 m (Nat.zero_le _) hs
theorem mx12_ge_aux : ∀ (s : List Int) (k : Nat), k ≤ s.foldl (fun k v => max k (v + 1).toNat) k ∧ ∀ z ∈ s, z < ((s.foldl (fun k v => max k (v + 1).toNat) k : Nat) : Int)
  | [], k => ⟨Nat.le_refl _, by simp⟩
  | x :: s, k => by
    obtain ⟨h1, h2⟩ := mx12_ge_aux s (max k (x + 1).toNat)
    refine ⟨by simp only [List.foldl_cons]; omega, fun z hz => ?_⟩
    rw [List.mem_cons] at hz
    rcases hz with rfl | hz
    · simp only [List.foldl_cons]; omega
    · exact h2 z hz
theorem mx12_gt {s : List Int} : ∀ z ∈ s, z < (mx12 s : Int) := (mx12_ge_aux s 0).2
/-- What a list of numbers must be. -/
structure Wf12 (s : List Int) (n K : Nat) : Prop where
  len : s.length = n
  n24 : n ≤ 16777216
  K25 : K ≤ 33554432
  val : ∀ i, i < n → 0 ≤ s.getD i 0 ∧ s.getD i 0 < (K : Int)
theorem Wf12.mem {s : List Int} {n K : Nat} (h : Wf12 s n K) : ∀ z ∈ s, 0 ≤ z ∧ z < (K : Int) := by
  intro z hz
  obtain ⟨i, hi, rfl⟩ := List.mem_iff_getElem.1 hz
  have := h.val i (by rw [← h.len]; exact hi)
  simpa [List.getD, hi] using this
theorem Wf12.mx {s : List Int} {n K : Nat} (h : Wf12 s n K) : Wf12 s n (mx12 s) :=
  ⟨h.len, h.n24, by have := mx12_le (s := s) (m := K) (fun z hz => (h.mem z hz).2); have := h.K25; omega, fun i hi => ⟨(h.val i hi).1, by
    have : s.getD i 0 ∈ s := by
      have hl : i < s.length := by rw [h.len]; exact hi
      have : s.getD i 0 = s[i] := by simp [List.getD, hl]
      rw [this]; exact List.getElem_mem hl
    exact mx12_gt _ this⟩⟩
/-- A list in block b. -/
structure Li12 (w : World) (b : Nat) (a : Option Addr) (n cap : Nat) (s : List Int) (K gs gf gn : Nat) (nx : List Int) : Prop where
  hp : w.heap[b]? = some (.cells #[.slice a n cap, .slice (some ⟨gs, 0, none⟩) n n, .slice (some ⟨gf, 0, none⟩) (K + 1) (K + 1), .slice (some ⟨gn, 0, none⟩) K K] 285 (0, 0))
  seg : SegZ w a s
  sm : Rb12 w gs (typ12 s)
  fr : Rz12 w gf (bnd12 K s)
  nr : Rz12 w gn nx
  nxl : nx.length = K
  d1 : b ≠ gn
  d2 : gs ≠ gn
  d3 : gf ≠ gn
  d4 : ∀ x off, a = some ⟨x, off, none⟩ → 0 < s.length → x ≠ gn
theorem Li12.of {w : World} {a : Option Addr} {n cap : Nat} {s : List Int} {K gs gf gn : Nat} {nx : List Int} (hs : SegZ w a s) (h1 : Rb12 w gs (typ12 s)) (h2 : Rz12 w gf (bnd12 K s)) (h3 : Rz12 w gn nx) (hl : nx.length = K) (d2 : gs ≠ gn) (d3 : gf ≠ gn) (d4 : ∀ x off, a = some ⟨x, off, none⟩ → 0 < s.length → x ≠ gn) :
    Li12 (w.alloc (.cells #[.slice a n cap, .slice (some ⟨gs, 0, none⟩) n n, .slice (some ⟨gf, 0, none⟩) (K + 1) (K + 1), .slice (some ⟨gn, 0, none⟩) K K] 285)) w.heap.size a n cap s K gs gf gn nx :=
  have hb : Below w.heap.size w (w.alloc (.cells #[.slice a n cap, .slice (some ⟨gs, 0, none⟩) n n, .slice (some ⟨gf, 0, none⟩) (K + 1) (K + 1), .slice (some ⟨gn, 0, none⟩) K K] 285)) := (Below.refl _ _).alloc (Nat.le_refl _) _
  ⟨heap_alloc_new w _, hs.alloc _, h1.old hb, h2.old hb, h3.old hb, hl, by have := h3.lt; omega, d2, d3, d4⟩
set_option maxRecDepth 100000 in
set_option maxHeartbeats 4000000 in
theorem pnl12 (a : Option Addr) (s : List Int) (n cap M : Nat) (w : World) (hs : SegZ w a s) (hW : Wf12 s n M) :
    Calls Tryz.prog 163 #[.slice a n cap] w fun e w' => ∃ b gs gf gn, e = .returned (.pointer (some ⟨b, 0, none⟩)) ∧ Li12 w' b a n cap s (mx12 s) gs gf gn (List.replicate (mx12 s) 0) ∧ w.heap.size ≤ gn ∧ Below w.heap.size w w' := by
  have hn : Hid (s.length = n) := hW.len
  have hb := hW.n24
  have HV := hW.mx
  have hK := HV.K25
  have HT : Hid (∀ w', Below w.heap.size w w' → Calls Tryz.prog 191 #[.slice a n cap] w' fun e w2 => e = .returned (.slice (some ⟨w'.heap.size, 0, none⟩) n n) ∧ Rb12 w2 w'.heap.size (typ12 s) ∧ Below w'.heap.size w' w2) :=
    fun w' h => ptyp12 a s n cap w' (hs.old h) hn (by omega)
  have HBN : Hid (∀ w', Below w.heap.size w w' → Calls Tryz.prog 192 #[.int .i64 (mx12 s : Int), .slice a n cap] w' fun e w2 => e = .returned (.slice (some ⟨w'.heap.size, 0, none⟩) (mx12 s + 1) (mx12 s + 1)) ∧ Rz12 w2 w'.heap.size (bnd12 (mx12 s) s) ∧ Below w'.heap.size w' w2) :=
    fun w' h => pbnd12 (mx12 s) a s n cap w' (hs.old h) hn hb hK HV.val
  have HM := run_make_i12 (mx12 s) (by omega)
  have HL : Hid (∀ i, i < n → mx12 (s.take (i + 1)) = max (mx12 (s.take i)) (s.getD i 0 + 1).toNat) := by
    intro i hi
    rw [take_snocZ (by rw [hn.out]; exact hi), mx12_snoc]
  have HE : Hid (mx12 (s.take n) = mx12 s) := by show _ = _; rw [List.take_of_length_le (by rw [hn.out]; omega)]
  have HK : Hid (∀ i, mx12 (s.take i) ≤ 33554432) := by
    intro i
    have := mx12_le (s := s.take i) (m := M) (fun z hz => (hW.mem z (List.mem_of_mem_take hz)).2)
    have := hW.K25
    omega
  have HVAL : Hid (∀ i, i < n → 0 ≤ s.getD i 0 ∧ s.getD i 0 < 33554432) := fun i hi => by have := hW.val i hi; have := hW.K25; omega
  have HD4 : Hid (∀ x off, a = some ⟨x, off, none⟩ → 0 < s.length → x < w.heap.size) := hs.lt
  clear hW HV
  go_enter Tryz.func163, Tryz.ntmps163
  go_wp2
  go_loopw [3, 8] (fun tk ti wr => ∃ i k : Nat, i ≤ n ∧ ti = .int .i64 i ∧ tk = .int .i64 k ∧ Hid (k = mx12 (s.take i)) ∧ wr = w) (fun _ ti _ => n - (intOf ti).toNat)
  case atStart => exact ⟨0, 0, Nat.zero_le _, rfl, rfl, (by simp [mx12] : _ = _), rfl⟩
  case round =>
    obtain ⟨i, k, hi, rfl, rfl, HI, rfl⟩ := hrel
    by_cases h1 : i < n
    · have h1i : (i : Int) < (n : Int) := by omega
      obtain ⟨bb, off, rfl, c1⟩ := hs.at_ i (by rw [hn.out]; exact h1)
      have hv := HVAL.out i h1
      have HI2 := HL.out i h1
      have HI3 : Hid (mx12 (s.take (i + 1)) = max k (s.getD i 0 + 1).toNat) := by show _ = _; rw [HI2, HI.out]
      have hk2 : (k : Int) ≤ 33554432 := by have := HK.out i; have := HI.out; omega
      clear HI2 HM
      generalize s.getD i 0 = v at *
      by_cases hkv : (k : Int) < v + 1
      · go_wp2
        go_roundw
        case rel => exact ⟨i + 1, (v + 1).toNat, by omega, by go_num, by go_num, (by rw [HI3.out]; omega : _ = _), trivial⟩
        case measure => simp [intOf]; omega
      · go_wp2
        go_roundw
        case rel => exact ⟨i + 1, k, by omega, by go_num, by go_num, (by rw [HI3.out]; omega : _ = _), trivial⟩
        case measure => simp [intOf]; omega
    · have h1i : ¬ (i : Int) < (n : Int) := by omega
      obtain rfl : i = n := by omega
      have HI2 := HI.out
      rw [HE.out] at HI2
      subst HI2
      generalize hKe : mx12 s = K at *
      have HKE : Hid (mx12 s = K) := hKe
      clear hKe
      have Bc : Below wr.heap.size wr wr.drew := (Below.refl _ _).drew
      clear HI HK HL HE
      go_wp2_with fail
      go_region_with (first
        | (go_at_call 191; refine (HT.out _ (by first | exact Bc | exact Bc.alloc Bc.size _ | exact BcB | exact BcB.alloc BcB.size _)).mono ?_; rintro e wT ⟨rfl, RT, BT⟩; have BcT : Below wr.heap.size wr wT := (by first | exact Bc.trans (BT.mono Bc.size) | exact (Bc.alloc Bc.size _).trans (BT.mono (Bc.alloc Bc.size _).size) | exact BcB.trans (BT.mono BcB.size) | exact (BcB.alloc BcB.size _).trans (BT.mono (BcB.alloc BcB.size _).size)))
        | (go_at_call 192; refine (HBN.out _ (by first | exact Bc | exact Bc.alloc Bc.size _ | exact BcT | exact BcT.alloc BcT.size _)).mono ?_; rintro e wB ⟨rfl, RB, BB⟩; have BcB : Below wr.heap.size wr wB := (by first | exact Bc.trans (BB.mono Bc.size) | exact (Bc.alloc Bc.size _).trans (BB.mono (Bc.alloc Bc.size _).size) | exact BcT.trans (BB.mono BcT.size) | exact (BcT.alloc BcT.size _).trans (BB.mono (BcT.alloc BcT.size _).size))))
      · have q1 : Below wB.heap.size wB (wB.alloc (.cells (vi12 (List.replicate K 0)) 3)) := (Below.refl _ _).alloc (Nat.le_refl _) _
        have e0 : wr.drew.heap.size = wr.heap.size := rfl
        have l1 := RT.lt
        have l2 := RB.lt
        have l3 := BT.size
        have l4 := BB.size
        have HF := Li12.of (n := i) (cap := cap) ((hs.old BcB).alloc _) ((RT.old BB).old q1) (RB.old q1) (Rz12.new wB (List.replicate K 0)) (by simp) (by omega) (by omega) (fun x off h1 h2 => by have := HD4.out x off h1 h2; omega)
        have HB : Hid (Below wr.heap.size wr (wB.alloc (.cells (vi12 (List.replicate K 0)) 3)) ∧ wr.heap.size ≤ wB.heap.size) := ⟨BcB.trans (q1.mono BcB.size), BcB.size⟩
        have e2 : (wB.alloc (.cells (vi12 (List.replicate K 0)) 3)).heap.size = wB.heap.size + 1 := by simp
        rw [e0, e2] at HF
        clear q1 RT RB BT BB BcT BcB l1 l2 l3 l4 e2
        go_wp2
        go_ret
        rw [HKE.out]
        exact ⟨_, _, _, _, rfl, HF, HB.out.2, HB.out.1.alloc HB.out.1.size _⟩
      · have q1 : Below wT.heap.size wT (wT.alloc (.cells (vi12 (List.replicate K 0)) 3)) := (Below.refl _ _).alloc (Nat.le_refl _) _
        have e0 : wr.drew.heap.size = wr.heap.size := rfl
        have e1 : (wT.alloc (.cells (vi12 (List.replicate K 0)) 3)).heap.size = wT.heap.size + 1 := by simp
        have l1 := RT.lt
        have l2 := RB.lt
        have l3 := BT.size
        have l4 := BB.size
        have HF := Li12.of (n := i) (cap := cap) (hs.old BcB) ((RT.old q1).old BB) RB ((Rz12.new wT (List.replicate K 0)).old BB) (by simp) (by omega) (by omega) (fun x off h1 h2 => by have := HD4.out x off h1 h2; omega)
        have HB : Hid (Below wr.heap.size wr wB ∧ wr.heap.size ≤ wT.heap.size) := ⟨BcB, BcT.size⟩
        rw [e0, e1] at HF
        clear q1 RT RB BT BB BcT BcB l1 l2 l3 l4 e1
        go_wp2
        go_ret
        rw [HKE.out]
        exact ⟨_, _, _, _, rfl, HF, HB.out.2, HB.out.1.alloc HB.out.1.size _⟩
      · have q1 : Below wr.heap.size wr (wr.alloc (.cells (vi12 (List.replicate K 0)) 3)) := (Below.refl _ _).alloc (Nat.le_refl _) _
        have e1 : (wr.alloc (.cells (vi12 (List.replicate K 0)) 3)).drew.heap.size = wr.heap.size + 1 := by show (wr.alloc _).heap.size = _; simp
        have l1 := RT.lt
        have l2 := RB.lt
        have l3 := BT.size
        have l4 := BB.size
        have HF := Li12.of (n := i) (cap := cap) (hs.old BcB) (RT.old BB) RB (((Rz12.new wr (List.replicate K 0)).drew.old BT).old BB) (by simp) (by omega) (by omega) (fun x off h1 h2 => by have := HD4.out x off h1 h2; omega)
        have HB : Hid (Below wr.heap.size wr wB) := BcB
        rw [e1] at HF
        clear q1 RT RB BT BB BcT BcB l1 l2 l3 l4 e1
        go_wp2
        go_ret
        rw [HKE.out]
        exact ⟨_, _, _, _, rfl, HF, Nat.le_refl _, HB.out.alloc HB.out.size _⟩
end Go.Proofs.YtmfpdchfofffeaaGreatDoor
