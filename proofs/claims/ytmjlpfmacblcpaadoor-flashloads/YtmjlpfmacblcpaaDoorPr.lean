import Derived.Test.YtmjlpfmacblcpaaDoorPj
import Derived.Test.YtmjlpfmacblcpaaDoorPh
import Derived.Test.YtmjlpfmacblcpaaDoorPq
import Derived.Deep.CutRange
namespace Go.Proofs.YtmjlpfmacblcpaaDoor
open Go.RowKit Go.Shelf
set_option linter.unusedVariables false
set_option linter.unusedSimpArgs false
set_option maxRecDepth 100000 in
theorem rmore21 (zs : List Int) (a : Option Addr) (n cap : Nat) (w : World) (hs : Seg w a zs) (hn : Hid (zs.length = n)) (hl : n ≤ 9223372036854775807) :
    Calls Tryd.prog 91 #[.int .u32 0, .slice a n cap] w fun e w' => e = .returned (.int .u32 (wI (sumW zs))) ∧ w' = w := by
  have e0 := hn.out
  subst e0
  have hsg := u32_unsigned
  have h0 := wI_not 0#32
  rw [show wI 0#32 = 0 from rfl] at h0
  have hn2 := wI_not (runW (~~~ 0#32) zs)
  have e1 : sumW zs = ~~~ (runW (~~~ 0#32) zs) := rfl
  rw [show (~~~ 0#32 : W32) = 4294967295#32 from rfl] at h0 hn2 e1
  rw [e1]
  go_enter Tryd.func91, Tryd.ntmps91
  go_wp2_with (go_at_call 114; refine (run_any _ _ _ _ _ hs hl).mono ?_; rintro e w' ⟨rfl, hw'⟩; subst w')
  go_ret
  exact ⟨rfl, rfl⟩
theorem Rf21.pgl {w : World} {b : Nat} {g c : Nat → Nat} {A : Nat → List Pd21} {tn : List Int} {ta : Option Addr} {tc : Nat} {la : Option Addr} {lc : Nat} {V : Nat → Prop} {S : Fs21} (h : Rf21 w b g c A tn ta tc la lc V S) {x y : Nat} (hx : x < 3) (hy : y < (A x).length) :
    w.cell? ⟨g x, y * 3, none⟩ = some (.slice (some ⟨((A x)[y]'hy).k, ((A x)[y]'hy).off, none⟩) (fb21 S (x : Int) (y : Int)).length ((A x)[y]'hy).c) ∧ w.cell? ⟨g x, y * 3 + 1, none⟩ = some (.bool (sh21 S (x : Int) (y : Int)).er) ∧ w.cell? ⟨g x, y * 3 + 2, none⟩ = some (.int .i64 (sh21 S (x : Int) (y : Int)).wr) ∧ Seg w (some ⟨((A x)[y]'hy).k, ((A x)[y]'hy).off, none⟩) (fb21 S (x : Int) (y : Int)) := by
  have hd := List.getElem?_eq_getElem hy
  obtain ⟨q1, q2, q3, q4, q5, q6⟩ := h.hd x y _ hx hd
  obtain ⟨p1, p2, p3⟩ := h.pgc hx hd
  exact ⟨by rw [← q3]; exact p1, by rw [← q4]; exact p2, by rw [← q5]; exact p3, by rw [← q3]; exact q1⟩
theorem run_convm21 {P : Program} (w : World) (t e : TypeId) (C : Array Value) (n c g : Nat) (hg : w.heap[g]? = some (.cells C e (0, 0))) (ht : P.underlying t = some (.slice e)) (he : P.underlying e = some (.int .u8)) :
    ∃ w', (convert t t (.slice (some ⟨g, 0, none⟩) n c)).run P w = .ok (.slice (some ⟨g, 0, none⟩) n c) w' ∧ w'.heap[g]? = some (.cells C e (C.size, C.size + 1)) ∧ Kp (fun k => k = g) w w' := by
  have hsh : w.shape? g = some (e, C.size) := by unfold World.shape?; rw [hg]
  refine ⟨w.freeze ⟨g, C.size, none⟩ 1, by simp [convert, run_underlying ht, run_underlying he, markStringish, hsh], ?_, ?_⟩
  · unfold World.freeze
    rw [if_neg (by decide)]
    simp [Array.getElem?_modify, hg]
  · unfold World.freeze
    rw [if_neg (by decide)]
    refine ⟨rfl, rfl, rfl, by simp, fun k hk hq => ?_⟩
    have : ¬ g = k := fun q => hq q.symm
    simp [Array.getElem?_modify, this]
theorem seg_kp21 {V V' : World} {p : Option Addr} {L : List Int} (h : Seg V p L) {Q : Nat → Prop} (hk : Kp Q V V') (hq : ∀ x, p = some x → ¬ Q x.block) : Seg V' p L := by
  refine h.of_cells fun b' off i v hi he hc => ?_
  have lk := World.block_lt_of_cell? _ _ hc
  rw [World.cell?_of_block (a := ⟨b', off + i, none⟩) (hk.block b' lk (hq _ he))]
  exact hc
theorem magic_seg21 {V : World} {k : Nat} {fr : Nat × Nat} (h : V.heap[k]? = some (.cells #[.int .u8 70, .int .u8 76, .int .u8 83, .int .u8 72, .int .u8 1] 5 fr)) : Seg V (some ⟨k, 0, none⟩) mg21 := by
  refine ⟨fun i hi => ⟨k, 0, rfl, ?_⟩, by decide, getD_bd (by decide) (by decide)⟩
  simp only [World.cell?, h]
  simp only [mg21, List.length_cons, List.length_nil] at hi
  rcases (show i = 0 ∨ i = 1 ∨ i = 2 ∨ i = 3 ∨ i = 4 by omega) with rfl | rfl | rfl | rfl | rfl <;> rfl
theorem seg64_blk21 {V : World} {k : Nat} {x0 x1 x2 x3 : Int} (h : V.heap[k]? = some (.cells #[.int .u64 x0, .int .u64 x1, .int .u64 x2, .int .u64 x3] 99 (0, 0))) (hb : ∀ z ∈ [x0, x1, x2, x3], 0 ≤ z ∧ z ≤ 18446744073709551615) : Seg64 V (some ⟨k, 0, none⟩) [x0, x1, x2, x3] := by
  refine ⟨fun i hi => ⟨k, 0, rfl, ?_⟩, by decide, getD_bd (by decide) hb⟩
  simp only [World.cell?, h]
  simp only [List.length_cons, List.length_nil] at hi
  rcases (show i = 0 ∨ i = 1 ∨ i = 2 ∨ i = 3 by omega) with rfl | rfl | rfl | rfl <;> rfl
set_option maxRecDepth 100000 in
set_option maxHeartbeats 16000000 in
theorem rsave21 {w : World} {b : Nat} {G : Nat → Prop} {S : Fs21} (hF : Rl21d w b G S) (hO : Ok21 S) (hby : By21 S) : Calls Tryd.prog 44 #[.pointer (some ⟨b, 0, none⟩)] w fun e w' => SvQ21 w S e w' := by
  obtain ⟨g, c, A, tn, ta, tc, la, lc, V, hR, -, -, -, -, -⟩ := hF
  have HF : Hid (∀ W, Below w.heap.size w W → Rf21 W b g c A tn ta tc la lc V S) := fun W hW => hR.old hW
  have HO : Hid (Ok21 S) := hO
  have HBY : Hid (By21 S) := hby
  have c7 := hR.cel (i := 7) rfl
  clear hby
  cases hon : S.on
  · rw [hon] at c7
    have HON : Hid (S.on = false) := hon
    clear hon hR
    go_enter Tryd.func44, Tryd.ntmps44
    go_wp2_with fail
    go_ret2
    exact ⟨.inl ⟨HON.out, rfl⟩, Below.refl _ _⟩
  · rw [hon] at c7
    have HON : Hid (S.on = true) := hon
    clear hon
    have c0 := hR.cel (i := 0) rfl
    have c1 := hR.cel (i := 1) rfl
    have c2 := hR.cel (i := 2) rfl
    have c10 := hR.cel (i := 10) rfl
    clear hR
    have hc : ∀ V, Below w.heap.size w V → V.cell? ⟨b, 0, none⟩ = some (.int .i64 (S.pg : Int)) ∧ V.cell? ⟨b, 1, none⟩ = some (.int .i64 (S.ps : Int)) ∧ V.cell? ⟨b, 2, none⟩ = some (.int .i64 S.ac) ∧ V.cell? ⟨b, 10, none⟩ = some (.int .i64 S.lm) := fun V hV => ⟨cel21 hV c0, cel21 hV c1, cel21 hV c2, cel21 hV c10⟩
    have HC : Hid (∀ V, Below w.heap.size w V → V.cell? ⟨b, 0, none⟩ = some (.int .i64 (S.pg : Int)) ∧ V.cell? ⟨b, 1, none⟩ = some (.int .i64 (S.ps : Int)) ∧ V.cell? ⟨b, 2, none⟩ = some (.int .i64 S.ac) ∧ V.cell? ⟨b, 10, none⟩ = some (.int .i64 S.lm)) := hc
    obtain ⟨pg, hpg⟩ : ∃ x : Int, x = (S.pg : Int) := ⟨_, rfl⟩
    obtain ⟨ps, hps⟩ : ∃ x : Int, x = (S.ps : Int) := ⟨_, rfl⟩
    obtain ⟨ac, hac⟩ : ∃ x : Int, x = S.ac := ⟨_, rfl⟩
    obtain ⟨lm, hlm⟩ : ∃ x : Int, x = S.lm := ⟨_, rfl⟩
    have hbd := nm21_bd hO
    have HNM : Hid (nm21 S = [pg, ps, ac, lm]) := by rw [hpg, hps, hac, hlm]; rfl
    rw [HNM.out] at hbd
    have u0 : IntKind.u64.wrap pg = pg := IntWalk.u64_in _ (by have := hbd pg (by simp); omega)
    have u1 : IntKind.u64.wrap ps = ps := IntWalk.u64_in _ (by have := hbd ps (by simp); omega)
    have u2 : IntKind.u64.wrap ac = ac := IntWalk.u64_in _ (by have := hbd ac (by simp); omega)
    have u3 : IntKind.u64.wrap lm = lm := IntWalk.u64_in _ (by have := hbd lm (by simp); omega)
    rw [← hpg, ← hps, ← hac, ← hlm] at HC
    have HBD : Hid (∀ z ∈ [pg, ps, ac, lm], 0 ≤ z ∧ z ≤ 18446744073709551615) := hbd
    clear hc c0 c1 c2 c10 hpg hps hac hlm hbd hO
    go_enter Tryd.func44, Tryd.ntmps44
    go_upto_region 3 with fail
    clear c7
    obtain ⟨v0, hv0⟩ : ∃ v, v = w.drew := ⟨_, rfl⟩
    have HV0 : Hid (w.drew = v0) := hv0.symm
    have b0 : Below w.heap.size w v0 := by rw [hv0]; exact (Below.refl _ _).drew
    obtain ⟨N, hN⟩ : ∃ v, v = w.heap.size := ⟨_, rfl⟩
    have HN0 : Hid (w.heap.size = N) := hN.symm
    have NL : Hid (∀ V, Below N w V → N ≤ V.heap.size) := fun V h => by rw [hN]; exact h.size
    rw [← hN] at HF HC b0
    have B0 : Hid (Below N w v0) := b0
    clear hv0 hN b0
    obtain ⟨H0, hH0⟩ : ∃ l, l = hdb21 S := ⟨_, rfl⟩
    have HH0 : Hid (H0 = hdb21 S) := hH0
    have HME : Hid (H0 = mg21 ++ encA (nm21 S)) := hH0
    have HEL : Hid ((encA (nm21 S)).length ≤ 40 ∧ 4 ≤ (encA (nm21 S)).length) := by have := encA_len (nm21 S); rw [show (nm21 S).length = 4 from rfl] at this; exact ⟨by omega, by omega⟩
    have HS64 : Hid (∀ (V : World) (k : Nat), V.heap[k]? = some (.cells #[.int .u64 pg, .int .u64 ps, .int .u64 ac, .int .u64 lm] 99 (0, 0)) → Seg64 V (some ⟨k, 0, none⟩) (nm21 S)) := fun V k h => by rw [HNM.out]; exact seg64_blk21 h HBD.out
    clear hH0
    go_cut [4] from 14 to 38 (fun s4 wc => ∃ (p : Option Addr) (c : Nat), s4 = .slice p H0.length c ∧ wc.ownsRow N 5 1 (.slice p H0.length c) H0.length (H0.map (Value.int .u8)) ∧ Below N w wc)
    case first =>
      refine plain_region16 (fun V => V.cell? ⟨b, 0, none⟩ = some (.int .i64 pg) ∧ V.cell? ⟨b, 1, none⟩ = some (.int .i64 ps) ∧ V.cell? ⟨b, 2, none⟩ = some (.int .i64 ac) ∧ V.cell? ⟨b, 10, none⟩ = some (.int .i64 lm)) 26 (by kernel_rfl) (by rw [HV0.out]; exact HC.out v0 B0.out) (fun hHeld => ?_)
      rw [HV0.out] at hHeld ⊢
      refine wpAnyK_take (i := 2) (v := .pointer (some ⟨b, 0, none⟩)) rfl (by kernel_rfl) (by kernel_rfl) (by kernel_rfl) (by kernel_rfl) (fun _ _ _ h => h) (Or.inl ⟨by rfl, fun w hSw => by go_simp⟩) hHeld ?_
      simp only [List.getElem_toArray, List.getElem_cons_zero, List.getElem_cons_succ, Act.put, List.setIfInBounds_toArray, List.set_cons_zero, List.set_cons_succ]
      refine wpAnyK_take (i := 3) (v := .pointer (some ⟨b, 0, none⟩)) rfl (by kernel_rfl) (by kernel_rfl) (by kernel_rfl) (by kernel_rfl) (fun _ _ _ h => h) (Or.inl ⟨by rfl, fun w hSw => by go_simp⟩) hHeld ?_
      simp only [List.getElem_toArray, List.getElem_cons_zero, List.getElem_cons_succ, Act.put, List.setIfInBounds_toArray, List.set_cons_zero, List.set_cons_succ]
      refine wpAnyK_take (i := 4) (v := .pointer (some ⟨b, 0, none⟩)) rfl (by kernel_rfl) (by kernel_rfl) (by kernel_rfl) (by kernel_rfl) (fun _ _ _ h => h) (Or.inl ⟨by rfl, fun w hSw => by go_simp⟩) hHeld ?_
      simp only [List.getElem_toArray, List.getElem_cons_zero, List.getElem_cons_succ, Act.put, List.setIfInBounds_toArray, List.set_cons_zero, List.set_cons_succ]
      refine wpAnyK_take (i := 5) (v := .int .i64 pg) rfl (by kernel_rfl) (by kernel_rfl) (by kernel_rfl) (by kernel_rfl) (fun _ _ _ h => h) (Or.inl ⟨by rfl, fun w hSw => by go_simp⟩) hHeld ?_
      simp only [List.getElem_toArray, List.getElem_cons_zero, List.getElem_cons_succ, Act.put, List.setIfInBounds_toArray, List.set_cons_zero, List.set_cons_succ]
      refine wpAnyK_take (i := 6) (v := .int .u64 pg) rfl (by kernel_rfl) (by kernel_rfl) (by kernel_rfl) (by kernel_rfl) (fun _ _ _ h => h) (Or.inl ⟨by rfl, fun w hSw => by go_simp⟩) hHeld ?_
      simp only [List.getElem_toArray, List.getElem_cons_zero, List.getElem_cons_succ, Act.put, List.setIfInBounds_toArray, List.set_cons_zero, List.set_cons_succ]
      refine wpAnyK_take (i := 7) (v := .pointer (some ⟨b, 0, none⟩)) rfl (by kernel_rfl) (by kernel_rfl) (by kernel_rfl) (by kernel_rfl) (fun _ _ _ h => h) (Or.inl ⟨by rfl, fun w hSw => by go_simp⟩) hHeld ?_
      simp only [List.getElem_toArray, List.getElem_cons_zero, List.getElem_cons_succ, Act.put, List.setIfInBounds_toArray, List.set_cons_zero, List.set_cons_succ]
      refine wpAnyK_take (i := 8) (v := .pointer (some ⟨b, 0, none⟩)) rfl (by kernel_rfl) (by kernel_rfl) (by kernel_rfl) (by kernel_rfl) (fun _ _ _ h => h) (Or.inl ⟨by rfl, fun w hSw => by go_simp⟩) hHeld ?_
      simp only [List.getElem_toArray, List.getElem_cons_zero, List.getElem_cons_succ, Act.put, List.setIfInBounds_toArray, List.set_cons_zero, List.set_cons_succ]
      refine wpAnyK_take (i := 9) (v := .pointer (some ⟨b, 1, none⟩)) rfl (by kernel_rfl) (by kernel_rfl) (by kernel_rfl) (by kernel_rfl) (fun _ _ _ h => h) (Or.inl ⟨by rfl, fun w hSw => by go_simp⟩) hHeld ?_
      simp only [List.getElem_toArray, List.getElem_cons_zero, List.getElem_cons_succ, Act.put, List.setIfInBounds_toArray, List.set_cons_zero, List.set_cons_succ]
      refine wpAnyK_take (i := 10) (v := .int .i64 ps) rfl (by kernel_rfl) (by kernel_rfl) (by kernel_rfl) (by kernel_rfl) (fun _ _ _ h => h) (Or.inl ⟨by rfl, fun w hSw => by go_simp⟩) hHeld ?_
      simp only [List.getElem_toArray, List.getElem_cons_zero, List.getElem_cons_succ, Act.put, List.setIfInBounds_toArray, List.set_cons_zero, List.set_cons_succ]
      refine wpAnyK_take (i := 11) (v := .int .u64 ps) rfl (by kernel_rfl) (by kernel_rfl) (by kernel_rfl) (by kernel_rfl) (fun _ _ _ h => h) (Or.inl ⟨by rfl, fun w hSw => by go_simp⟩) hHeld ?_
      simp only [List.getElem_toArray, List.getElem_cons_zero, List.getElem_cons_succ, Act.put, List.setIfInBounds_toArray, List.set_cons_zero, List.set_cons_succ]
      refine wpAnyK_take (i := 12) (v := .pointer (some ⟨b, 0, none⟩)) rfl (by kernel_rfl) (by kernel_rfl) (by kernel_rfl) (by kernel_rfl) (fun _ _ _ h => h) (Or.inl ⟨by rfl, fun w hSw => by go_simp⟩) hHeld ?_
      simp only [List.getElem_toArray, List.getElem_cons_zero, List.getElem_cons_succ, Act.put, List.setIfInBounds_toArray, List.set_cons_zero, List.set_cons_succ]
      refine wpAnyK_take (i := 13) (v := .pointer (some ⟨b, 0, none⟩)) rfl (by kernel_rfl) (by kernel_rfl) (by kernel_rfl) (by kernel_rfl) (fun _ _ _ h => h) (Or.inl ⟨by rfl, fun w hSw => by go_simp⟩) hHeld ?_
      simp only [List.getElem_toArray, List.getElem_cons_zero, List.getElem_cons_succ, Act.put, List.setIfInBounds_toArray, List.set_cons_zero, List.set_cons_succ]
      refine wpAnyK_take (i := 14) (v := .pointer (some ⟨b, 2, none⟩)) rfl (by kernel_rfl) (by kernel_rfl) (by kernel_rfl) (by kernel_rfl) (fun _ _ _ h => h) (Or.inl ⟨by rfl, fun w hSw => by go_simp⟩) hHeld ?_
      simp only [List.getElem_toArray, List.getElem_cons_zero, List.getElem_cons_succ, Act.put, List.setIfInBounds_toArray, List.set_cons_zero, List.set_cons_succ]
      refine wpAnyK_take (i := 15) (v := .int .i64 ac) rfl (by kernel_rfl) (by kernel_rfl) (by kernel_rfl) (by kernel_rfl) (fun _ _ _ h => h) (Or.inl ⟨by rfl, fun w hSw => by go_simp⟩) hHeld ?_
      simp only [List.getElem_toArray, List.getElem_cons_zero, List.getElem_cons_succ, Act.put, List.setIfInBounds_toArray, List.set_cons_zero, List.set_cons_succ]
      refine wpAnyK_take (i := 16) (v := .int .u64 ac) rfl (by kernel_rfl) (by kernel_rfl) (by kernel_rfl) (by kernel_rfl) (fun _ _ _ h => h) (Or.inl ⟨by rfl, fun w hSw => by go_simp⟩) hHeld ?_
      simp only [List.getElem_toArray, List.getElem_cons_zero, List.getElem_cons_succ, Act.put, List.setIfInBounds_toArray, List.set_cons_zero, List.set_cons_succ]
      refine wpAnyK_take (i := 17) (v := .pointer (some ⟨b, 0, none⟩)) rfl (by kernel_rfl) (by kernel_rfl) (by kernel_rfl) (by kernel_rfl) (fun _ _ _ h => h) (Or.inl ⟨by rfl, fun w hSw => by go_simp⟩) hHeld ?_
      simp only [List.getElem_toArray, List.getElem_cons_zero, List.getElem_cons_succ, Act.put, List.setIfInBounds_toArray, List.set_cons_zero, List.set_cons_succ]
      refine wpAnyK_take (i := 18) (v := .pointer (some ⟨b, 0, none⟩)) rfl (by kernel_rfl) (by kernel_rfl) (by kernel_rfl) (by kernel_rfl) (fun _ _ _ h => h) (Or.inl ⟨by rfl, fun w hSw => by go_simp⟩) hHeld ?_
      simp only [List.getElem_toArray, List.getElem_cons_zero, List.getElem_cons_succ, Act.put, List.setIfInBounds_toArray, List.set_cons_zero, List.set_cons_succ]
      refine wpAnyK_take (i := 19) (v := .pointer (some ⟨b, 10, none⟩)) rfl (by kernel_rfl) (by kernel_rfl) (by kernel_rfl) (by kernel_rfl) (fun _ _ _ h => h) (Or.inl ⟨by rfl, fun w hSw => by go_simp⟩) hHeld ?_
      simp only [List.getElem_toArray, List.getElem_cons_zero, List.getElem_cons_succ, Act.put, List.setIfInBounds_toArray, List.set_cons_zero, List.set_cons_succ]
      refine wpAnyK_take (i := 20) (v := .int .i64 lm) rfl (by kernel_rfl) (by kernel_rfl) (by kernel_rfl) (by kernel_rfl) (fun _ _ _ h => h) (Or.inl ⟨by rfl, fun w hSw => by go_simp⟩) hHeld ?_
      simp only [List.getElem_toArray, List.getElem_cons_zero, List.getElem_cons_succ, Act.put, List.setIfInBounds_toArray, List.set_cons_zero, List.set_cons_succ]
      refine wpAnyK_take (i := 21) (v := .int .u64 lm) rfl (by kernel_rfl) (by kernel_rfl) (by kernel_rfl) (by kernel_rfl) (fun _ _ _ h => h) (Or.inl ⟨by rfl, fun w hSw => by go_simp⟩) hHeld ?_
      simp only [List.getElem_toArray, List.getElem_cons_zero, List.getElem_cons_succ, Act.put, List.setIfInBounds_toArray, List.set_cons_zero, List.set_cons_succ]
      refine wpAnyK_two24 (i := 0) (j := 22) (by kernel_rfl) rfl rfl (fun K hK => ?_) (fun K hK => ?_)
      · skip
        (try simp only [List.getElem_toArray, List.getElem_cons_zero, Act.put, List.setIfInBounds_toArray, List.set_cons_zero, List.set_cons_succ])
        go_simp
        obtain ⟨v1, hv1⟩ : ∃ v, v = v0.alloc (.cells #[.int .u8 70, .int .u8 76, .int .u8 83, .int .u8 72, .int .u8 1] 5) := ⟨_, rfl⟩
        obtain ⟨kM1, hkM1⟩ : ∃ v, v = v0.heap.size := ⟨_, rfl⟩
        have B1 : Hid (Below v0.heap.size v0 v1) := by rw [hv1]; exact (Below.refl _ _).alloc (Nat.le_refl _) _
        have FA1 : Hid (v1.heap[kM1]? = some (.cells #[.int .u8 70, .int .u8 76, .int .u8 83, .int .u8 72, .int .u8 1] 5 (0, 0)) ∧ kM1 = v0.heap.size ∧ kM1 < v1.heap.size) := by rw [hv1, hkM1]; exact ⟨heap_alloc_new _ _, rfl, by simp⟩
        have L1 : Hid (Below N w v1) := B0.out.trans (B1.out.mono (NL.out _ B0.out))
        have HKMkM1 : Hid (N ≤ kM1) := by have h1 := FA1.out.2.1; have h2 := NL.out _ B0.out; show _ ≤ _; omega
        rw [← hv1, ← hkM1]
        clear hv1 hkM1
        refine hK.out _ _ (fun _ => HC.out v1 L1.out) (fun hHeld0 => ?_)
        have hHeld := hHeld0 (by decide)
        clear hHeld0 hK K
        (try simp only [List.getElem_toArray, List.getElem_cons_zero, List.getElem_cons_succ, Act.put, List.setIfInBounds_toArray, List.set_cons_zero, List.set_cons_succ])
        refine wpAnyK_two24 (i := 1) (j := 22) (by kernel_rfl) rfl rfl (fun K hK => ?_) (fun K hK => ?_)
        · skip
          (try simp only [List.getElem_toArray, List.getElem_cons_zero, List.getElem_cons_succ, Act.put, List.setIfInBounds_toArray, List.set_cons_zero, List.set_cons_succ])
          obtain ⟨v2, hcv2, z1, z2⟩ := run_convm21 (P := Tryd.prog) v1 22 5 #[.int .u8 70, .int .u8 76, .int .u8 83, .int .u8 72, .int .u8 1] 5 5 kM1 FA1.out.1 Tryd.underlying22 Tryd.underlying5
          go_simp
          clear hcv2
          have FA2 : Hid (v2.heap[kM1]? = some (.cells #[.int .u8 70, .int .u8 76, .int .u8 83, .int .u8 72, .int .u8 1] 5 (5, 6)) ∧ kM1 < v2.heap.size) := ⟨z1, Nat.lt_of_lt_of_le FA1.out.2.2 z2.size⟩
          have L2 : Hid (Below N w v2) := L1.out.trans (z2.below (fun k q => by have h1 := HKMkM1.out; omega) (NL.out _ L1.out))
          clear z1 z2
          refine hK.out _ _ (fun _ => HC.out v2 L2.out) (fun hHeld0 => ?_)
          have hHeld := hHeld0 (by decide)
          clear hHeld0 hK K
          (try simp only [List.getElem_toArray, List.getElem_cons_zero, List.getElem_cons_succ, Act.put, List.setIfInBounds_toArray, List.set_cons_zero, List.set_cons_succ])
          refine wpAnyK_one (i := 22) (by kernel_rfl) rfl (fun K hK => ?_)
          (try simp only [List.getElem_toArray, List.getElem_cons_zero, List.getElem_cons_succ, Act.put, List.setIfInBounds_toArray, List.set_cons_zero, List.set_cons_succ])
          go_simp
          obtain ⟨v3, hv3⟩ : ∃ v, v = v2.alloc (.cells #[.int .u64 pg, .int .u64 ps, .int .u64 ac, .int .u64 lm] 99) := ⟨_, rfl⟩
          obtain ⟨k3, hk3⟩ : ∃ v, v = v2.heap.size := ⟨_, rfl⟩
          have B3 : Hid (Below v2.heap.size v2 v3) := by rw [hv3]; exact (Below.refl _ _).alloc (Nat.le_refl _) _
          have FB3 : Hid (v3.heap[k3]? = some (.cells #[.int .u64 pg, .int .u64 ps, .int .u64 ac, .int .u64 lm] 99 (0, 0))) := by rw [hv3, hk3]; exact heap_alloc_new _ _
          have L3 : Hid (Below N w v3) := L2.out.trans (B3.out.mono (NL.out _ L2.out))
          rw [← hv3, ← hk3]
          clear hv3 hk3
          have FA3 : Hid (v3.heap[kM1]? = some (.cells #[.int .u8 70, .int .u8 76, .int .u8 83, .int .u8 72, .int .u8 1] 5 (5, 6)) ∧ kM1 < v3.heap.size) := ⟨(B3.out.block _ FA2.out.2).trans FA2.out.1, Nat.lt_of_lt_of_le FA2.out.2 B3.out.size⟩
          refine hK.out _ _ (fun _ => HC.out v3 L3.out) (fun hHeld0 => ?_)
          have hHeld := hHeld0 (by decide)
          clear hHeld0 hK K
          (try simp only [List.getElem_toArray, List.getElem_cons_zero, List.getElem_cons_succ, Act.put, List.setIfInBounds_toArray, List.set_cons_zero, List.set_cons_succ])
          refine wpAnyK_one (i := 23) (by kernel_rfl) rfl (fun K hK => ?_)
          (try simp only [List.getElem_toArray, List.getElem_cons_zero, List.getElem_cons_succ, Act.put, List.setIfInBounds_toArray, List.set_cons_zero, List.set_cons_succ])
          go_simp
          have HE4 := rencode_any (some ⟨k3, 0, none⟩) (nm21 S) 4 v3 (HS64.out _ _ FB3.out) (by rw [HNM.out]; simp)
          rw [show (nm21 S).length = 4 from rfl] at HE4
          refine HE4.mono ?_
          rintro e4 v4 ⟨u4, rfl, o4, z4⟩
          obtain ⟨p4, c4, rfl⟩ := own_sl21 o4
          have B4 : Hid (Below v3.heap.size v3 v4) := z4
          have L4 : Hid (Below N w v4) := L3.out.trans (z4.mono (NL.out _ L3.out))
          obtain ⟨-, a4, cc4, hv, z5, z6, -⟩ := own_seg (M := 255) o4 (by decide) (encA_bd _ (by rw [HNM.out]; exact HBD.out))
          injection hv with q1 q2 q3
          subst q1
          clear q2 q3 HE4
          have FA4' : Hid (kM1 < v3.heap.size) := FA3.out.2
          have FB4 : Hid (Seg v4 p4 (encA (nm21 S)) ∧ (∀ x, p4 = some x → x.block < v4.heap.size) ∧ (∀ x, p4 = some x → x.block ≠ kM1)) := ⟨z5, fun x hx => (z6 x hx).2.2.2, fun x hx q => by have h1 := (z6 x hx).2.2.1; have h2 := FA4'.out; omega⟩
          have FA4 : Hid (v4.heap[kM1]? = some (.cells #[.int .u8 70, .int .u8 76, .int .u8 83, .int .u8 72, .int .u8 1] 5 (5, 6)) ∧ kM1 < v4.heap.size) := ⟨(B4.out.block _ FA3.out.2).trans FA3.out.1, Nat.lt_of_lt_of_le FA3.out.2 B4.out.size⟩
          clear z4 z5 z6 o4
          refine hK.out _ _ (fun _ => HC.out v4 L4.out) (fun hHeld0 => ?_)
          have hHeld := hHeld0 (by decide)
          clear hHeld0 hK K
          (try simp only [List.getElem_toArray, List.getElem_cons_zero, List.getElem_cons_succ, Act.put, List.setIfInBounds_toArray, List.set_cons_zero, List.set_cons_succ])
          refine wpAnyK_one (i := 24) (by kernel_rfl) rfl (fun K hK => ?_)
          (try simp only [List.getElem_toArray, List.getElem_cons_zero, List.getElem_cons_succ, Act.put, List.setIfInBounds_toArray, List.set_cons_zero, List.set_cons_succ])
          rw [if_pos (by rfl)]
          have hsM : Seg v4 (some ⟨kM1, 0, none⟩) mg21 := magic_seg21 FA4.out.1
          obtain ⟨m2, hm2⟩ : ∃ l, l = (encA (nm21 S)).length := ⟨_, rfl⟩
          obtain ⟨c2', hc2'⟩ : ∃ l, l = c4 := ⟨_, rfl⟩
          rw [← hm2, ← hc2']
          obtain ⟨g3, c3, v5, hr3, o3, b3⟩ := appm21 v4 (m := m2) (N := H0) (c2 := c2') HME.out hsM FB4.out.1 hm2.symm (by have := HEL.out; omega) (by have := HEL.out; omega)
          refine operwp_app24 _ _ _ rfl rfl rfl hr3 ?_
          have O3 : Hid (v5.ownsRow N 5 1 (.slice g3 H0.length c3) H0.length (H0.map (Value.int .u8)) ∧ Below N w v5) := ⟨own_base21 o3 (NL.out _ L4.out), L4.out.trans (b3.mono (NL.out _ L4.out))⟩
          clear hr3 o3 b3 hsM
          refine hK.out _ _ (fun _ => HC.out v5 O3.out.2) (fun hHeld0 => ?_)
          have hHeld := hHeld0 (by decide)
          clear hHeld0 hK K
          simp only [Act.put, List.setIfInBounds_toArray, List.set_cons_zero, List.set_cons_succ]
          refine wpAnyK_one (i := 25) (by kernel_rfl) rfl (fun K hK => ?_)
          (try simp only [List.getElem_toArray, List.getElem_cons_zero, List.getElem_cons_succ, Act.put, List.setIfInBounds_toArray, List.set_cons_zero, List.set_cons_succ])
          go_simp
          refine hK.out _ _ (fun _ => hHeld) (fun _ => ?_)
          clear hK K hHeld
          refine wpAnyK_done (by kernel_rfl) ?_ _
          go_wp2_with fail
          go_meet
          case rel => exact ⟨g3, c3, rfl, O3.out.1, O3.out.2⟩
        · skip
          (try simp only [List.getElem_toArray, List.getElem_cons_zero, List.getElem_cons_succ, Act.put, List.setIfInBounds_toArray, List.set_cons_zero, List.set_cons_succ])
          go_simp
          obtain ⟨v6, hv6⟩ : ∃ v, v = v1.alloc (.cells #[.int .u64 pg, .int .u64 ps, .int .u64 ac, .int .u64 lm] 99) := ⟨_, rfl⟩
          obtain ⟨k6, hk6⟩ : ∃ v, v = v1.heap.size := ⟨_, rfl⟩
          have B6 : Hid (Below v1.heap.size v1 v6) := by rw [hv6]; exact (Below.refl _ _).alloc (Nat.le_refl _) _
          have FB6 : Hid (v6.heap[k6]? = some (.cells #[.int .u64 pg, .int .u64 ps, .int .u64 ac, .int .u64 lm] 99 (0, 0))) := by rw [hv6, hk6]; exact heap_alloc_new _ _
          have L6 : Hid (Below N w v6) := L1.out.trans (B6.out.mono (NL.out _ L1.out))
          rw [← hv6, ← hk6]
          clear hv6 hk6
          have FA6 : Hid (v6.heap[kM1]? = some (.cells #[.int .u8 70, .int .u8 76, .int .u8 83, .int .u8 72, .int .u8 1] 5 (0, 0)) ∧ True ∧ kM1 < v6.heap.size) := ⟨(B6.out.block _ FA1.out.2.2).trans FA1.out.1, trivial, Nat.lt_of_lt_of_le FA1.out.2.2 B6.out.size⟩
          refine hK.out _ _ (fun _ => HC.out v6 L6.out) (fun hHeld0 => ?_)
          have hHeld := hHeld0 (by decide)
          clear hHeld0 hK K
          (try simp only [List.getElem_toArray, List.getElem_cons_zero, List.getElem_cons_succ, Act.put, List.setIfInBounds_toArray, List.set_cons_zero, List.set_cons_succ])
          refine wpAnyK_two24 (i := 1) (j := 23) (by kernel_rfl) rfl rfl (fun K hK => ?_) (fun K hK => ?_)
          · skip
            (try simp only [List.getElem_toArray, List.getElem_cons_zero, List.getElem_cons_succ, Act.put, List.setIfInBounds_toArray, List.set_cons_zero, List.set_cons_succ])
            obtain ⟨v7, hcv7, z1, z2⟩ := run_convm21 (P := Tryd.prog) v6 22 5 #[.int .u8 70, .int .u8 76, .int .u8 83, .int .u8 72, .int .u8 1] 5 5 kM1 FA6.out.1 Tryd.underlying22 Tryd.underlying5
            go_simp
            clear hcv7
            have FA7 : Hid (v7.heap[kM1]? = some (.cells #[.int .u8 70, .int .u8 76, .int .u8 83, .int .u8 72, .int .u8 1] 5 (5, 6)) ∧ kM1 < v7.heap.size) := ⟨z1, Nat.lt_of_lt_of_le FA6.out.2.2 z2.size⟩
            have L7 : Hid (Below N w v7) := L6.out.trans (z2.below (fun k q => by have h1 := HKMkM1.out; omega) (NL.out _ L6.out))
            have FB7 : Hid (v7.heap[k6]? = some (.cells #[.int .u64 pg, .int .u64 ps, .int .u64 ac, .int .u64 lm] 99 (0, 0))) := (z2.block _ (Array.getElem?_eq_some_iff.1 FB6.out).1 (fun q => by have h1 := FA6.out.1; have h2 := FB6.out; rw [← q, h2] at h1; injection h1 with h1; injection h1 with _ h1 _; exact absurd h1 (by decide))).trans FB6.out
            clear z1 z2
            refine hK.out _ _ (fun _ => HC.out v7 L7.out) (fun hHeld0 => ?_)
            have hHeld := hHeld0 (by decide)
            clear hHeld0 hK K
            (try simp only [List.getElem_toArray, List.getElem_cons_zero, List.getElem_cons_succ, Act.put, List.setIfInBounds_toArray, List.set_cons_zero, List.set_cons_succ])
            refine wpAnyK_one (i := 23) (by kernel_rfl) rfl (fun K hK => ?_)
            (try simp only [List.getElem_toArray, List.getElem_cons_zero, List.getElem_cons_succ, Act.put, List.setIfInBounds_toArray, List.set_cons_zero, List.set_cons_succ])
            go_simp
            have HE8 := rencode_any (some ⟨k6, 0, none⟩) (nm21 S) 4 v7 (HS64.out _ _ FB7.out) (by rw [HNM.out]; simp)
            rw [show (nm21 S).length = 4 from rfl] at HE8
            refine HE8.mono ?_
            rintro e8 v8 ⟨u8, rfl, o8, z4⟩
            obtain ⟨p8, c8, rfl⟩ := own_sl21 o8
            have B8 : Hid (Below v7.heap.size v7 v8) := z4
            have L8 : Hid (Below N w v8) := L7.out.trans (z4.mono (NL.out _ L7.out))
            obtain ⟨-, a8, cc8, hv, z5, z6, -⟩ := own_seg (M := 255) o8 (by decide) (encA_bd _ (by rw [HNM.out]; exact HBD.out))
            injection hv with q1 q2 q3
            subst q1
            clear q2 q3 HE8
            have FA8' : Hid (kM1 < v7.heap.size) := FA7.out.2
            have FB8 : Hid (Seg v8 p8 (encA (nm21 S)) ∧ (∀ x, p8 = some x → x.block < v8.heap.size) ∧ (∀ x, p8 = some x → x.block ≠ kM1)) := ⟨z5, fun x hx => (z6 x hx).2.2.2, fun x hx q => by have h1 := (z6 x hx).2.2.1; have h2 := FA8'.out; omega⟩
            have FA8 : Hid (v8.heap[kM1]? = some (.cells #[.int .u8 70, .int .u8 76, .int .u8 83, .int .u8 72, .int .u8 1] 5 (5, 6)) ∧ kM1 < v8.heap.size) := ⟨(B8.out.block _ FA7.out.2).trans FA7.out.1, Nat.lt_of_lt_of_le FA7.out.2 B8.out.size⟩
            clear z4 z5 z6 o8
            refine hK.out _ _ (fun _ => HC.out v8 L8.out) (fun hHeld0 => ?_)
            have hHeld := hHeld0 (by decide)
            clear hHeld0 hK K
            (try simp only [List.getElem_toArray, List.getElem_cons_zero, List.getElem_cons_succ, Act.put, List.setIfInBounds_toArray, List.set_cons_zero, List.set_cons_succ])
            refine wpAnyK_one (i := 24) (by kernel_rfl) rfl (fun K hK => ?_)
            (try simp only [List.getElem_toArray, List.getElem_cons_zero, List.getElem_cons_succ, Act.put, List.setIfInBounds_toArray, List.set_cons_zero, List.set_cons_succ])
            rw [if_pos (by rfl)]
            have hsM : Seg v8 (some ⟨kM1, 0, none⟩) mg21 := magic_seg21 FA8.out.1
            obtain ⟨m2, hm2⟩ : ∃ l, l = (encA (nm21 S)).length := ⟨_, rfl⟩
            obtain ⟨c2', hc2'⟩ : ∃ l, l = c8 := ⟨_, rfl⟩
            rw [← hm2, ← hc2']
            obtain ⟨g3, c3, v9, hr3, o3, b3⟩ := appm21 v8 (m := m2) (N := H0) (c2 := c2') HME.out hsM FB8.out.1 hm2.symm (by have := HEL.out; omega) (by have := HEL.out; omega)
            refine operwp_app24 _ _ _ rfl rfl rfl hr3 ?_
            have O3 : Hid (v9.ownsRow N 5 1 (.slice g3 H0.length c3) H0.length (H0.map (Value.int .u8)) ∧ Below N w v9) := ⟨own_base21 o3 (NL.out _ L8.out), L8.out.trans (b3.mono (NL.out _ L8.out))⟩
            clear hr3 o3 b3 hsM
            refine hK.out _ _ (fun _ => HC.out v9 O3.out.2) (fun hHeld0 => ?_)
            have hHeld := hHeld0 (by decide)
            clear hHeld0 hK K
            simp only [Act.put, List.setIfInBounds_toArray, List.set_cons_zero, List.set_cons_succ]
            refine wpAnyK_one (i := 25) (by kernel_rfl) rfl (fun K hK => ?_)
            (try simp only [List.getElem_toArray, List.getElem_cons_zero, List.getElem_cons_succ, Act.put, List.setIfInBounds_toArray, List.set_cons_zero, List.set_cons_succ])
            go_simp
            refine hK.out _ _ (fun _ => hHeld) (fun _ => ?_)
            clear hK K hHeld
            refine wpAnyK_done (by kernel_rfl) ?_ _
            go_wp2_with fail
            go_meet
            case rel => exact ⟨g3, c3, rfl, O3.out.1, O3.out.2⟩
          · skip
            (try simp only [List.getElem_toArray, List.getElem_cons_zero, List.getElem_cons_succ, Act.put, List.setIfInBounds_toArray, List.set_cons_zero, List.set_cons_succ])
            go_simp
            have HE10 := rencode_any (some ⟨k6, 0, none⟩) (nm21 S) 4 v6 (HS64.out _ _ FB6.out) (by rw [HNM.out]; simp)
            rw [show (nm21 S).length = 4 from rfl] at HE10
            refine HE10.mono ?_
            rintro e10 v10 ⟨u10, rfl, o10, z4⟩
            obtain ⟨p10, c10, rfl⟩ := own_sl21 o10
            have B10 : Hid (Below v6.heap.size v6 v10) := z4
            have L10 : Hid (Below N w v10) := L6.out.trans (z4.mono (NL.out _ L6.out))
            obtain ⟨-, a10, cc10, hv, z5, z6, -⟩ := own_seg (M := 255) o10 (by decide) (encA_bd _ (by rw [HNM.out]; exact HBD.out))
            injection hv with q1 q2 q3
            subst q1
            clear q2 q3 HE10
            have FA10' : Hid (kM1 < v6.heap.size) := FA6.out.2.2
            have FB10 : Hid (Seg v10 p10 (encA (nm21 S)) ∧ (∀ x, p10 = some x → x.block < v10.heap.size) ∧ (∀ x, p10 = some x → x.block ≠ kM1)) := ⟨z5, fun x hx => (z6 x hx).2.2.2, fun x hx q => by have h1 := (z6 x hx).2.2.1; have h2 := FA10'.out; omega⟩
            have FA10 : Hid (v10.heap[kM1]? = some (.cells #[.int .u8 70, .int .u8 76, .int .u8 83, .int .u8 72, .int .u8 1] 5 (0, 0)) ∧ True ∧ kM1 < v10.heap.size) := ⟨(B10.out.block _ FA6.out.2.2).trans FA6.out.1, trivial, Nat.lt_of_lt_of_le FA6.out.2.2 B10.out.size⟩
            clear z4 z5 z6 o10
            refine hK.out _ _ (fun _ => HC.out v10 L10.out) (fun hHeld0 => ?_)
            have hHeld := hHeld0 (by decide)
            clear hHeld0 hK K
            (try simp only [List.getElem_toArray, List.getElem_cons_zero, List.getElem_cons_succ, Act.put, List.setIfInBounds_toArray, List.set_cons_zero, List.set_cons_succ])
            refine wpAnyK_one (i := 1) (by kernel_rfl) rfl (fun K hK => ?_)
            (try simp only [List.getElem_toArray, List.getElem_cons_zero, List.getElem_cons_succ, Act.put, List.setIfInBounds_toArray, List.set_cons_zero, List.set_cons_succ])
            obtain ⟨v11, hcv11, z1, z2⟩ := run_convm21 (P := Tryd.prog) v10 22 5 #[.int .u8 70, .int .u8 76, .int .u8 83, .int .u8 72, .int .u8 1] 5 5 kM1 FA10.out.1 Tryd.underlying22 Tryd.underlying5
            go_simp
            clear hcv11
            have FA11 : Hid (v11.heap[kM1]? = some (.cells #[.int .u8 70, .int .u8 76, .int .u8 83, .int .u8 72, .int .u8 1] 5 (5, 6)) ∧ kM1 < v11.heap.size) := ⟨z1, Nat.lt_of_lt_of_le FA10.out.2.2 z2.size⟩
            have L11 : Hid (Below N w v11) := L10.out.trans (z2.below (fun k q => by have h1 := HKMkM1.out; omega) (NL.out _ L10.out))
            have FB11 : Hid (Seg v11 p10 (encA (nm21 S)) ∧ (∀ x, p10 = some x → x.block < v11.heap.size) ∧ (∀ x, p10 = some x → x.block ≠ kM1)) := ⟨seg_kp21 FB10.out.1 z2 (fun x hx q => FB10.out.2.2 x hx q), fun x hx => Nat.lt_of_lt_of_le (FB10.out.2.1 x hx) z2.size, FB10.out.2.2⟩
            clear z1 z2
            refine hK.out _ _ (fun _ => HC.out v11 L11.out) (fun hHeld0 => ?_)
            have hHeld := hHeld0 (by decide)
            clear hHeld0 hK K
            (try simp only [List.getElem_toArray, List.getElem_cons_zero, List.getElem_cons_succ, Act.put, List.setIfInBounds_toArray, List.set_cons_zero, List.set_cons_succ])
            refine wpAnyK_one (i := 24) (by kernel_rfl) rfl (fun K hK => ?_)
            (try simp only [List.getElem_toArray, List.getElem_cons_zero, List.getElem_cons_succ, Act.put, List.setIfInBounds_toArray, List.set_cons_zero, List.set_cons_succ])
            rw [if_pos (by rfl)]
            have hsM : Seg v11 (some ⟨kM1, 0, none⟩) mg21 := magic_seg21 FA11.out.1
            obtain ⟨m2, hm2⟩ : ∃ l, l = (encA (nm21 S)).length := ⟨_, rfl⟩
            obtain ⟨c2', hc2'⟩ : ∃ l, l = c10 := ⟨_, rfl⟩
            rw [← hm2, ← hc2']
            obtain ⟨g3, c3, v12, hr3, o3, b3⟩ := appm21 v11 (m := m2) (N := H0) (c2 := c2') HME.out hsM FB11.out.1 hm2.symm (by have := HEL.out; omega) (by have := HEL.out; omega)
            refine operwp_app24 _ _ _ rfl rfl rfl hr3 ?_
            have O3 : Hid (v12.ownsRow N 5 1 (.slice g3 H0.length c3) H0.length (H0.map (Value.int .u8)) ∧ Below N w v12) := ⟨own_base21 o3 (NL.out _ L11.out), L11.out.trans (b3.mono (NL.out _ L11.out))⟩
            clear hr3 o3 b3 hsM
            refine hK.out _ _ (fun _ => HC.out v12 O3.out.2) (fun hHeld0 => ?_)
            have hHeld := hHeld0 (by decide)
            clear hHeld0 hK K
            simp only [Act.put, List.setIfInBounds_toArray, List.set_cons_zero, List.set_cons_succ]
            refine wpAnyK_one (i := 25) (by kernel_rfl) rfl (fun K hK => ?_)
            (try simp only [List.getElem_toArray, List.getElem_cons_zero, List.getElem_cons_succ, Act.put, List.setIfInBounds_toArray, List.set_cons_zero, List.set_cons_succ])
            go_simp
            refine hK.out _ _ (fun _ => hHeld) (fun _ => ?_)
            clear hK K hHeld
            refine wpAnyK_done (by kernel_rfl) ?_ _
            go_wp2_with fail
            go_meet
            case rel => exact ⟨g3, c3, rfl, O3.out.1, O3.out.2⟩
      · skip
        (try simp only [List.getElem_toArray, List.getElem_cons_zero, List.getElem_cons_succ, Act.put, List.setIfInBounds_toArray, List.set_cons_zero, List.set_cons_succ])
        go_simp
        obtain ⟨v13, hv13⟩ : ∃ v, v = v0.alloc (.cells #[.int .u64 pg, .int .u64 ps, .int .u64 ac, .int .u64 lm] 99) := ⟨_, rfl⟩
        obtain ⟨k13, hk13⟩ : ∃ v, v = v0.heap.size := ⟨_, rfl⟩
        have B13 : Hid (Below v0.heap.size v0 v13) := by rw [hv13]; exact (Below.refl _ _).alloc (Nat.le_refl _) _
        have FB13 : Hid (v13.heap[k13]? = some (.cells #[.int .u64 pg, .int .u64 ps, .int .u64 ac, .int .u64 lm] 99 (0, 0))) := by rw [hv13, hk13]; exact heap_alloc_new _ _
        have L13 : Hid (Below N w v13) := B0.out.trans (B13.out.mono (NL.out _ B0.out))
        rw [← hv13, ← hk13]
        clear hv13 hk13
        refine hK.out _ _ (fun _ => HC.out v13 L13.out) (fun hHeld0 => ?_)
        have hHeld := hHeld0 (by decide)
        clear hHeld0 hK K
        (try simp only [List.getElem_toArray, List.getElem_cons_zero, List.getElem_cons_succ, Act.put, List.setIfInBounds_toArray, List.set_cons_zero, List.set_cons_succ])
        refine wpAnyK_two24 (i := 0) (j := 23) (by kernel_rfl) rfl rfl (fun K hK => ?_) (fun K hK => ?_)
        · skip
          (try simp only [List.getElem_toArray, List.getElem_cons_zero, Act.put, List.setIfInBounds_toArray, List.set_cons_zero, List.set_cons_succ])
          go_simp
          obtain ⟨v14, hv14⟩ : ∃ v, v = v13.alloc (.cells #[.int .u8 70, .int .u8 76, .int .u8 83, .int .u8 72, .int .u8 1] 5) := ⟨_, rfl⟩
          obtain ⟨kM14, hkM14⟩ : ∃ v, v = v13.heap.size := ⟨_, rfl⟩
          have B14 : Hid (Below v13.heap.size v13 v14) := by rw [hv14]; exact (Below.refl _ _).alloc (Nat.le_refl _) _
          have FA14 : Hid (v14.heap[kM14]? = some (.cells #[.int .u8 70, .int .u8 76, .int .u8 83, .int .u8 72, .int .u8 1] 5 (0, 0)) ∧ kM14 = v13.heap.size ∧ kM14 < v14.heap.size) := by rw [hv14, hkM14]; exact ⟨heap_alloc_new _ _, rfl, by simp⟩
          have L14 : Hid (Below N w v14) := L13.out.trans (B14.out.mono (NL.out _ L13.out))
          have HKMkM14 : Hid (N ≤ kM14) := by have h1 := FA14.out.2.1; have h2 := NL.out _ L13.out; show _ ≤ _; omega
          rw [← hv14, ← hkM14]
          clear hv14 hkM14
          have FB14 : Hid (v14.heap[k13]? = some (.cells #[.int .u64 pg, .int .u64 ps, .int .u64 ac, .int .u64 lm] 99 (0, 0))) := (B14.out.block _ (Array.getElem?_eq_some_iff.1 FB13.out).1).trans FB13.out
          refine hK.out _ _ (fun _ => HC.out v14 L14.out) (fun hHeld0 => ?_)
          have hHeld := hHeld0 (by decide)
          clear hHeld0 hK K
          (try simp only [List.getElem_toArray, List.getElem_cons_zero, List.getElem_cons_succ, Act.put, List.setIfInBounds_toArray, List.set_cons_zero, List.set_cons_succ])
          refine wpAnyK_two24 (i := 1) (j := 23) (by kernel_rfl) rfl rfl (fun K hK => ?_) (fun K hK => ?_)
          · skip
            (try simp only [List.getElem_toArray, List.getElem_cons_zero, List.getElem_cons_succ, Act.put, List.setIfInBounds_toArray, List.set_cons_zero, List.set_cons_succ])
            obtain ⟨v15, hcv15, z1, z2⟩ := run_convm21 (P := Tryd.prog) v14 22 5 #[.int .u8 70, .int .u8 76, .int .u8 83, .int .u8 72, .int .u8 1] 5 5 kM14 FA14.out.1 Tryd.underlying22 Tryd.underlying5
            go_simp
            clear hcv15
            have FA15 : Hid (v15.heap[kM14]? = some (.cells #[.int .u8 70, .int .u8 76, .int .u8 83, .int .u8 72, .int .u8 1] 5 (5, 6)) ∧ kM14 < v15.heap.size) := ⟨z1, Nat.lt_of_lt_of_le FA14.out.2.2 z2.size⟩
            have L15 : Hid (Below N w v15) := L14.out.trans (z2.below (fun k q => by have h1 := HKMkM14.out; omega) (NL.out _ L14.out))
            have FB15 : Hid (v15.heap[k13]? = some (.cells #[.int .u64 pg, .int .u64 ps, .int .u64 ac, .int .u64 lm] 99 (0, 0))) := (z2.block _ (Array.getElem?_eq_some_iff.1 FB14.out).1 (fun q => by have h1 := FA14.out.1; have h2 := FB14.out; rw [← q, h2] at h1; injection h1 with h1; injection h1 with _ h1 _; exact absurd h1 (by decide))).trans FB14.out
            clear z1 z2
            refine hK.out _ _ (fun _ => HC.out v15 L15.out) (fun hHeld0 => ?_)
            have hHeld := hHeld0 (by decide)
            clear hHeld0 hK K
            (try simp only [List.getElem_toArray, List.getElem_cons_zero, List.getElem_cons_succ, Act.put, List.setIfInBounds_toArray, List.set_cons_zero, List.set_cons_succ])
            refine wpAnyK_one (i := 23) (by kernel_rfl) rfl (fun K hK => ?_)
            (try simp only [List.getElem_toArray, List.getElem_cons_zero, List.getElem_cons_succ, Act.put, List.setIfInBounds_toArray, List.set_cons_zero, List.set_cons_succ])
            go_simp
            have HE16 := rencode_any (some ⟨k13, 0, none⟩) (nm21 S) 4 v15 (HS64.out _ _ FB15.out) (by rw [HNM.out]; simp)
            rw [show (nm21 S).length = 4 from rfl] at HE16
            refine HE16.mono ?_
            rintro e16 v16 ⟨u16, rfl, o16, z4⟩
            obtain ⟨p16, c16, rfl⟩ := own_sl21 o16
            have B16 : Hid (Below v15.heap.size v15 v16) := z4
            have L16 : Hid (Below N w v16) := L15.out.trans (z4.mono (NL.out _ L15.out))
            obtain ⟨-, a16, cc16, hv, z5, z6, -⟩ := own_seg (M := 255) o16 (by decide) (encA_bd _ (by rw [HNM.out]; exact HBD.out))
            injection hv with q1 q2 q3
            subst q1
            clear q2 q3 HE16
            have FA16' : Hid (kM14 < v15.heap.size) := FA15.out.2
            have FB16 : Hid (Seg v16 p16 (encA (nm21 S)) ∧ (∀ x, p16 = some x → x.block < v16.heap.size) ∧ (∀ x, p16 = some x → x.block ≠ kM14)) := ⟨z5, fun x hx => (z6 x hx).2.2.2, fun x hx q => by have h1 := (z6 x hx).2.2.1; have h2 := FA16'.out; omega⟩
            have FA16 : Hid (v16.heap[kM14]? = some (.cells #[.int .u8 70, .int .u8 76, .int .u8 83, .int .u8 72, .int .u8 1] 5 (5, 6)) ∧ kM14 < v16.heap.size) := ⟨(B16.out.block _ FA15.out.2).trans FA15.out.1, Nat.lt_of_lt_of_le FA15.out.2 B16.out.size⟩
            clear z4 z5 z6 o16
            refine hK.out _ _ (fun _ => HC.out v16 L16.out) (fun hHeld0 => ?_)
            have hHeld := hHeld0 (by decide)
            clear hHeld0 hK K
            (try simp only [List.getElem_toArray, List.getElem_cons_zero, List.getElem_cons_succ, Act.put, List.setIfInBounds_toArray, List.set_cons_zero, List.set_cons_succ])
            refine wpAnyK_one (i := 24) (by kernel_rfl) rfl (fun K hK => ?_)
            (try simp only [List.getElem_toArray, List.getElem_cons_zero, List.getElem_cons_succ, Act.put, List.setIfInBounds_toArray, List.set_cons_zero, List.set_cons_succ])
            rw [if_pos (by rfl)]
            have hsM : Seg v16 (some ⟨kM14, 0, none⟩) mg21 := magic_seg21 FA16.out.1
            obtain ⟨m2, hm2⟩ : ∃ l, l = (encA (nm21 S)).length := ⟨_, rfl⟩
            obtain ⟨c2', hc2'⟩ : ∃ l, l = c16 := ⟨_, rfl⟩
            rw [← hm2, ← hc2']
            obtain ⟨g3, c3, v17, hr3, o3, b3⟩ := appm21 v16 (m := m2) (N := H0) (c2 := c2') HME.out hsM FB16.out.1 hm2.symm (by have := HEL.out; omega) (by have := HEL.out; omega)
            refine operwp_app24 _ _ _ rfl rfl rfl hr3 ?_
            have O3 : Hid (v17.ownsRow N 5 1 (.slice g3 H0.length c3) H0.length (H0.map (Value.int .u8)) ∧ Below N w v17) := ⟨own_base21 o3 (NL.out _ L16.out), L16.out.trans (b3.mono (NL.out _ L16.out))⟩
            clear hr3 o3 b3 hsM
            refine hK.out _ _ (fun _ => HC.out v17 O3.out.2) (fun hHeld0 => ?_)
            have hHeld := hHeld0 (by decide)
            clear hHeld0 hK K
            simp only [Act.put, List.setIfInBounds_toArray, List.set_cons_zero, List.set_cons_succ]
            refine wpAnyK_one (i := 25) (by kernel_rfl) rfl (fun K hK => ?_)
            (try simp only [List.getElem_toArray, List.getElem_cons_zero, List.getElem_cons_succ, Act.put, List.setIfInBounds_toArray, List.set_cons_zero, List.set_cons_succ])
            go_simp
            refine hK.out _ _ (fun _ => hHeld) (fun _ => ?_)
            clear hK K hHeld
            refine wpAnyK_done (by kernel_rfl) ?_ _
            go_wp2_with fail
            go_meet
            case rel => exact ⟨g3, c3, rfl, O3.out.1, O3.out.2⟩
          · skip
            (try simp only [List.getElem_toArray, List.getElem_cons_zero, List.getElem_cons_succ, Act.put, List.setIfInBounds_toArray, List.set_cons_zero, List.set_cons_succ])
            go_simp
            have HE18 := rencode_any (some ⟨k13, 0, none⟩) (nm21 S) 4 v14 (HS64.out _ _ FB14.out) (by rw [HNM.out]; simp)
            rw [show (nm21 S).length = 4 from rfl] at HE18
            refine HE18.mono ?_
            rintro e18 v18 ⟨u18, rfl, o18, z4⟩
            obtain ⟨p18, c18, rfl⟩ := own_sl21 o18
            have B18 : Hid (Below v14.heap.size v14 v18) := z4
            have L18 : Hid (Below N w v18) := L14.out.trans (z4.mono (NL.out _ L14.out))
            obtain ⟨-, a18, cc18, hv, z5, z6, -⟩ := own_seg (M := 255) o18 (by decide) (encA_bd _ (by rw [HNM.out]; exact HBD.out))
            injection hv with q1 q2 q3
            subst q1
            clear q2 q3 HE18
            have FA18' : Hid (kM14 < v14.heap.size) := FA14.out.2.2
            have FB18 : Hid (Seg v18 p18 (encA (nm21 S)) ∧ (∀ x, p18 = some x → x.block < v18.heap.size) ∧ (∀ x, p18 = some x → x.block ≠ kM14)) := ⟨z5, fun x hx => (z6 x hx).2.2.2, fun x hx q => by have h1 := (z6 x hx).2.2.1; have h2 := FA18'.out; omega⟩
            have FA18 : Hid (v18.heap[kM14]? = some (.cells #[.int .u8 70, .int .u8 76, .int .u8 83, .int .u8 72, .int .u8 1] 5 (0, 0)) ∧ True ∧ kM14 < v18.heap.size) := ⟨(B18.out.block _ FA14.out.2.2).trans FA14.out.1, trivial, Nat.lt_of_lt_of_le FA14.out.2.2 B18.out.size⟩
            clear z4 z5 z6 o18
            refine hK.out _ _ (fun _ => HC.out v18 L18.out) (fun hHeld0 => ?_)
            have hHeld := hHeld0 (by decide)
            clear hHeld0 hK K
            (try simp only [List.getElem_toArray, List.getElem_cons_zero, List.getElem_cons_succ, Act.put, List.setIfInBounds_toArray, List.set_cons_zero, List.set_cons_succ])
            refine wpAnyK_one (i := 1) (by kernel_rfl) rfl (fun K hK => ?_)
            (try simp only [List.getElem_toArray, List.getElem_cons_zero, List.getElem_cons_succ, Act.put, List.setIfInBounds_toArray, List.set_cons_zero, List.set_cons_succ])
            obtain ⟨v19, hcv19, z1, z2⟩ := run_convm21 (P := Tryd.prog) v18 22 5 #[.int .u8 70, .int .u8 76, .int .u8 83, .int .u8 72, .int .u8 1] 5 5 kM14 FA18.out.1 Tryd.underlying22 Tryd.underlying5
            go_simp
            clear hcv19
            have FA19 : Hid (v19.heap[kM14]? = some (.cells #[.int .u8 70, .int .u8 76, .int .u8 83, .int .u8 72, .int .u8 1] 5 (5, 6)) ∧ kM14 < v19.heap.size) := ⟨z1, Nat.lt_of_lt_of_le FA18.out.2.2 z2.size⟩
            have L19 : Hid (Below N w v19) := L18.out.trans (z2.below (fun k q => by have h1 := HKMkM14.out; omega) (NL.out _ L18.out))
            have FB19 : Hid (Seg v19 p18 (encA (nm21 S)) ∧ (∀ x, p18 = some x → x.block < v19.heap.size) ∧ (∀ x, p18 = some x → x.block ≠ kM14)) := ⟨seg_kp21 FB18.out.1 z2 (fun x hx q => FB18.out.2.2 x hx q), fun x hx => Nat.lt_of_lt_of_le (FB18.out.2.1 x hx) z2.size, FB18.out.2.2⟩
            clear z1 z2
            refine hK.out _ _ (fun _ => HC.out v19 L19.out) (fun hHeld0 => ?_)
            have hHeld := hHeld0 (by decide)
            clear hHeld0 hK K
            (try simp only [List.getElem_toArray, List.getElem_cons_zero, List.getElem_cons_succ, Act.put, List.setIfInBounds_toArray, List.set_cons_zero, List.set_cons_succ])
            refine wpAnyK_one (i := 24) (by kernel_rfl) rfl (fun K hK => ?_)
            (try simp only [List.getElem_toArray, List.getElem_cons_zero, List.getElem_cons_succ, Act.put, List.setIfInBounds_toArray, List.set_cons_zero, List.set_cons_succ])
            rw [if_pos (by rfl)]
            have hsM : Seg v19 (some ⟨kM14, 0, none⟩) mg21 := magic_seg21 FA19.out.1
            obtain ⟨m2, hm2⟩ : ∃ l, l = (encA (nm21 S)).length := ⟨_, rfl⟩
            obtain ⟨c2', hc2'⟩ : ∃ l, l = c18 := ⟨_, rfl⟩
            rw [← hm2, ← hc2']
            obtain ⟨g3, c3, v20, hr3, o3, b3⟩ := appm21 v19 (m := m2) (N := H0) (c2 := c2') HME.out hsM FB19.out.1 hm2.symm (by have := HEL.out; omega) (by have := HEL.out; omega)
            refine operwp_app24 _ _ _ rfl rfl rfl hr3 ?_
            have O3 : Hid (v20.ownsRow N 5 1 (.slice g3 H0.length c3) H0.length (H0.map (Value.int .u8)) ∧ Below N w v20) := ⟨own_base21 o3 (NL.out _ L19.out), L19.out.trans (b3.mono (NL.out _ L19.out))⟩
            clear hr3 o3 b3 hsM
            refine hK.out _ _ (fun _ => HC.out v20 O3.out.2) (fun hHeld0 => ?_)
            have hHeld := hHeld0 (by decide)
            clear hHeld0 hK K
            simp only [Act.put, List.setIfInBounds_toArray, List.set_cons_zero, List.set_cons_succ]
            refine wpAnyK_one (i := 25) (by kernel_rfl) rfl (fun K hK => ?_)
            (try simp only [List.getElem_toArray, List.getElem_cons_zero, List.getElem_cons_succ, Act.put, List.setIfInBounds_toArray, List.set_cons_zero, List.set_cons_succ])
            go_simp
            refine hK.out _ _ (fun _ => hHeld) (fun _ => ?_)
            clear hK K hHeld
            refine wpAnyK_done (by kernel_rfl) ?_ _
            go_wp2_with fail
            go_meet
            case rel => exact ⟨g3, c3, rfl, O3.out.1, O3.out.2⟩
        · skip
          (try simp only [List.getElem_toArray, List.getElem_cons_zero, List.getElem_cons_succ, Act.put, List.setIfInBounds_toArray, List.set_cons_zero, List.set_cons_succ])
          go_simp
          have HE21 := rencode_any (some ⟨k13, 0, none⟩) (nm21 S) 4 v13 (HS64.out _ _ FB13.out) (by rw [HNM.out]; simp)
          rw [show (nm21 S).length = 4 from rfl] at HE21
          refine HE21.mono ?_
          rintro e21 v21 ⟨u21, rfl, o21, z4⟩
          obtain ⟨p21, c21, rfl⟩ := own_sl21 o21
          have B21 : Hid (Below v13.heap.size v13 v21) := z4
          have L21 : Hid (Below N w v21) := L13.out.trans (z4.mono (NL.out _ L13.out))
          obtain ⟨-, a21, cc21, hv, z5, z6, -⟩ := own_seg (M := 255) o21 (by decide) (encA_bd _ (by rw [HNM.out]; exact HBD.out))
          injection hv with q1 q2 q3
          subst q1
          clear q2 q3 HE21
          have FB21 : Hid (Seg v21 p21 (encA (nm21 S)) ∧ (∀ x, p21 = some x → x.block < v21.heap.size)) := ⟨z5, fun x hx => (z6 x hx).2.2.2⟩
          clear z4 z5 z6 o21
          refine hK.out _ _ (fun _ => HC.out v21 L21.out) (fun hHeld0 => ?_)
          have hHeld := hHeld0 (by decide)
          clear hHeld0 hK K
          (try simp only [List.getElem_toArray, List.getElem_cons_zero, List.getElem_cons_succ, Act.put, List.setIfInBounds_toArray, List.set_cons_zero, List.set_cons_succ])
          refine wpAnyK_one (i := 0) (by kernel_rfl) rfl (fun K hK => ?_)
          (try simp only [List.getElem_toArray, List.getElem_cons_zero, Act.put, List.setIfInBounds_toArray, List.set_cons_zero, List.set_cons_succ])
          go_simp
          obtain ⟨v22, hv22⟩ : ∃ v, v = v21.alloc (.cells #[.int .u8 70, .int .u8 76, .int .u8 83, .int .u8 72, .int .u8 1] 5) := ⟨_, rfl⟩
          obtain ⟨kM22, hkM22⟩ : ∃ v, v = v21.heap.size := ⟨_, rfl⟩
          have B22 : Hid (Below v21.heap.size v21 v22) := by rw [hv22]; exact (Below.refl _ _).alloc (Nat.le_refl _) _
          have FA22 : Hid (v22.heap[kM22]? = some (.cells #[.int .u8 70, .int .u8 76, .int .u8 83, .int .u8 72, .int .u8 1] 5 (0, 0)) ∧ kM22 = v21.heap.size ∧ kM22 < v22.heap.size) := by rw [hv22, hkM22]; exact ⟨heap_alloc_new _ _, rfl, by simp⟩
          have L22 : Hid (Below N w v22) := L21.out.trans (B22.out.mono (NL.out _ L21.out))
          have HKMkM22 : Hid (N ≤ kM22) := by have h1 := FA22.out.2.1; have h2 := NL.out _ L21.out; show _ ≤ _; omega
          rw [← hv22, ← hkM22]
          clear hv22 hkM22
          have FB22 : Hid (Seg v22 p21 (encA (nm21 S)) ∧ (∀ x, p21 = some x → x.block < v22.heap.size) ∧ (∀ x, p21 = some x → x.block ≠ kM22)) := ⟨FB21.out.1.old B22.out, fun x hx => Nat.lt_of_lt_of_le (FB21.out.2 x hx) B22.out.size, fun x hx q => by have h1 := FB21.out.2 x hx; have h2 := FA22.out.2.1; omega⟩
          refine hK.out _ _ (fun _ => HC.out v22 L22.out) (fun hHeld0 => ?_)
          have hHeld := hHeld0 (by decide)
          clear hHeld0 hK K
          (try simp only [List.getElem_toArray, List.getElem_cons_zero, List.getElem_cons_succ, Act.put, List.setIfInBounds_toArray, List.set_cons_zero, List.set_cons_succ])
          refine wpAnyK_one (i := 1) (by kernel_rfl) rfl (fun K hK => ?_)
          (try simp only [List.getElem_toArray, List.getElem_cons_zero, List.getElem_cons_succ, Act.put, List.setIfInBounds_toArray, List.set_cons_zero, List.set_cons_succ])
          obtain ⟨v23, hcv23, z1, z2⟩ := run_convm21 (P := Tryd.prog) v22 22 5 #[.int .u8 70, .int .u8 76, .int .u8 83, .int .u8 72, .int .u8 1] 5 5 kM22 FA22.out.1 Tryd.underlying22 Tryd.underlying5
          go_simp
          clear hcv23
          have FA23 : Hid (v23.heap[kM22]? = some (.cells #[.int .u8 70, .int .u8 76, .int .u8 83, .int .u8 72, .int .u8 1] 5 (5, 6)) ∧ kM22 < v23.heap.size) := ⟨z1, Nat.lt_of_lt_of_le FA22.out.2.2 z2.size⟩
          have L23 : Hid (Below N w v23) := L22.out.trans (z2.below (fun k q => by have h1 := HKMkM22.out; omega) (NL.out _ L22.out))
          have FB23 : Hid (Seg v23 p21 (encA (nm21 S)) ∧ (∀ x, p21 = some x → x.block < v23.heap.size) ∧ (∀ x, p21 = some x → x.block ≠ kM22)) := ⟨seg_kp21 FB22.out.1 z2 (fun x hx q => FB22.out.2.2 x hx q), fun x hx => Nat.lt_of_lt_of_le (FB22.out.2.1 x hx) z2.size, FB22.out.2.2⟩
          clear z1 z2
          refine hK.out _ _ (fun _ => HC.out v23 L23.out) (fun hHeld0 => ?_)
          have hHeld := hHeld0 (by decide)
          clear hHeld0 hK K
          (try simp only [List.getElem_toArray, List.getElem_cons_zero, List.getElem_cons_succ, Act.put, List.setIfInBounds_toArray, List.set_cons_zero, List.set_cons_succ])
          refine wpAnyK_one (i := 24) (by kernel_rfl) rfl (fun K hK => ?_)
          (try simp only [List.getElem_toArray, List.getElem_cons_zero, List.getElem_cons_succ, Act.put, List.setIfInBounds_toArray, List.set_cons_zero, List.set_cons_succ])
          rw [if_pos (by rfl)]
          have hsM : Seg v23 (some ⟨kM22, 0, none⟩) mg21 := magic_seg21 FA23.out.1
          obtain ⟨m2, hm2⟩ : ∃ l, l = (encA (nm21 S)).length := ⟨_, rfl⟩
          obtain ⟨c2', hc2'⟩ : ∃ l, l = c21 := ⟨_, rfl⟩
          rw [← hm2, ← hc2']
          obtain ⟨g3, c3, v24, hr3, o3, b3⟩ := appm21 v23 (m := m2) (N := H0) (c2 := c2') HME.out hsM FB23.out.1 hm2.symm (by have := HEL.out; omega) (by have := HEL.out; omega)
          refine operwp_app24 _ _ _ rfl rfl rfl hr3 ?_
          have O3 : Hid (v24.ownsRow N 5 1 (.slice g3 H0.length c3) H0.length (H0.map (Value.int .u8)) ∧ Below N w v24) := ⟨own_base21 o3 (NL.out _ L23.out), L23.out.trans (b3.mono (NL.out _ L23.out))⟩
          clear hr3 o3 b3 hsM
          refine hK.out _ _ (fun _ => HC.out v24 O3.out.2) (fun hHeld0 => ?_)
          have hHeld := hHeld0 (by decide)
          clear hHeld0 hK K
          simp only [Act.put, List.setIfInBounds_toArray, List.set_cons_zero, List.set_cons_succ]
          refine wpAnyK_one (i := 25) (by kernel_rfl) rfl (fun K hK => ?_)
          (try simp only [List.getElem_toArray, List.getElem_cons_zero, List.getElem_cons_succ, Act.put, List.setIfInBounds_toArray, List.set_cons_zero, List.set_cons_succ])
          go_simp
          refine hK.out _ _ (fun _ => hHeld) (fun _ => ?_)
          clear hK K hHeld
          refine wpAnyK_done (by kernel_rfl) ?_ _
          go_wp2_with fail
          go_meet
          case rel => exact ⟨g3, c3, rfl, O3.out.1, O3.out.2⟩
    case rest =>
      obtain ⟨p0, cc0, rfl, hown0, hB00⟩ := hcut
      have O3 : Hid (wc.ownsRow N 5 1 (.slice p0 H0.length cc0) H0.length (H0.map (Value.int .u8)) ∧ Below N w wc) := ⟨hown0, hB00⟩
      clear hown0 hB00 u0 u1 u2 u3 HS64
      go_wp2_with fail
      go_loopw [4, 5] (fun t4 t5 wr => ∃ (a : Nat) (p : Option Addr) (d : Nat) (L : List Int), a ≤ 3 ∧ t5 = .int .i64 (a : Int) ∧ t4 = .slice p L.length d ∧ Hid (L = H0 ++ arl21 S a) ∧ wr.ownsRow N 5 1 (.slice p L.length d) L.length (L.map (Value.int .u8)) ∧ Below N w wr) (fun _ t5 _ => 3 - (intOf t5).toNat)
      case atStart => exact ⟨0, p0, cc0, H0, by omega, rfl, rfl, by show _ = _; simp [arl21], O3.out.1, O3.out.2⟩
      case round =>
        obtain ⟨a, p, d, L, ha, rfl, rfl, hL, hown, hB⟩ := hrel
        by_cases hi : a < 3
        · have hii : (a : Int) < 3 := by omega
          have haw : IntKind.i64.wrap ((a : Int) + 1) = ((a + 1 : Nat) : Int) := by rw [IntWalk.i64_in _ (by omega)]; omega
          have hcar := (HF.out wr hB).car hi
          obtain ⟨n, hn⟩ : ∃ n : Nat, n = (A a).length := ⟨_, rfl⟩
          have hnn := (HF.out wr hB).hn a hi
          have hn4 : n ≤ 4096 := by have := pn21_bd S.ps (a : Int) HO.out.ps.2; omega
          have HN : Hid (n = (pn21 S.ps (a : Int)).toNat ∧ n = (A a).length) := ⟨by omega, hn⟩
          rw [← hn] at hcar
          have HOW : Hid (wr.ownsRow N 5 1 (.slice p L.length d) L.length (L.map (Value.int .u8)) ∧ Below N w wr) := ⟨hown, hB⟩
          have HLL : Hid (L.length ≤ 45 + 3 * 16822272) := by
            show _ ≤ _
            have h1 := hdb21_len S
            have h2 := arl21_len HO.out a
            have h3 : a * 16822272 ≤ 3 * 16822272 := Nat.mul_le_mul_right _ (by omega)
            rw [hL.out, HH0.out, List.length_append]
            omega
          have h3a : ((3 + a : Nat) : Int) = (3 : Int) + (a : Int) := by omega
          obtain ⟨gx, hgx⟩ : ∃ x, x = g a := ⟨_, rfl⟩
          obtain ⟨cx, hcx⟩ : ∃ x, x = c a := ⟨_, rfl⟩
          have HGX : Hid (gx = g a) := hgx
          rw [← hgx, ← hcx] at hcar
          clear hn hnn hown hB hgx hcx
          go_wp2_with fail
          clear hcar
          go_loopw [4, 50] (fun t4 t50 wq => ∃ (k : Nat) (q : Option Addr) (d : Nat) (M : List Int), k ≤ n ∧ t50 = .int .i64 (k : Int) ∧ t4 = .slice q M.length d ∧ Hid (M = L ++ pgl21 S (a : Int) k) ∧ wq.ownsRow N 5 1 (.slice q M.length d) M.length (M.map (Value.int .u8)) ∧ Below N w wq) (fun _ t50 _ => n - (intOf t50).toNat)
          case atStart => exact ⟨0, p, d, L, by omega, rfl, rfl, by show _ = _; simp [pgl21], HOW.out.1, HOW.out.2⟩
          case round =>
            obtain ⟨k, q, d', M, hk, rfl, rfl, hM, hown, hB⟩ := hrel
            by_cases hkn : k < n
            · have hki : (k : Int) < (n : Int) := by omega
              have hkw : IntKind.i64.wrap ((k : Int) + 1) = ((k + 1 : Nat) : Int) := by rw [IntWalk.i64_in _ (by omega)]; omega
              have hka : k < (A a).length := by rw [← HN.out.2]; exact hkn
              obtain ⟨y0, y1, y2, ys⟩ := (HF.out wr hB).pgl hi hka
              obtain ⟨-, -, -, ys0⟩ := (HF.out w (Below.refl _ _)).pgl hi hka
              generalize ((A a)[k]'hka).k = dk at *
              generalize ((A a)[k]'hka).off = doff at *
              generalize ((A a)[k]'hka).c = dc at *
              rw [← HGX.out] at y0 y1 y2
              have hok := sh21_ok HO.out (a : Int) (k : Int)
              have hfl := fb21_len HO.out (a : Int) (k : Int)
              obtain ⟨F, hF⟩ : ∃ x, x = fb21 S (a : Int) (k : Int) := ⟨_, rfl⟩
              obtain ⟨er, her⟩ : ∃ x, x = (sh21 S (a : Int) (k : Int)).er := ⟨_, rfl⟩
              obtain ⟨wr', hwr'⟩ : ∃ x, x = (sh21 S (a : Int) (k : Int)).wr := ⟨_, rfl⟩
              obtain ⟨fl, hfle⟩ : ∃ x, x = F.length := ⟨_, rfl⟩
              have hX : svp21 S.pg (sh21 S (a : Int) (k : Int)) = encI wr' ++ (if er then [1] else 0 :: F) := by rw [hwr', her, hF]; rfl
              rw [← hF, ← hfle] at y0
              rw [← hF] at ys hfl
              rw [← her] at y1
              rw [← hwr'] at y2 hok
              obtain ⟨v1, hv1⟩ : ∃ v, v = wr.alloc (.cells #[.slice (some ⟨dk, doff, none⟩) fl dc, .bool er, .int .i64 wr'] 110) := ⟨_, rfl⟩
              obtain ⟨k1, hk1⟩ : ∃ v, v = wr.heap.size := ⟨_, rfl⟩
              have HV1 : Hid (wr.alloc (.cells #[.slice (some ⟨dk, doff, none⟩) fl dc, .bool er, .int .i64 wr'] 110) = v1 ∧ wr.heap.size = k1) := ⟨hv1.symm, hk1.symm⟩
              have b1 : Below wr.heap.size wr v1 := by rw [hv1]; exact (Below.refl _ _).alloc (Nat.le_refl _) _
              have q1 : v1.heap[k1]? = some (.cells #[.slice (some ⟨dk, doff, none⟩) fl dc, .bool er, .int .i64 wr'] 110 (0, 0)) := by rw [hv1, hk1]; exact heap_alloc_new _ _
              have HQ : Hid (∀ V, Below v1.heap.size v1 V → V.cell? ⟨k1, 0, none⟩ = some (.slice (some ⟨dk, doff, none⟩) fl dc) ∧ V.cell? ⟨k1, 1, none⟩ = some (.bool er) ∧ V.cell? ⟨k1, 2, none⟩ = some (.int .i64 wr') ∧ Seg V (some ⟨dk, doff, none⟩) F) := fun V hV => by
                have q2 := (hV.block _ (Array.getElem?_eq_some_iff.1 q1).1).trans q1
                exact ⟨three_cell0 q2, three_cell1 q2, three_cell2 q2, (ys.old b1).old hV⟩
              have HB1 : Hid (Below wr.heap.size wr v1) := b1
              have HOK : Hid (wr.ownsRow N 5 1 (.slice q M.length d') M.length (M.map (Value.int .u8)) ∧ Below N w wr) := ⟨hown, hB⟩
              have hw' : 0 ≤ wr' ∧ wr' ≤ 1099511627776 := hok.2
              have huw : IntKind.u64.wrap wr' = wr' := IntWalk.u64_in _ (by omega)
              have HBY' := rbytes_any wr' v1 (by omega) (by omega)
              obtain ⟨E, hE⟩ : ∃ E, E = encI wr' := ⟨_, rfl⟩
              have lE := encI_len wr'
              have hEb := encI_bd wr' (by omega) (by omega)
              rw [← hE] at HBY' lE hEb
              rw [← hE] at hX
              have HLE : Hid (1 ≤ E.length ∧ E.length ≤ 10 ∧ ∀ z ∈ E, 0 ≤ z ∧ z ≤ 255) := ⟨lE.1, lE.2, hEb⟩
              have HDK : Hid (dk < N) := by
                obtain ⟨b', o', e', hc'⟩ := ys0.at_ 0 (by rw [fb21_len HO.out]; have := HO.out.pg.1; omega)
                injection e' with e'
                injection e' with e1 _ _
                subst e1
                have := World.block_lt_of_cell? _ _ hc'
                rw [HN0.out] at this
                exact this
              have HFL : Hid (fl = F.length ∧ F.length ≤ 4096 ∧ 0 < F.length) := ⟨hfle, by have := HO.out.pg; rw [hfl]; exact ⟨this.2, by omega⟩⟩
              have HML : Hid (M.length ≤ 45 + 3 * 16822272 + 4096 * 4107) := by
                have h1 := pgl21_len HO.out (a : Int) k
                have h2 : k * 4107 ≤ 4096 * 4107 := Nat.mul_le_mul_right _ (by omega)
                have := HLL.out
                show _ ≤ _
                rw [hM.out, List.length_append]; omega
              have HMX : Hid (∀ R, R = encI wr' ++ (if er then [1] else 0 :: F) → M ++ R = L ++ pgl21 S (a : Int) (k + 1)) := fun R hR => by rw [pgl21_succ, hM.out, List.append_assoc, hX, hR, hE]
              have HEE : Hid (E = encI wr') := hE
              obtain ⟨ME, hME⟩ : ∃ x, x = M ++ E := ⟨_, rfl⟩
              have HMEE : Hid (ME = M ++ E ∧ ME.length = M.length + E.length) := ⟨hME, by rw [hME]; simp⟩
              have y2' : v1.cell? ⟨k1, 2, none⟩ = some (.int .i64 wr') := (HQ.out v1 (Below.refl _ _)).2.2.1
              clear hM hX hF her hwr' hfle hok hfl hE lE hEb hw' b1 q1 ys ys0 hown hB hME hv1 hk1
              rw [HV1.out.1.symm] at y2'
              go_upto_region 10 with fail
              rw [HV1.out.1, HV1.out.2]
              rw [HV1.out.1] at y2'
              clear y0 y1 y2
              go_wp2_with fail
              refine HBY'.mono ?_
              rintro e v2 ⟨u2, rfl, o2, b2⟩
              obtain ⟨p2, c2, rfl⟩ := own_sl21 o2
              obtain ⟨-, a5, cc5, hv, s2, -⟩ := own_seg (M := 255) o2 (by decide) HLE.out.2.2
              injection hv with q1 q2 q3
              subst q1
              clear q2 q3 HBY' y2' huw
              have B12 : Hid (Below v1.heap.size v1 v2) := b2
              have W2 : Hid (Below wr.heap.size wr v2) := HB1.out.trans (b2.mono HB1.out.size)
              obtain ⟨g3, c3, v3, hr3, o3, b3, k3, n3⟩ := app21g v2 (m := E.length) (N := ME) (c2 := c2) HMEE.out.1 (own_below21 HOK.out.1 W2.out) s2 rfl (by have := HLE.out.1; omega) (by have := HLE.out.2.1; have := HML.out; omega) (Nat.le_trans (NL.out _ HOK.out.2) W2.out.size)
              have O3 : Hid (v3.ownsRow N 5 1 (.slice (some ⟨g3, 0, none⟩) ME.length c3) ME.length (ME.map (Value.int .u8)) ∧ Below N w v3) := ⟨o3, (HOK.out.2.trans (W2.out.mono (NL.out _ HOK.out.2))).trans b3⟩
              have HQ3 : Hid (∀ V Q, Kp Q v2 V → (∀ k, Q k → (Value.slice q M.length d').ownBlock = some k ∨ v2.heap.size ≤ k) → V.cell? ⟨k1, 0, none⟩ = some (.slice (some ⟨dk, doff, none⟩) fl dc) ∧ V.cell? ⟨k1, 1, none⟩ = some (.bool er) ∧ Seg V (some ⟨dk, doff, none⟩) F) := fun V Q hk hQ => by
                obtain ⟨h0, h1, -, hs⟩ := HQ.out v2 B12.out
                have l1 := World.block_lt_of_cell? _ _ h0
                have hk1 : ¬ Q k1 := fun e => by
                  rcases hQ k1 e with e | e
                  · have := (HOK.out.1.lt _ e).2; have h2 := HV1.out.2; omega
                  · exact absurd l1 (by simp only; omega)
                refine ⟨?_, ?_, seg_kp21 hs hk (fun x hx e => ?_)⟩
                · rw [World.cell?_of_block (a := ⟨k1, 0, none⟩) (hk.block k1 l1 hk1)]; exact h0
                · rw [World.cell?_of_block (a := ⟨k1, 1, none⟩) (hk.block k1 l1 hk1)]; exact h1
                · cases hx
                  have h3 := HDK.out
                  rcases hQ dk e with e | e
                  · have := (HOK.out.1.lt _ e).1; omega
                  · have h4 := NL.out v2 (HOK.out.2.trans (W2.out.mono (NL.out _ HOK.out.2))); omega
              have N3 : Hid ((Value.slice q M.length d').ownBlock = some g3 ∨ v2.heap.size ≤ g3) := n3
              clear o2 b2 s2 o3 b3 n3
              obtain ⟨el, hel⟩ : ∃ l, l = E.length := ⟨_, rfl⟩
              rw [← hel] at hr3 ⊢
              clear hel
              have z1 := (HQ3.out v3 _ k3 (fun _ e => .inl e)).2.1
              have K3 : Hid (Kp (fun k => (Value.slice q M.length d').ownBlock = some k) v2 v3) := k3
              have L3 : Hid (N ≤ v3.heap.size) := NL.out _ O3.out.2
              clear k3
              cases er
              · obtain ⟨M0, hM0⟩ : ∃ x, x = ME ++ [0] := ⟨_, rfl⟩
                obtain ⟨MF, hMF⟩ : ∃ x, x = M0 ++ F := ⟨_, rfl⟩
                have HM0 : Hid (M0 = ME ++ [0] ∧ M0.length = ME.length + 1) := ⟨hM0, by rw [hM0]; simp⟩
                have HMF : Hid (MF = M0 ++ F) := hMF
                have HFIN : Hid (MF = L ++ pgl21 S (a : Int) (k + 1)) := by show _ = _; rw [hMF, hM0, HMEE.out.1, ← HMX.out (E ++ 0 :: F) (by rw [HEE.out]; rfl)]; simp
                clear hM0 hMF
                go_wp2_with (first | (at_builtin; refine wpList_app21 rfl (.tmp 54) (.tmp 58) 22 rfl rfl rfl hr3 ?_))
                clear z1 hr3
                obtain ⟨v4, hv4⟩ : ∃ v, v = v3.drew := ⟨_, rfl⟩
                have HV4 : Hid (v3.drew = v4) := hv4.symm
                have O4 : Hid (v4.ownsRow N 5 1 (.slice (some ⟨g3, 0, none⟩) ME.length c3) ME.length (ME.map (Value.int .u8)) ∧ Below N w v4) := by rw [hv4]; exact ⟨O3.out.1.drew, O3.out.2.trans ((Below.refl _ _).drew.mono (NL.out _ O3.out.2))⟩
                have K4 : Hid (Kp (fun k => (Value.slice q M.length d').ownBlock = some k) v2 v4) := by rw [hv4]; exact K3.out.trans (Kp.of_below ((Below.refl _ _).drew)) (fun _ _ e => e)
                clear hv4
                refine plain_region16 (fun V => V.cell? ⟨k1, 0, none⟩ = some (.slice (some ⟨dk, doff, none⟩) fl dc)) 7 (by kernel_rfl) (by rw [HV4.out]; exact (HQ3.out v4 _ K4.out (fun _ e => .inl e)).1) (fun hHeld => ?_)
                rw [HV4.out] at hHeld ⊢
                refine wpAnyK_take (i := 0) (v := .slice (some ⟨g3, 0, none⟩) ME.length c3) rfl (by kernel_rfl) (by kernel_rfl) (by kernel_rfl) (by kernel_rfl) (fun _ _ _ h => h) (Or.inl ⟨by rfl, fun w hSw => by go_simp⟩) hHeld ?_
                simp only [List.getElem_toArray, List.getElem_cons_zero, Act.put, List.setIfInBounds_toArray, List.set_cons_zero, List.set_cons_succ]
                refine wpAnyK_take (i := 3) (v := .pointer (some ⟨k1, 0, none⟩)) rfl (by kernel_rfl) (by kernel_rfl) (by kernel_rfl) (by kernel_rfl) (fun _ _ _ h => h) (Or.inl ⟨by rfl, fun w hSw => by go_simp⟩) hHeld ?_
                simp only [List.getElem_toArray, List.getElem_cons_zero, List.getElem_cons_succ, Act.put, List.setIfInBounds_toArray, List.set_cons_zero, List.set_cons_succ]
                refine wpAnyK_take (i := 4) (v := .slice (some ⟨dk, doff, none⟩) fl dc) rfl (by kernel_rfl) (by kernel_rfl) (by kernel_rfl) (by kernel_rfl) (fun _ _ _ h => h) (Or.inl ⟨by rfl, fun w hSw => by go_simp⟩) hHeld ?_
                simp only [List.getElem_toArray, List.getElem_cons_zero, List.getElem_cons_succ, Act.put, List.setIfInBounds_toArray, List.set_cons_zero, List.set_cons_succ]
                refine wpAnyK_one (i := 1) (by kernel_rfl) rfl (fun K hK => ?_)
                (try simp only [List.getElem_toArray, List.getElem_cons_zero, List.getElem_cons_succ, Act.put, List.setIfInBounds_toArray, List.set_cons_zero, List.set_cons_succ])
                go_simp
                have s5 := one_seg21 v4 0 (by decide)
                obtain ⟨v5, hv5⟩ : ∃ v, v = v4.alloc (.cells #[.int .u8 0] 5) := ⟨_, rfl⟩
                obtain ⟨g5, hg5⟩ : ∃ v, v = v4.heap.size := ⟨_, rfl⟩
                have B5 : Hid (Below v4.heap.size v4 v5) := by rw [hv5]; exact (Below.refl _ _).alloc (Nat.le_refl _) _
                rw [← hv5, ← hg5] at s5 ⊢
                clear hv5 hg5
                have K5 : Hid (Kp (fun k => (Value.slice q M.length d').ownBlock = some k) v2 v5) := K4.out.trans (Kp.of_below B5.out) (fun _ _ e => e)
                refine hK.out _ _ (fun _ => (HQ3.out v5 _ K5.out (fun _ e => .inl e)).1) (fun hHeld0 => ?_)
                have hHeld := hHeld0 (by decide)
                clear hHeld0 hK K
                (try simp only [List.getElem_toArray, List.getElem_cons_zero, List.getElem_cons_succ, Act.put, List.setIfInBounds_toArray, List.set_cons_zero, List.set_cons_succ])
                refine wpAnyK_one (i := 2) (by kernel_rfl) rfl (fun K hK => ?_)
                (try simp only [List.getElem_toArray, List.getElem_cons_zero, List.getElem_cons_succ, Act.put, List.setIfInBounds_toArray, List.set_cons_zero, List.set_cons_succ])
                rw [if_pos (by rfl)]
                obtain ⟨g6, c6, v6, hr6, o6, b6, k6, n6⟩ := app21g v5 (m := 1) (N := M0) (c2 := 1) HM0.out.1 (own_below21 O4.out.1 B5.out) s5 rfl (by decide) (by have := HMEE.out.2; have := HLE.out.2.1; have := HML.out; omega) (Nat.le_trans (NL.out _ O4.out.2) B5.out.size)
                refine operwp_app24 _ _ _ rfl rfl rfl hr6 ?_
                have O6 : Hid (v6.ownsRow N 5 1 (.slice (some ⟨g6, 0, none⟩) M0.length c6) M0.length (M0.map (Value.int .u8)) ∧ Below N w v6) := ⟨o6, (O4.out.2.trans (B5.out.mono (NL.out _ O4.out.2))).trans b6⟩
                have hG3 := O3.out.1
                have HG3 : Hid (∀ k, (Value.slice (some ⟨g3, 0, none⟩) ME.length c3).ownBlock = some k → (Value.slice q M.length d').ownBlock = some k ∨ v2.heap.size ≤ k) := fun k e => by cases e; exact N3.out
                have K6 : Hid (Kp (fun k => (Value.slice q M.length d').ownBlock = some k ∨ v2.heap.size ≤ k) v2 v6) := (K5.out.mono (fun _ _ e => .inl e)).trans (k6.mono (fun _ _ e => HG3.out _ e)) (fun _ _ e => e)
                have N6 : Hid ((Value.slice q M.length d').ownBlock = some g6 ∨ v2.heap.size ≤ g6) := by
                  rcases n6 with e | e
                  · exact HG3.out _ e
                  · exact .inr (Nat.le_trans (Nat.le_trans K4.out.size B5.out.size) e)
                clear hr6 o6 b6 k6 n6 hG3 s5
                refine hK.out _ _ (fun _ => (HQ3.out v6 _ K6.out (fun _ e => e)).1) (fun hHeld0 => ?_)
                have hHeld := hHeld0 (by decide)
                clear hHeld0 hK K
                simp only [Act.put, List.setIfInBounds_toArray, List.set_cons_zero, List.set_cons_succ]
                refine wpAnyK_one (i := 5) (by kernel_rfl) rfl (fun K hK => ?_)
                (try simp only [List.getElem_toArray, List.getElem_cons_zero, List.getElem_cons_succ, Act.put, List.setIfInBounds_toArray, List.set_cons_zero, List.set_cons_succ])
                rw [if_pos (by rfl)]
                obtain ⟨g7, c7, v7, hr7, o7, b7, k7⟩ := app21 v6 (m := fl) (N := MF) (c2 := dc) HMF.out O6.out.1 (HQ3.out v6 _ K6.out (fun _ e => e)).2.2 HFL.out.1.symm (by have := HFL.out; omega) (by have := HM0.out.2; have := HFL.out; have := HMEE.out.2; have := HLE.out.2.1; have := HML.out; omega) (NL.out _ O6.out.2)
                refine operwp_app24 _ _ _ rfl rfl rfl hr7 ?_
                have O7 : Hid (v7.ownsRow N 5 1 (.slice (some ⟨g7, 0, none⟩) MF.length c7) MF.length (MF.map (Value.int .u8)) ∧ Below N w v7) := ⟨o7, O6.out.2.trans b7⟩
                have K7 : Hid (Kp (fun k => (Value.slice q M.length d').ownBlock = some k ∨ v2.heap.size ≤ k) v2 v7) := K6.out.trans (k7.mono (fun _ _ e => by cases e; exact N6.out)) (fun _ _ e => e)
                clear hr7 o7 b7 k7 hHeld
                refine hK.out _ _ (fun _ => (HQ3.out v7 _ K7.out (fun _ e => e)).1) (fun _ => ?_)
                clear hK K
                (try simp only [List.getElem_toArray, List.getElem_cons_zero, List.getElem_cons_succ, Act.put, List.setIfInBounds_toArray, List.set_cons_zero, List.set_cons_succ])
                refine wpAnyK_one (i := 6) (by kernel_rfl) rfl (fun K hK => ?_)
                (try simp only [List.getElem_toArray, List.getElem_cons_zero, List.getElem_cons_succ, Act.put, List.setIfInBounds_toArray, List.set_cons_zero, List.set_cons_succ])
                go_simp
                refine hK.out _ _ (fun _ => (HQ3.out v7 _ K7.out (fun _ e => e)).1) (fun _ => ?_)
                clear hK K
                refine wpAnyK_done (by kernel_rfl) ?_ _
                go_wp2_with fail
                go_roundw
                case rel => exact ⟨k + 1, some ⟨g7, 0, none⟩, c7, MF, by omega, rfl, rfl, HFIN.out, O7.out.1, O7.out.2⟩
                case measure => simp [intOf]; omega
              · obtain ⟨M1, hM1⟩ : ∃ x, x = ME ++ [1] := ⟨_, rfl⟩
                have HM1 : Hid (M1 = L ++ pgl21 S (a : Int) (k + 1)) := by show _ = _; rw [hM1, HMEE.out.1, ← HMX.out (E ++ [1]) (by rw [HEE.out]; rfl)]; simp
                have s4 := one_seg21 v3 1 (by decide)
                have bA : Below v3.heap.size v3 (v3.alloc (.cells #[.int .u8 1] 5)) := (Below.refl _ _).alloc (Nat.le_refl _) _
                obtain ⟨g6, c6, v6, hr6, o6, b6, -⟩ := app21 (v3.alloc (.cells #[.int .u8 1] 5)) (m := 1) (N := M1) (c2 := 1) hM1 (own_below21 O3.out.1 bA) s4 rfl (by decide) (by have := HMEE.out.2; have := HLE.out.2.1; have := HML.out; omega) (Nat.le_trans L3.out bA.size)
                have O6 : Hid (v6.ownsRow N 5 1 (.slice (some ⟨g6, 0, none⟩) M1.length c6) M1.length (M1.map (Value.int .u8)) ∧ Below N w v6) := ⟨o6, (O3.out.2.trans (bA.mono L3.out)).trans b6⟩
                clear hM1 s4 bA o6 b6
                go_wp2_with (first | (at_builtin; refine wpList_app21 rfl (.tmp 54) (.tmp 58) 22 rfl rfl rfl hr3 ?_) | (at_builtin; refine wpList_app21 rfl (.tmp 62) (.tmp 63) 22 rfl rfl rfl hr6 ?_))
                go_roundw
                case rel => exact ⟨k + 1, some ⟨g6, 0, none⟩, c6, M1, by omega, rfl, rfl, HM1.out, O6.out.1, O6.out.2⟩
                case measure => simp [intOf]; omega
            · obtain rfl : k = n := by omega
              have hki : ¬ (k : Int) < (k : Int) := by omega
              have HOK : Hid (wr.ownsRow N 5 1 (.slice q M.length d') M.length (M.map (Value.int .u8)) ∧ Below N w wr) := ⟨hown, hB⟩
              have HMN : Hid (M = H0 ++ arl21 S (a + 1)) := by show _ = _; rw [arl21_succ, ← List.append_assoc, ← hL.out, ← HN.out.1]; exact hM.out
              clear hown hB
              go_wp2_with fail
              go_roundw
              case rel => exact ⟨a + 1, q, d', M, by omega, rfl, rfl, HMN.out, HOK.out.1, HOK.out.2⟩
              case measure => simp [intOf]; omega
        · obtain rfl : a = 3 := by omega
          have hii : ¬ ((3 : Nat) : Int) < 3 := by omega
          have HOK : Hid (wr.ownsRow N 5 1 (.slice p L.length d) L.length (L.map (Value.int .u8)) ∧ Below N w wr) := ⟨hown, hB⟩
          have HLB : Hid (L = svb21 S) := by show _ = _; rw [hL.out, HH0.out]; rfl
          have hbd := svb21_bd HO.out HBY.out
          rw [← HLB.out] at hbd
          obtain ⟨-, a5, cc5, hv, s5, -⟩ := own_seg (M := 255) hown (by decide) hbd
          injection hv with q1 q2 q3
          subst q1
          clear q2 q3
          have hl0 := svb21_len HO.out
          rw [← HLB.out] at hl0
          have HMO := rmore21 L p L.length d wr s5 rfl (by omega)
          have b0 := wI_bd21 (sumW L)
          obtain ⟨sw, hsw⟩ : ∃ x, x = wI (sumW L) := ⟨_, rfl⟩
          rw [← hsw] at HMO b0
          have HFX := rfixed_any sw 4 wr (by decide) (by decide) (by omega) (by omega)
          have huw : IntKind.u64.wrap sw = sw := IntWalk.u64_in _ (by omega)
          have HSW : Hid (sw / 2 ^ (8 * 4) = 0) := by show sw / 4294967296 = 0; omega
          obtain ⟨T, hT⟩ : ∃ t, t = fixL 4 sw := ⟨_, rfl⟩
          have hTl : T.length = 4 := by rw [hT]; exact fixL_len _ _
          have HTL : Hid (T.length = 4 ∧ ∀ z ∈ T, 0 ≤ z ∧ z ≤ 255) := ⟨hTl, by rw [hT]; exact fixL_bd _ _⟩
          have HLT : Hid (L ++ T = sav21 S) := by show _ = _; rw [hT, hsw, HLB.out]; rfl
          have HL0 : Hid (L.length ≤ 60000000) := hl0
          rw [← hT] at HFX
          obtain ⟨LT, hLT⟩ : ∃ t, t = L ++ T := ⟨_, rfl⟩
          have HLTE : Hid (LT = L ++ T) := hLT
          clear hT hTl hl0 hbd s5 hown hB hLT b0 hsw
          go_wp2_with fail
          refine HMO.mono ?_
          rintro e v1 ⟨rfl, hw⟩
          subst v1
          go_wp2_with fail
          refine HFX.mono ?_
          rintro e v5 ⟨b5, h5⟩
          rcases h5 with ⟨h5, -⟩ | ⟨-, x5, rfl, o5⟩
          · exact absurd HSW.out h5
          obtain ⟨p5, c5, rfl⟩ := own_sl21 o5
          obtain ⟨-, a5, cc5, hv, s5, -⟩ := own_seg (M := 255) o5 (by decide) HTL.out.2
          injection hv with q1 q2 q3
          subst q1
          clear HMO HFX q2 q3
          obtain ⟨g6, c6, w6, hr6, o6, b6, -⟩ := app21 v5 (m := 4) (N := LT) (c2 := c5) HLTE.out (own_below21 HOK.out.1 b5) s5 HTL.out.1 (by decide) (by have := HL0.out; omega) (Nat.le_trans (NL.out _ HOK.out.2) b5.size)
          have HF : Hid (SvQ21 w S (.returned (.tuple #[.slice (some ⟨g6, 0, none⟩) LT.length c6, .int .i64 0])) w6) := by
            have e1 : LT = sav21 S := HLTE.out.trans HLT.out
            have b7 := (HOK.out.2.trans (b5.mono (NL.out _ HOK.out.2))).trans b6
            rw [← HN0.out] at o6 b7
            exact ⟨.inr ⟨HON.out, some ⟨g6, 0, none⟩, c6, by rw [e1], by rw [e1] at o6; exact o6⟩, b7⟩
          clear o5 s5 b5 o6 b6
          go_wp2_with (first | (at_builtin; refine wpList_app21 rfl (.tmp 79) (.tmp 80) 22 rfl rfl rfl hr6 ?_))
          go_ret2
          exact HF.out
end Go.Proofs.YtmjlpfmacblcpaaDoor
