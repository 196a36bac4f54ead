import Derived.Test.YtmjlpfmacblcpaaDoorPd
namespace Go.Proofs.YtmjlpfmacblcpaaDoor
open Go.RowKit Go.Shelf
set_option linter.unusedVariables false
set_option linter.unusedSimpArgs false
theorem Fs25.one {V : World} {N rb a s : Nat} (h : Fb25 V N rb 0 a s) : Fs25 V N rb 1 [fv25 0 a s] := ⟨rfl, fun k hk => by
  have : k = 0 := by omega
  subst this
  exact ⟨a, s, rfl, h⟩⟩
theorem own_one25 (w : World) (N : Nat) (v : Value) (t : TypeId) (hN : N ≤ w.heap.size) (hv : v.cells = #[v]) : (w.alloc (.cells #[v] t)).ownsRow N t 1 (.slice (some ⟨w.heap.size, 0, none⟩) 1 1) 1 [v] :=
  ⟨rfl, .inr ⟨w.heap.size, 1, #[v], rfl, hN, heap_alloc_new _ _, by simp, by unfold maxLen; simp, rfl, rfl⟩⟩
theorem own_ty25 {V : World} {N n k : Nat} {e t : TypeId} {v : Value} {xs : List Value} {cs : Array Value} {fr : Nat × Nat} (ho : V.ownsRow N e 1 v n xs) (hk : v.ownBlock = some k) (hc : V.heap[k]? = some (.cells cs t fr)) : t = e := by
  rcases ho.2 with ⟨h1, _⟩ | ⟨g, cp, cu, h1, h2, h3, _⟩
  · rw [h1] at hk; cases hk
  · rw [h1] at hk
    have : g = k := by simpa [Value.ownBlock] using hk
    subst this
    rw [h3] at hc
    injection hc with hc
    injection hc with _ h _
    exact h.symm
theorem fpt25_ne (k : Nat) : fpt25 k ≠ 151 := by
  unfold fpt25
  cases fu25 k <;> decide
theorem Fb25.app {V W : World} {N rb k a s n c : Nat} {p : Option Addr} {xs : List Value} (h : Fb25 V N rb k a s) (ho : V.ownsRow N 151 1 (.slice p n c) n xs) (hk : Kp (fun k => (Value.slice p n c).ownBlock = some k) V W) : Fb25 W N rb k a s :=
  h.kp hk (fun e => fpt25_ne k (own_ty25 ho e h.ha)) (fun e => absurd (own_ty25 ho e h.hs) (by decide))
/-- What holds at the loop's head. -/
def Hf25 (w : World) (N rb bp : Nat) (t3 t19 : Value) (V : World) : Prop := ∃ i : Nat, i ≤ 2 ∧ t19 = .int .i64 (i : Int) ∧ ∃ p c xs, t3 = .slice p (1 + 4 * i) c ∧ V.ownsRow N 151 1 (.slice p (1 + 4 * i) c) (1 + 4 * i) xs ∧ Fs25 V N rb (1 + 4 * i) xs ∧ Below N w V ∧ V.heap[bp]? = some (.cells #[.pointer (some ⟨rb, 1, none⟩), .pointer (some ⟨rb, 5, none⟩)] 195 (0, 0))
/-- A row more. -/
theorem Fs25.push {w V W : World} {N rb bp n m c : Nat} {p : Option Addr} {xs news : List Value} (hN : N ≤ w.heap.size) (hF : Fs25 V N rb n xs) (hB : Below N w V) (hp : V.heap[bp]? = some (.cells #[.pointer (some ⟨rb, 1, none⟩), .pointer (some ⟨rb, 5, none⟩)] 195 (0, 0)))
    (hm : news.length = m) (hn : ∀ j, j < m → ∃ a s, news[j]? = some (fv25 (n + j) a s) ∧ Fb25 V N rb (n + j) a s) (ho : V.ownsRow N 151 1 (.slice p n c) n xs)
    (hk : Kp (fun k => (Value.slice p n c).ownBlock = some k) V W) : Fs25 W N rb (n + m) (xs ++ news) ∧ Below N w W ∧ W.heap[bp]? = some (.cells #[.pointer (some ⟨rb, 1, none⟩), .pointer (some ⟨rb, 5, none⟩)] 195 (0, 0)) := by
  have h1 : ∀ k a s, Fb25 V N rb k a s → Fb25 W N rb k a s := fun k a s h => h.app ho hk
  refine ⟨Fs25.app ⟨hF.1, fun k hk => ?_⟩ hm (fun j hj => ?_), hB.trans (hk.below (fun k e => (ho.lt k e).1) (Nat.le_trans hN hB.size)), hk.heap hp (fun e => absurd (own_ty25 ho e hp) (by decide))⟩
  · obtain ⟨a, s, e, f⟩ := hF.2 k hk
    exact ⟨a, s, e, h1 _ _ _ f⟩
  · obtain ⟨a, s, e, f⟩ := hn j hj
    exact ⟨a, s, e, h1 _ _ _ f⟩
set_option maxRecDepth 100000 in
set_option maxHeartbeats 16000000 in
theorem pfields25 (rb : Nat) (w : World) : Calls Tryd.prog 79 #[.pointer (some ⟨rb, 0, none⟩)] w fun e w' => ∃ p c xs, e = .returned (.slice p 10 c) ∧ w'.ownsRow w.heap.size 151 1 (.slice p 10 c) 10 xs ∧ Fs25 w' w.heap.size rb 10 xs ∧ Below w.heap.size w w' := by
  obtain ⟨N, hN⟩ : ∃ N, N = w.heap.size := ⟨_, rfl⟩
  have HN : Hid (N = w.heap.size) := hN
  rw [← hN]
  clear hN
  go_enter Tryd.func79, Tryd.ntmps79
  go_wp2_with fail
  refine (pnum25i rb 0 8 w rfl rfl).mono ?_
  rintro e0 w0 ⟨a0, s0, he0, f0, b0⟩
  have he0 : e0 = .returned (.func (.func 125) #[] #[.pointer (some ⟨a0, 0, none⟩), .pointer (some ⟨s0, 0, none⟩)]) := he0
  subst he0
  rw [← HN.out] at f0 b0
  have H0 : Hid (Fb25 w0 N rb 0 a0 s0 ∧ Below N w w0) := ⟨f0, b0⟩
  clear f0 b0
  go_wp2_with fail
  obtain ⟨w1, hw1⟩ : ∃ v, v = w0.alloc (.cells #[.func (.func 125) #[] #[.pointer (some ⟨a0, 0, none⟩), .pointer (some ⟨s0, 0, none⟩)]] 151) := ⟨_, rfl⟩
  have h1b : Below w0.heap.size w0 w1 := by rw [hw1]; exact (Below.refl _ _).alloc (Nat.le_refl _) _
  have h1o := own_one25 w0 N (.func (.func 125) #[] #[.pointer (some ⟨a0, 0, none⟩), .pointer (some ⟨s0, 0, none⟩)]) 151 (Nat.le_trans (Nat.le_of_eq HN.out) H0.out.2.size) rfl
  rw [← hw1] at h1o
  have H1 : Hid (w1.ownsRow N 151 1 (.slice (some ⟨w0.heap.size, 0, none⟩) 1 1) 1 [.func (.func 125) #[] #[.pointer (some ⟨a0, 0, none⟩), .pointer (some ⟨s0, 0, none⟩)]] ∧ Fs25 w1 N rb 1 [.func (.func 125) #[] #[.pointer (some ⟨a0, 0, none⟩), .pointer (some ⟨s0, 0, none⟩)]] ∧ Below N w w1) := ⟨h1o, Fs25.one (H0.out.1.old h1b), H0.out.2.trans (h1b.mono (Nat.le_trans (Nat.le_of_eq HN.out) H0.out.2.size))⟩
  rw [← hw1]
  obtain ⟨g0, hg0⟩ : ∃ g, g = w0.heap.size := ⟨_, rfl⟩
  rw [← hg0] at H1 ⊢
  clear hw1 h1b h1o hg0
  obtain ⟨v0, hv0⟩ : ∃ v, v = w1.drew := ⟨_, rfl⟩
  have HV0 : Hid (w1.drew = v0) := hv0.symm
  have J0 : Hid (v0.ownsRow N 151 1 (.slice (some ⟨g0, 0, none⟩) 1 1) 1 [.func (.func 125) #[] #[.pointer (some ⟨a0, 0, none⟩), .pointer (some ⟨s0, 0, none⟩)]] ∧ Fs25 v0 N rb 1 [.func (.func 125) #[] #[.pointer (some ⟨a0, 0, none⟩), .pointer (some ⟨s0, 0, none⟩)]] ∧ Below N w v0) := by rw [hv0]; exact ⟨H1.out.1, ⟨H1.out.2.1.1, fun k hk => by obtain ⟨a, s, e, f⟩ := H1.out.2.1.2 k hk; exact ⟨a, s, e, f.la, f.ls, f.ha, f.hs⟩⟩, H1.out.2.2.drew⟩
  clear hv0
  refine plain_region16 (fun _ => True) 9 (by kernel_rfl) trivial (fun hHeld0 => ?_)
  rw [HV0.out]
  have hHeld : (fun _ : World => True) v0 := trivial
  clear hHeld0
  refine wpAnyK_take (i := 0) (v := .pointer (some ⟨rb, 0, none⟩)) rfl (by kernel_rfl) (by kernel_rfl) (by kernel_rfl) (by kernel_rfl) (fun _ _ _ h => h) (Or.inl ⟨by rfl, fun w hSw => by go_simp⟩) hHeld ?_
  simp only [List.getElem_toArray, List.getElem_cons_zero, Act.put, List.setIfInBounds_toArray, List.set_cons_zero, List.set_cons_succ]
  refine wpAnyK_take (i := 1) (v := .pointer (some ⟨rb, 0, none⟩)) rfl (by kernel_rfl) (by kernel_rfl) (by kernel_rfl) (by kernel_rfl) (fun _ _ _ h => h) (Or.inl ⟨by rfl, fun w hSw => by go_simp⟩) hHeld ?_
  simp only [List.getElem_toArray, List.getElem_cons_zero, List.getElem_cons_succ, Act.put, List.setIfInBounds_toArray, List.set_cons_zero, List.set_cons_succ]
  refine wpAnyK_take (i := 2) (v := .pointer (some ⟨rb, 1, none⟩)) rfl (by kernel_rfl) (by kernel_rfl) (by kernel_rfl) (by kernel_rfl) (fun _ _ _ h => h) (Or.inl ⟨by rfl, fun w hSw => by go_simp⟩) hHeld ?_
  simp only [List.getElem_toArray, List.getElem_cons_zero, List.getElem_cons_succ, Act.put, List.setIfInBounds_toArray, List.set_cons_zero, List.set_cons_succ]
  refine wpAnyK_take (i := 3) (v := .pointer (some ⟨rb, 0, none⟩)) rfl (by kernel_rfl) (by kernel_rfl) (by kernel_rfl) (by kernel_rfl) (fun _ _ _ h => h) (Or.inl ⟨by rfl, fun w hSw => by go_simp⟩) hHeld ?_
  simp only [List.getElem_toArray, List.getElem_cons_zero, List.getElem_cons_succ, Act.put, List.setIfInBounds_toArray, List.set_cons_zero, List.set_cons_succ]
  refine wpAnyK_take (i := 4) (v := .pointer (some ⟨rb, 0, none⟩)) rfl (by kernel_rfl) (by kernel_rfl) (by kernel_rfl) (by kernel_rfl) (fun _ _ _ h => h) (Or.inl ⟨by rfl, fun w hSw => by go_simp⟩) hHeld ?_
  simp only [List.getElem_toArray, List.getElem_cons_zero, List.getElem_cons_succ, Act.put, List.setIfInBounds_toArray, List.set_cons_zero, List.set_cons_succ]
  refine wpAnyK_take (i := 5) (v := .pointer (some ⟨rb, 5, none⟩)) rfl (by kernel_rfl) (by kernel_rfl) (by kernel_rfl) (by kernel_rfl) (fun _ _ _ h => h) (Or.inl ⟨by rfl, fun w hSw => by go_simp⟩) hHeld ?_
  simp only [List.getElem_toArray, List.getElem_cons_zero, List.getElem_cons_succ, Act.put, List.setIfInBounds_toArray, List.set_cons_zero, List.set_cons_succ]
  refine wpAnyK_take (i := 8) (v := .int .i64 0) rfl (by kernel_rfl) (by kernel_rfl) (by kernel_rfl) (by kernel_rfl) (fun _ _ _ h => h) (Or.inl ⟨by rfl, fun w hSw => by go_simp⟩) hHeld ?_
  simp only [List.getElem_toArray, List.getElem_cons_zero, List.getElem_cons_succ, Act.put, List.setIfInBounds_toArray, List.set_cons_zero, List.set_cons_succ]
  refine wpAnyK_one (i := 6) (by kernel_rfl) rfl (fun K hK => ?_)
  (try simp only [List.getElem_toArray, List.getElem_cons_zero, List.getElem_cons_succ, Act.put, List.setIfInBounds_toArray, List.set_cons_zero, List.set_cons_succ])
  go_simp
  obtain ⟨v1, hv1⟩ : ∃ v, v = v0.alloc (.cells #[.pointer (some ⟨rb, 1, none⟩), .pointer (some ⟨rb, 5, none⟩)] 195) := ⟨_, rfl⟩
  obtain ⟨bp, hbp⟩ : ∃ b, b = v0.heap.size := ⟨_, rfl⟩
  have b1 : Below v0.heap.size v0 v1 := by rw [hv1]; exact (Below.refl _ _).alloc (Nat.le_refl _) _
  have q1 : v1.heap[bp]? = some (.cells #[.pointer (some ⟨rb, 1, none⟩), .pointer (some ⟨rb, 5, none⟩)] 195 (0, 0)) := by rw [hv1, hbp]; exact heap_alloc_new _ _
  rw [← hv1, ← hbp]
  have J1 : Hid (Hf25 w N rb bp (.slice (some ⟨g0, 0, none⟩) 1 1) (.int .i64 0) v1) := ⟨0, by omega, rfl, _, _, _, rfl, own_below21 J0.out.1 b1, J0.out.2.1.old b1, J0.out.2.2.trans (b1.mono (Nat.le_trans (Nat.le_of_eq HN.out) J0.out.2.2.size)), q1⟩
  clear hv1 hbp b1 q1
  refine hK.out _ _ (fun _ => trivial) (fun hHeld0 => ?_)
  have hHeld := hHeld0 (by decide)
  clear hHeld0 hK K
  (try simp only [List.getElem_toArray, List.getElem_cons_zero, List.getElem_cons_succ, Act.put, List.setIfInBounds_toArray, List.set_cons_zero, List.set_cons_succ])
  refine wpAnyK_one (i := 7) (by kernel_rfl) rfl (fun K hK => ?_)
  (try simp only [List.getElem_toArray, List.getElem_cons_zero, List.getElem_cons_succ, Act.put, List.setIfInBounds_toArray, List.set_cons_zero, List.set_cons_succ])
  go_simp
  refine hK.out _ _ (fun _ => trivial) (fun hHeld0 => ?_)
  have hHeld := hHeld0 (by decide)
  clear hHeld0 hK K
  (try simp only [List.getElem_toArray, List.getElem_cons_zero, List.getElem_cons_succ, Act.put, List.setIfInBounds_toArray, List.set_cons_zero, List.set_cons_succ])
  refine wpAnyK_done (by kernel_rfl) ?_ _
  go_wp2_with fail
  go_loopw [3, 19] (fun t3 t19 V => Hf25 w N rb bp t3 t19 V) (fun _ t19 _ => 2 - (intOf t19).toNat)
  case atStart => exact J1.out
  case round =>
    obtain ⟨i, hi, rfl, p, c, xs, rfl, ho, hF, hB, hp⟩ := hrel
    have HR : Hid (wr.ownsRow N 151 1 (.slice p (1 + 4 * i) c) (1 + 4 * i) xs ∧ Fs25 wr N rb (1 + 4 * i) xs ∧ Below N w wr ∧ wr.heap[bp]? = some (.cells #[.pointer (some ⟨rb, 1, none⟩), .pointer (some ⟨rb, 5, none⟩)] 195 (0, 0))) := ⟨ho, hF, hB, hp⟩
    clear ho hF hB hp J1 J0 HV0 H1 H0
    rcases (by omega : i = 0 ∨ i = 1 ∨ i = 2) with rfl | rfl | rfl
    · have hpp : wr.cell? ⟨bp, 0, none⟩ = some (.pointer (some ⟨rb, 1, none⟩)) := cell25 HR.out.2.2.2 rfl
      go_wp2_with fail
      clear hpp
      obtain ⟨v0, hv0⟩ : ∃ v, v = wr.drew := ⟨_, rfl⟩
      have HV0 : Hid (wr.drew = v0) := hv0.symm
      have J0 : Hid (v0.ownsRow N 151 1 (.slice p 1 c) 1 xs ∧ Fs25 v0 N rb 1 xs ∧ Below N w v0 ∧ v0.heap[bp]? = some (.cells #[.pointer (some ⟨rb, 1, none⟩), .pointer (some ⟨rb, 5, none⟩)] 195 (0, 0))) := by rw [hv0]; exact ⟨HR.out.1, ⟨HR.out.2.1.1, fun k hk => by obtain ⟨a, s, e, f⟩ := HR.out.2.1.2 k hk; exact ⟨a, s, e, f.la, f.ls, f.ha, f.hs⟩⟩, HR.out.2.2.1.drew, HR.out.2.2.2⟩
      clear hv0 HR
      refine plain_region16 (fun _ => True) 19 (by kernel_rfl) trivial (fun hHeld0 => ?_)
      rw [HV0.out]
      have hHeld : (fun _ : World => True) v0 := trivial
      clear hHeld0 HV0
      refine wpAnyK_take (i := 0) (v := .slice p 1 c) rfl (by kernel_rfl) (by kernel_rfl) (by kernel_rfl) (by kernel_rfl) (fun _ _ _ h => h) (Or.inl ⟨by rfl, fun w hSw => by go_simp⟩) hHeld ?_
      simp only [List.getElem_toArray, List.getElem_cons_zero, Act.put, List.setIfInBounds_toArray, List.set_cons_zero, List.set_cons_succ]
      refine wpAnyK_take (i := 1) (v := .pointer (some ⟨rb, 1, none⟩)) rfl (by kernel_rfl) (by kernel_rfl) (by kernel_rfl) (by kernel_rfl) (fun _ _ _ h => h) (Or.inl ⟨by rfl, fun w hSw => by go_simp⟩) hHeld ?_
      simp only [List.getElem_toArray, List.getElem_cons_zero, List.getElem_cons_succ, Act.put, List.setIfInBounds_toArray, List.set_cons_zero, List.set_cons_succ]
      refine wpAnyK_take (i := 2) (v := .pointer (some ⟨rb, 1, none⟩)) rfl (by kernel_rfl) (by kernel_rfl) (by kernel_rfl) (by kernel_rfl) (fun _ _ _ h => h) (Or.inl ⟨by rfl, fun w hSw => by go_simp⟩) hHeld ?_
      simp only [List.getElem_toArray, List.getElem_cons_zero, List.getElem_cons_succ, Act.put, List.setIfInBounds_toArray, List.set_cons_zero, List.set_cons_succ]
      refine wpAnyK_take (i := 3) (v := .pointer (some ⟨rb, 1, none⟩)) rfl (by kernel_rfl) (by kernel_rfl) (by kernel_rfl) (by kernel_rfl) (fun _ _ _ h => h) (Or.inl ⟨by rfl, fun w hSw => by go_simp⟩) hHeld ?_
      simp only [List.getElem_toArray, List.getElem_cons_zero, List.getElem_cons_succ, Act.put, List.setIfInBounds_toArray, List.set_cons_zero, List.set_cons_succ]
      refine wpAnyK_take (i := 5) (v := .pointer (some ⟨rb, 1, none⟩)) rfl (by kernel_rfl) (by kernel_rfl) (by kernel_rfl) (by kernel_rfl) (fun _ _ _ h => h) (Or.inl ⟨by rfl, fun w hSw => by go_simp⟩) hHeld ?_
      simp only [List.getElem_toArray, List.getElem_cons_zero, List.getElem_cons_succ, Act.put, List.setIfInBounds_toArray, List.set_cons_zero, List.set_cons_succ]
      refine wpAnyK_take (i := 6) (v := .pointer (some ⟨rb, 1, none⟩)) rfl (by kernel_rfl) (by kernel_rfl) (by kernel_rfl) (by kernel_rfl) (fun _ _ _ h => h) (Or.inl ⟨by rfl, fun w hSw => by go_simp⟩) hHeld ?_
      simp only [List.getElem_toArray, List.getElem_cons_zero, List.getElem_cons_succ, Act.put, List.setIfInBounds_toArray, List.set_cons_zero, List.set_cons_succ]
      refine wpAnyK_take (i := 7) (v := .pointer (some ⟨rb, 2, none⟩)) rfl (by kernel_rfl) (by kernel_rfl) (by kernel_rfl) (by kernel_rfl) (fun _ _ _ h => h) (Or.inl ⟨by rfl, fun w hSw => by go_simp⟩) hHeld ?_
      simp only [List.getElem_toArray, List.getElem_cons_zero, List.getElem_cons_succ, Act.put, List.setIfInBounds_toArray, List.set_cons_zero, List.set_cons_succ]
      refine wpAnyK_take (i := 9) (v := .pointer (some ⟨rb, 1, none⟩)) rfl (by kernel_rfl) (by kernel_rfl) (by kernel_rfl) (by kernel_rfl) (fun _ _ _ h => h) (Or.inl ⟨by rfl, fun w hSw => by go_simp⟩) hHeld ?_
      simp only [List.getElem_toArray, List.getElem_cons_zero, List.getElem_cons_succ, Act.put, List.setIfInBounds_toArray, List.set_cons_zero, List.set_cons_succ]
      refine wpAnyK_take (i := 10) (v := .pointer (some ⟨rb, 1, none⟩)) rfl (by kernel_rfl) (by kernel_rfl) (by kernel_rfl) (by kernel_rfl) (fun _ _ _ h => h) (Or.inl ⟨by rfl, fun w hSw => by go_simp⟩) hHeld ?_
      simp only [List.getElem_toArray, List.getElem_cons_zero, List.getElem_cons_succ, Act.put, List.setIfInBounds_toArray, List.set_cons_zero, List.set_cons_succ]
      refine wpAnyK_take (i := 11) (v := .pointer (some ⟨rb, 3, none⟩)) rfl (by kernel_rfl) (by kernel_rfl) (by kernel_rfl) (by kernel_rfl) (fun _ _ _ h => h) (Or.inl ⟨by rfl, fun w hSw => by go_simp⟩) hHeld ?_
      simp only [List.getElem_toArray, List.getElem_cons_zero, List.getElem_cons_succ, Act.put, List.setIfInBounds_toArray, List.set_cons_zero, List.set_cons_succ]
      refine wpAnyK_take (i := 13) (v := .pointer (some ⟨rb, 1, none⟩)) rfl (by kernel_rfl) (by kernel_rfl) (by kernel_rfl) (by kernel_rfl) (fun _ _ _ h => h) (Or.inl ⟨by rfl, fun w hSw => by go_simp⟩) hHeld ?_
      simp only [List.getElem_toArray, List.getElem_cons_zero, List.getElem_cons_succ, Act.put, List.setIfInBounds_toArray, List.set_cons_zero, List.set_cons_succ]
      refine wpAnyK_take (i := 14) (v := .pointer (some ⟨rb, 1, none⟩)) rfl (by kernel_rfl) (by kernel_rfl) (by kernel_rfl) (by kernel_rfl) (fun _ _ _ h => h) (Or.inl ⟨by rfl, fun w hSw => by go_simp⟩) hHeld ?_
      simp only [List.getElem_toArray, List.getElem_cons_zero, List.getElem_cons_succ, Act.put, List.setIfInBounds_toArray, List.set_cons_zero, List.set_cons_succ]
      refine wpAnyK_take (i := 15) (v := .pointer (some ⟨rb, 4, none⟩)) rfl (by kernel_rfl) (by kernel_rfl) (by kernel_rfl) (by kernel_rfl) (fun _ _ _ h => h) (Or.inl ⟨by rfl, fun w hSw => by go_simp⟩) hHeld ?_
      simp only [List.getElem_toArray, List.getElem_cons_zero, List.getElem_cons_succ, Act.put, List.setIfInBounds_toArray, List.set_cons_zero, List.set_cons_succ]
      refine wpAnyK_one (i := 4) (by kernel_rfl) rfl (fun K hK => ?_)
      (try simp only [List.getElem_toArray, List.getElem_cons_zero, List.getElem_cons_succ, Act.put, List.setIfInBounds_toArray, List.set_cons_zero, List.set_cons_succ])
      go_simp
      refine (pnum25i rb 1 1 v0 rfl rfl).mono ?_
      rintro e1 u1 ⟨a1, s1, he, ff1, bb1⟩
      have he : e1 = .returned (.func (.func 125) #[] #[.pointer (some ⟨a1, 0, none⟩), .pointer (some ⟨s1, 0, none⟩)]) := he
      subst he
      have Q1 : Hid (Fb25 u1 v0.heap.size rb 1 a1 s1 ∧ Below v0.heap.size v0 u1) := ⟨ff1, bb1⟩
      clear ff1 bb1
      refine hK.out _ _ (fun _ => trivial) (fun hHeld0 => ?_)
      have hHeld := hHeld0 (by decide)
      clear hHeld0 hK K
      (try simp only [List.getElem_toArray, List.getElem_cons_zero, List.getElem_cons_succ, Act.put, List.setIfInBounds_toArray, List.set_cons_zero, List.set_cons_succ])
      refine wpAnyK_one (i := 8) (by kernel_rfl) rfl (fun K hK => ?_)
      (try simp only [List.getElem_toArray, List.getElem_cons_zero, List.getElem_cons_succ, Act.put, List.setIfInBounds_toArray, List.set_cons_zero, List.set_cons_succ])
      go_simp
      refine (pnum25i rb 2 4 u1 rfl rfl).mono ?_
      rintro e2 u2 ⟨a2, s2, he, ff2, bb2⟩
      have he : e2 = .returned (.func (.func 125) #[] #[.pointer (some ⟨a2, 0, none⟩), .pointer (some ⟨s2, 0, none⟩)]) := he
      subst he
      have Q2 : Hid (Fb25 u2 u1.heap.size rb 2 a2 s2 ∧ Below u1.heap.size u1 u2) := ⟨ff2, bb2⟩
      clear ff2 bb2
      refine hK.out _ _ (fun _ => trivial) (fun hHeld0 => ?_)
      have hHeld := hHeld0 (by decide)
      clear hHeld0 hK K
      (try simp only [List.getElem_toArray, List.getElem_cons_zero, List.getElem_cons_succ, Act.put, List.setIfInBounds_toArray, List.set_cons_zero, List.set_cons_succ])
      refine wpAnyK_one (i := 12) (by kernel_rfl) rfl (fun K hK => ?_)
      (try simp only [List.getElem_toArray, List.getElem_cons_zero, List.getElem_cons_succ, Act.put, List.setIfInBounds_toArray, List.set_cons_zero, List.set_cons_succ])
      go_simp
      refine (pnum25i rb 3 4 u2 rfl rfl).mono ?_
      rintro e3 u3 ⟨a3, s3, he, ff3, bb3⟩
      have he : e3 = .returned (.func (.func 125) #[] #[.pointer (some ⟨a3, 0, none⟩), .pointer (some ⟨s3, 0, none⟩)]) := he
      subst he
      have Q3 : Hid (Fb25 u3 u2.heap.size rb 3 a3 s3 ∧ Below u2.heap.size u2 u3) := ⟨ff3, bb3⟩
      clear ff3 bb3
      refine hK.out _ _ (fun _ => trivial) (fun hHeld0 => ?_)
      have hHeld := hHeld0 (by decide)
      clear hHeld0 hK K
      (try simp only [List.getElem_toArray, List.getElem_cons_zero, List.getElem_cons_succ, Act.put, List.setIfInBounds_toArray, List.set_cons_zero, List.set_cons_succ])
      refine wpAnyK_one (i := 16) (by kernel_rfl) rfl (fun K hK => ?_)
      (try simp only [List.getElem_toArray, List.getElem_cons_zero, List.getElem_cons_succ, Act.put, List.setIfInBounds_toArray, List.set_cons_zero, List.set_cons_succ])
      go_simp
      refine (pnum25u rb 4 4 u3 rfl rfl).mono ?_
      rintro e4 u4 ⟨a4, s4, he, ff4, bb4⟩
      have he : e4 = .returned (.func (.func 126) #[] #[.pointer (some ⟨a4, 0, none⟩), .pointer (some ⟨s4, 0, none⟩)]) := he
      subst he
      have Q4 : Hid (Fb25 u4 u3.heap.size rb 4 a4 s4 ∧ Below u3.heap.size u3 u4) := ⟨ff4, bb4⟩
      clear ff4 bb4
      refine hK.out _ _ (fun _ => trivial) (fun hHeld0 => ?_)
      have hHeld := hHeld0 (by decide)
      clear hHeld0 hK K
      (try simp only [List.getElem_toArray, List.getElem_cons_zero, List.getElem_cons_succ, Act.put, List.setIfInBounds_toArray, List.set_cons_zero, List.set_cons_succ])
      refine wpAnyK_one (i := 17) (by kernel_rfl) rfl (fun K hK => ?_)
      (try simp only [List.getElem_toArray, List.getElem_cons_zero, List.getElem_cons_succ, Act.put, List.setIfInBounds_toArray, List.set_cons_zero, List.set_cons_succ])
      go_simp
      obtain ⟨u5, hu5⟩ : ∃ v, v = u4.alloc (.cells #[.func (.func 125) #[] #[.pointer (some ⟨a1, 0, none⟩), .pointer (some ⟨s1, 0, none⟩)], .func (.func 125) #[] #[.pointer (some ⟨a2, 0, none⟩), .pointer (some ⟨s2, 0, none⟩)], .func (.func 125) #[] #[.pointer (some ⟨a3, 0, none⟩), .pointer (some ⟨s3, 0, none⟩)], .func (.func 126) #[] #[.pointer (some ⟨a4, 0, none⟩), .pointer (some ⟨s4, 0, none⟩)]] 151) := ⟨_, rfl⟩
      obtain ⟨g5, hg5⟩ : ∃ b, b = u4.heap.size := ⟨_, rfl⟩
      have b5 : Below u4.heap.size u4 u5 := by rw [hu5]; exact (Below.refl _ _).alloc (Nat.le_refl _) _
      have q5 : u5.heap[g5]? = some (.cells #[.func (.func 125) #[] #[.pointer (some ⟨a1, 0, none⟩), .pointer (some ⟨s1, 0, none⟩)], .func (.func 125) #[] #[.pointer (some ⟨a2, 0, none⟩), .pointer (some ⟨s2, 0, none⟩)], .func (.func 125) #[] #[.pointer (some ⟨a3, 0, none⟩), .pointer (some ⟨s3, 0, none⟩)], .func (.func 126) #[] #[.pointer (some ⟨a4, 0, none⟩), .pointer (some ⟨s4, 0, none⟩)]] 151 (0, 0)) := by rw [hu5, hg5]; exact heap_alloc_new _ _
      rw [← hu5, ← hg5]
      have Q5 : Hid (u5.heap[g5]? = some (.cells #[.func (.func 125) #[] #[.pointer (some ⟨a1, 0, none⟩), .pointer (some ⟨s1, 0, none⟩)], .func (.func 125) #[] #[.pointer (some ⟨a2, 0, none⟩), .pointer (some ⟨s2, 0, none⟩)], .func (.func 125) #[] #[.pointer (some ⟨a3, 0, none⟩), .pointer (some ⟨s3, 0, none⟩)], .func (.func 126) #[] #[.pointer (some ⟨a4, 0, none⟩), .pointer (some ⟨s4, 0, none⟩)]] 151 (0, 0)) ∧ Below u4.heap.size u4 u5) := ⟨q5, b5⟩
      clear hu5 hg5 b5 q5
      refine hK.out _ _ (fun _ => trivial) (fun hHeld0 => ?_)
      have hHeld := hHeld0 (by decide)
      clear hHeld0 hK K
      (try simp only [List.getElem_toArray, List.getElem_cons_zero, List.getElem_cons_succ, Act.put, List.setIfInBounds_toArray, List.set_cons_zero, List.set_cons_succ])
      refine wpAnyK_one (i := 18) (by kernel_rfl) rfl (fun K hK => ?_)
      (try simp only [List.getElem_toArray, List.getElem_cons_zero, List.getElem_cons_succ, Act.put, List.setIfInBounds_toArray, List.set_cons_zero, List.set_cons_succ])
      rw [if_pos (by rfl)]
      have z1 := J0.out.2.2.1.size
      have z2 := Q1.out.2.size
      have z3 := Q2.out.2.size
      have z4 := Q3.out.2.size
      have z5 := Q4.out.2.size
      have z6 := Q5.out.2.size
      have zN := HN.out
      have c15 : Below u1.heap.size u1 u5 := Q2.out.2.trans ((Q3.out.2.mono z3).trans ((Q4.out.2.mono (by omega)).trans (Q5.out.2.mono (by omega))))
      have c25 : Below u2.heap.size u2 u5 := Q3.out.2.trans ((Q4.out.2.mono z4).trans (Q5.out.2.mono (by omega)))
      have c35 : Below u3.heap.size u3 u5 := Q4.out.2.trans (Q5.out.2.mono z5)
      have c05 : Below v0.heap.size v0 u5 := Q1.out.2.trans (c15.mono z2)
      have o5 := own_below21 J0.out.1 c05
      have lw : ∀ {V : World} {M k a s : Nat}, Fb25 V M rb k a s → N ≤ M → Fb25 V N rb k a s := fun h hm => ⟨Nat.le_trans hm h.la, Nat.le_trans hm h.ls, h.ha, h.hs⟩
      have f1 := lw (Q1.out.1.old c15) (by omega)
      have f2 := lw (Q2.out.1.old c25) (by omega)
      have f3 := lw (Q3.out.1.old c35) (by omega)
      have f4 := lw (Q4.out.1.old Q5.out.2) (by omega)
      have hb5 : Below N w u5 := J0.out.2.2.1.trans (c05.mono (by omega))
      have hp5 : u5.heap[bp]? = _ := (c05.block _ (Array.getElem?_eq_some_iff.1 J0.out.2.2.2).1).trans J0.out.2.2.2
      obtain ⟨g6, c6, u6, hr6, o6, k6⟩ := appf25 u5 (c2 := 4) (m := 4) (news := [.func (.func 125) #[] #[.pointer (some ⟨a1, 0, none⟩), .pointer (some ⟨s1, 0, none⟩)], .func (.func 125) #[] #[.pointer (some ⟨a2, 0, none⟩), .pointer (some ⟨s2, 0, none⟩)], .func (.func 125) #[] #[.pointer (some ⟨a3, 0, none⟩), .pointer (some ⟨s3, 0, none⟩)], .func (.func 126) #[] #[.pointer (some ⟨a4, 0, none⟩), .pointer (some ⟨s4, 0, none⟩)]]) o5 Q5.out.1 rfl (by simp [Value.oneCell']) (by decide) (by decide) (by decide) (by have := hb5.size; omega) 147
      have PU := Fs25.push (m := 4) (Nat.le_of_eq HN.out) (J0.out.2.1.old c05) hb5 hp5 (news := [.func (.func 125) #[] #[.pointer (some ⟨a1, 0, none⟩), .pointer (some ⟨s1, 0, none⟩)], .func (.func 125) #[] #[.pointer (some ⟨a2, 0, none⟩), .pointer (some ⟨s2, 0, none⟩)], .func (.func 125) #[] #[.pointer (some ⟨a3, 0, none⟩), .pointer (some ⟨s3, 0, none⟩)], .func (.func 126) #[] #[.pointer (some ⟨a4, 0, none⟩), .pointer (some ⟨s4, 0, none⟩)]]) rfl (fun j hj => by
        rcases (by omega : j = 0 ∨ j = 1 ∨ j = 2 ∨ j = 3) with rfl | rfl | rfl | rfl
        · exact ⟨_, _, rfl, f1⟩
        · exact ⟨_, _, rfl, f2⟩
        · exact ⟨_, _, rfl, f3⟩
        · exact ⟨_, _, rfl, f4⟩) o5 k6
      refine operwp_app24 _ _ _ rfl rfl rfl hr6 ?_
      have J6 : Hid (Hf25 w N rb bp (.slice (some ⟨g6, 0, none⟩) 5 c6) (.int .i64 1) u6) := ⟨1, by omega, rfl, _, _, _, rfl, o6, PU.1, PU.2.1, PU.2.2⟩
      clear hr6 o6 k6 PU o5 f1 f2 f3 f4 hb5 hp5 c15 c25 c35 c05 lw z1 z2 z3 z4 z5 z6 zN
      refine hK.out _ _ (fun _ => trivial) (fun hHeld0 => ?_)
      have hHeld := hHeld0 (by decide)
      clear hHeld0 hK K
      simp only [Act.put, List.setIfInBounds_toArray, List.set_cons_zero, List.set_cons_succ]
      refine wpAnyK_one (i := 19) (by kernel_rfl) rfl (fun K hK => ?_)
      (try simp only [List.getElem_toArray, List.getElem_cons_zero, List.getElem_cons_succ, Act.put, List.setIfInBounds_toArray, List.set_cons_zero, List.set_cons_succ])
      go_simp
      refine hK.out _ _ (fun h => trivial) (fun _ => ?_)
      clear hK K hHeld
      refine wpAnyK_done (by kernel_rfl) ?_ _
      go_wp2_with fail
      go_roundw
      case rel => exact J6.out
      case measure => simp [intOf]
    · have hpp : wr.cell? ⟨bp, 1, none⟩ = some (.pointer (some ⟨rb, 5, none⟩)) := cell25 HR.out.2.2.2 rfl
      go_wp2_with fail
      clear hpp
      obtain ⟨v0, hv0⟩ : ∃ v, v = wr.drew := ⟨_, rfl⟩
      have HV0 : Hid (wr.drew = v0) := hv0.symm
      have J0 : Hid (v0.ownsRow N 151 1 (.slice p 5 c) 5 xs ∧ Fs25 v0 N rb 5 xs ∧ Below N w v0 ∧ v0.heap[bp]? = some (.cells #[.pointer (some ⟨rb, 1, none⟩), .pointer (some ⟨rb, 5, none⟩)] 195 (0, 0))) := by rw [hv0]; exact ⟨HR.out.1, ⟨HR.out.2.1.1, fun k hk => by obtain ⟨a, s, e, f⟩ := HR.out.2.1.2 k hk; exact ⟨a, s, e, f.la, f.ls, f.ha, f.hs⟩⟩, HR.out.2.2.1.drew, HR.out.2.2.2⟩
      clear hv0 HR
      refine plain_region16 (fun _ => True) 19 (by kernel_rfl) trivial (fun hHeld0 => ?_)
      rw [HV0.out]
      have hHeld : (fun _ : World => True) v0 := trivial
      clear hHeld0 HV0
      refine wpAnyK_take (i := 0) (v := .slice p 5 c) rfl (by kernel_rfl) (by kernel_rfl) (by kernel_rfl) (by kernel_rfl) (fun _ _ _ h => h) (Or.inl ⟨by rfl, fun w hSw => by go_simp⟩) hHeld ?_
      simp only [List.getElem_toArray, List.getElem_cons_zero, Act.put, List.setIfInBounds_toArray, List.set_cons_zero, List.set_cons_succ]
      refine wpAnyK_take (i := 1) (v := .pointer (some ⟨rb, 5, none⟩)) rfl (by kernel_rfl) (by kernel_rfl) (by kernel_rfl) (by kernel_rfl) (fun _ _ _ h => h) (Or.inl ⟨by rfl, fun w hSw => by go_simp⟩) hHeld ?_
      simp only [List.getElem_toArray, List.getElem_cons_zero, List.getElem_cons_succ, Act.put, List.setIfInBounds_toArray, List.set_cons_zero, List.set_cons_succ]
      refine wpAnyK_take (i := 2) (v := .pointer (some ⟨rb, 5, none⟩)) rfl (by kernel_rfl) (by kernel_rfl) (by kernel_rfl) (by kernel_rfl) (fun _ _ _ h => h) (Or.inl ⟨by rfl, fun w hSw => by go_simp⟩) hHeld ?_
      simp only [List.getElem_toArray, List.getElem_cons_zero, List.getElem_cons_succ, Act.put, List.setIfInBounds_toArray, List.set_cons_zero, List.set_cons_succ]
      refine wpAnyK_take (i := 3) (v := .pointer (some ⟨rb, 5, none⟩)) rfl (by kernel_rfl) (by kernel_rfl) (by kernel_rfl) (by kernel_rfl) (fun _ _ _ h => h) (Or.inl ⟨by rfl, fun w hSw => by go_simp⟩) hHeld ?_
      simp only [List.getElem_toArray, List.getElem_cons_zero, List.getElem_cons_succ, Act.put, List.setIfInBounds_toArray, List.set_cons_zero, List.set_cons_succ]
      refine wpAnyK_take (i := 5) (v := .pointer (some ⟨rb, 5, none⟩)) rfl (by kernel_rfl) (by kernel_rfl) (by kernel_rfl) (by kernel_rfl) (fun _ _ _ h => h) (Or.inl ⟨by rfl, fun w hSw => by go_simp⟩) hHeld ?_
      simp only [List.getElem_toArray, List.getElem_cons_zero, List.getElem_cons_succ, Act.put, List.setIfInBounds_toArray, List.set_cons_zero, List.set_cons_succ]
      refine wpAnyK_take (i := 6) (v := .pointer (some ⟨rb, 5, none⟩)) rfl (by kernel_rfl) (by kernel_rfl) (by kernel_rfl) (by kernel_rfl) (fun _ _ _ h => h) (Or.inl ⟨by rfl, fun w hSw => by go_simp⟩) hHeld ?_
      simp only [List.getElem_toArray, List.getElem_cons_zero, List.getElem_cons_succ, Act.put, List.setIfInBounds_toArray, List.set_cons_zero, List.set_cons_succ]
      refine wpAnyK_take (i := 7) (v := .pointer (some ⟨rb, 6, none⟩)) rfl (by kernel_rfl) (by kernel_rfl) (by kernel_rfl) (by kernel_rfl) (fun _ _ _ h => h) (Or.inl ⟨by rfl, fun w hSw => by go_simp⟩) hHeld ?_
      simp only [List.getElem_toArray, List.getElem_cons_zero, List.getElem_cons_succ, Act.put, List.setIfInBounds_toArray, List.set_cons_zero, List.set_cons_succ]
      refine wpAnyK_take (i := 9) (v := .pointer (some ⟨rb, 5, none⟩)) rfl (by kernel_rfl) (by kernel_rfl) (by kernel_rfl) (by kernel_rfl) (fun _ _ _ h => h) (Or.inl ⟨by rfl, fun w hSw => by go_simp⟩) hHeld ?_
      simp only [List.getElem_toArray, List.getElem_cons_zero, List.getElem_cons_succ, Act.put, List.setIfInBounds_toArray, List.set_cons_zero, List.set_cons_succ]
      refine wpAnyK_take (i := 10) (v := .pointer (some ⟨rb, 5, none⟩)) rfl (by kernel_rfl) (by kernel_rfl) (by kernel_rfl) (by kernel_rfl) (fun _ _ _ h => h) (Or.inl ⟨by rfl, fun w hSw => by go_simp⟩) hHeld ?_
      simp only [List.getElem_toArray, List.getElem_cons_zero, List.getElem_cons_succ, Act.put, List.setIfInBounds_toArray, List.set_cons_zero, List.set_cons_succ]
      refine wpAnyK_take (i := 11) (v := .pointer (some ⟨rb, 7, none⟩)) rfl (by kernel_rfl) (by kernel_rfl) (by kernel_rfl) (by kernel_rfl) (fun _ _ _ h => h) (Or.inl ⟨by rfl, fun w hSw => by go_simp⟩) hHeld ?_
      simp only [List.getElem_toArray, List.getElem_cons_zero, List.getElem_cons_succ, Act.put, List.setIfInBounds_toArray, List.set_cons_zero, List.set_cons_succ]
      refine wpAnyK_take (i := 13) (v := .pointer (some ⟨rb, 5, none⟩)) rfl (by kernel_rfl) (by kernel_rfl) (by kernel_rfl) (by kernel_rfl) (fun _ _ _ h => h) (Or.inl ⟨by rfl, fun w hSw => by go_simp⟩) hHeld ?_
      simp only [List.getElem_toArray, List.getElem_cons_zero, List.getElem_cons_succ, Act.put, List.setIfInBounds_toArray, List.set_cons_zero, List.set_cons_succ]
      refine wpAnyK_take (i := 14) (v := .pointer (some ⟨rb, 5, none⟩)) rfl (by kernel_rfl) (by kernel_rfl) (by kernel_rfl) (by kernel_rfl) (fun _ _ _ h => h) (Or.inl ⟨by rfl, fun w hSw => by go_simp⟩) hHeld ?_
      simp only [List.getElem_toArray, List.getElem_cons_zero, List.getElem_cons_succ, Act.put, List.setIfInBounds_toArray, List.set_cons_zero, List.set_cons_succ]
      refine wpAnyK_take (i := 15) (v := .pointer (some ⟨rb, 8, none⟩)) rfl (by kernel_rfl) (by kernel_rfl) (by kernel_rfl) (by kernel_rfl) (fun _ _ _ h => h) (Or.inl ⟨by rfl, fun w hSw => by go_simp⟩) hHeld ?_
      simp only [List.getElem_toArray, List.getElem_cons_zero, List.getElem_cons_succ, Act.put, List.setIfInBounds_toArray, List.set_cons_zero, List.set_cons_succ]
      refine wpAnyK_one (i := 4) (by kernel_rfl) rfl (fun K hK => ?_)
      (try simp only [List.getElem_toArray, List.getElem_cons_zero, List.getElem_cons_succ, Act.put, List.setIfInBounds_toArray, List.set_cons_zero, List.set_cons_succ])
      go_simp
      refine (pnum25i rb 5 1 v0 rfl rfl).mono ?_
      rintro e1 u1 ⟨a1, s1, he, ff1, bb1⟩
      have he : e1 = .returned (.func (.func 125) #[] #[.pointer (some ⟨a1, 0, none⟩), .pointer (some ⟨s1, 0, none⟩)]) := he
      subst he
      have Q1 : Hid (Fb25 u1 v0.heap.size rb 5 a1 s1 ∧ Below v0.heap.size v0 u1) := ⟨ff1, bb1⟩
      clear ff1 bb1
      refine hK.out _ _ (fun _ => trivial) (fun hHeld0 => ?_)
      have hHeld := hHeld0 (by decide)
      clear hHeld0 hK K
      (try simp only [List.getElem_toArray, List.getElem_cons_zero, List.getElem_cons_succ, Act.put, List.setIfInBounds_toArray, List.set_cons_zero, List.set_cons_succ])
      refine wpAnyK_one (i := 8) (by kernel_rfl) rfl (fun K hK => ?_)
      (try simp only [List.getElem_toArray, List.getElem_cons_zero, List.getElem_cons_succ, Act.put, List.setIfInBounds_toArray, List.set_cons_zero, List.set_cons_succ])
      go_simp
      refine (pnum25i rb 6 4 u1 rfl rfl).mono ?_
      rintro e2 u2 ⟨a2, s2, he, ff2, bb2⟩
      have he : e2 = .returned (.func (.func 125) #[] #[.pointer (some ⟨a2, 0, none⟩), .pointer (some ⟨s2, 0, none⟩)]) := he
      subst he
      have Q2 : Hid (Fb25 u2 u1.heap.size rb 6 a2 s2 ∧ Below u1.heap.size u1 u2) := ⟨ff2, bb2⟩
      clear ff2 bb2
      refine hK.out _ _ (fun _ => trivial) (fun hHeld0 => ?_)
      have hHeld := hHeld0 (by decide)
      clear hHeld0 hK K
      (try simp only [List.getElem_toArray, List.getElem_cons_zero, List.getElem_cons_succ, Act.put, List.setIfInBounds_toArray, List.set_cons_zero, List.set_cons_succ])
      refine wpAnyK_one (i := 12) (by kernel_rfl) rfl (fun K hK => ?_)
      (try simp only [List.getElem_toArray, List.getElem_cons_zero, List.getElem_cons_succ, Act.put, List.setIfInBounds_toArray, List.set_cons_zero, List.set_cons_succ])
      go_simp
      refine (pnum25i rb 7 4 u2 rfl rfl).mono ?_
      rintro e3 u3 ⟨a3, s3, he, ff3, bb3⟩
      have he : e3 = .returned (.func (.func 125) #[] #[.pointer (some ⟨a3, 0, none⟩), .pointer (some ⟨s3, 0, none⟩)]) := he
      subst he
      have Q3 : Hid (Fb25 u3 u2.heap.size rb 7 a3 s3 ∧ Below u2.heap.size u2 u3) := ⟨ff3, bb3⟩
      clear ff3 bb3
      refine hK.out _ _ (fun _ => trivial) (fun hHeld0 => ?_)
      have hHeld := hHeld0 (by decide)
      clear hHeld0 hK K
      (try simp only [List.getElem_toArray, List.getElem_cons_zero, List.getElem_cons_succ, Act.put, List.setIfInBounds_toArray, List.set_cons_zero, List.set_cons_succ])
      refine wpAnyK_one (i := 16) (by kernel_rfl) rfl (fun K hK => ?_)
      (try simp only [List.getElem_toArray, List.getElem_cons_zero, List.getElem_cons_succ, Act.put, List.setIfInBounds_toArray, List.set_cons_zero, List.set_cons_succ])
      go_simp
      refine (pnum25u rb 8 4 u3 rfl rfl).mono ?_
      rintro e4 u4 ⟨a4, s4, he, ff4, bb4⟩
      have he : e4 = .returned (.func (.func 126) #[] #[.pointer (some ⟨a4, 0, none⟩), .pointer (some ⟨s4, 0, none⟩)]) := he
      subst he
      have Q4 : Hid (Fb25 u4 u3.heap.size rb 8 a4 s4 ∧ Below u3.heap.size u3 u4) := ⟨ff4, bb4⟩
      clear ff4 bb4
      refine hK.out _ _ (fun _ => trivial) (fun hHeld0 => ?_)
      have hHeld := hHeld0 (by decide)
      clear hHeld0 hK K
      (try simp only [List.getElem_toArray, List.getElem_cons_zero, List.getElem_cons_succ, Act.put, List.setIfInBounds_toArray, List.set_cons_zero, List.set_cons_succ])
      refine wpAnyK_one (i := 17) (by kernel_rfl) rfl (fun K hK => ?_)
      (try simp only [List.getElem_toArray, List.getElem_cons_zero, List.getElem_cons_succ, Act.put, List.setIfInBounds_toArray, List.set_cons_zero, List.set_cons_succ])
      go_simp
      obtain ⟨u5, hu5⟩ : ∃ v, v = u4.alloc (.cells #[.func (.func 125) #[] #[.pointer (some ⟨a1, 0, none⟩), .pointer (some ⟨s1, 0, none⟩)], .func (.func 125) #[] #[.pointer (some ⟨a2, 0, none⟩), .pointer (some ⟨s2, 0, none⟩)], .func (.func 125) #[] #[.pointer (some ⟨a3, 0, none⟩), .pointer (some ⟨s3, 0, none⟩)], .func (.func 126) #[] #[.pointer (some ⟨a4, 0, none⟩), .pointer (some ⟨s4, 0, none⟩)]] 151) := ⟨_, rfl⟩
      obtain ⟨g5, hg5⟩ : ∃ b, b = u4.heap.size := ⟨_, rfl⟩
      have b5 : Below u4.heap.size u4 u5 := by rw [hu5]; exact (Below.refl _ _).alloc (Nat.le_refl _) _
      have q5 : u5.heap[g5]? = some (.cells #[.func (.func 125) #[] #[.pointer (some ⟨a1, 0, none⟩), .pointer (some ⟨s1, 0, none⟩)], .func (.func 125) #[] #[.pointer (some ⟨a2, 0, none⟩), .pointer (some ⟨s2, 0, none⟩)], .func (.func 125) #[] #[.pointer (some ⟨a3, 0, none⟩), .pointer (some ⟨s3, 0, none⟩)], .func (.func 126) #[] #[.pointer (some ⟨a4, 0, none⟩), .pointer (some ⟨s4, 0, none⟩)]] 151 (0, 0)) := by rw [hu5, hg5]; exact heap_alloc_new _ _
      rw [← hu5, ← hg5]
      have Q5 : Hid (u5.heap[g5]? = some (.cells #[.func (.func 125) #[] #[.pointer (some ⟨a1, 0, none⟩), .pointer (some ⟨s1, 0, none⟩)], .func (.func 125) #[] #[.pointer (some ⟨a2, 0, none⟩), .pointer (some ⟨s2, 0, none⟩)], .func (.func 125) #[] #[.pointer (some ⟨a3, 0, none⟩), .pointer (some ⟨s3, 0, none⟩)], .func (.func 126) #[] #[.pointer (some ⟨a4, 0, none⟩), .pointer (some ⟨s4, 0, none⟩)]] 151 (0, 0)) ∧ Below u4.heap.size u4 u5) := ⟨q5, b5⟩
      clear hu5 hg5 b5 q5
      refine hK.out _ _ (fun _ => trivial) (fun hHeld0 => ?_)
      have hHeld := hHeld0 (by decide)
      clear hHeld0 hK K
      (try simp only [List.getElem_toArray, List.getElem_cons_zero, List.getElem_cons_succ, Act.put, List.setIfInBounds_toArray, List.set_cons_zero, List.set_cons_succ])
      refine wpAnyK_one (i := 18) (by kernel_rfl) rfl (fun K hK => ?_)
      (try simp only [List.getElem_toArray, List.getElem_cons_zero, List.getElem_cons_succ, Act.put, List.setIfInBounds_toArray, List.set_cons_zero, List.set_cons_succ])
      rw [if_pos (by rfl)]
      have z1 := J0.out.2.2.1.size
      have z2 := Q1.out.2.size
      have z3 := Q2.out.2.size
      have z4 := Q3.out.2.size
      have z5 := Q4.out.2.size
      have z6 := Q5.out.2.size
      have zN := HN.out
      have c15 : Below u1.heap.size u1 u5 := Q2.out.2.trans ((Q3.out.2.mono z3).trans ((Q4.out.2.mono (by omega)).trans (Q5.out.2.mono (by omega))))
      have c25 : Below u2.heap.size u2 u5 := Q3.out.2.trans ((Q4.out.2.mono z4).trans (Q5.out.2.mono (by omega)))
      have c35 : Below u3.heap.size u3 u5 := Q4.out.2.trans (Q5.out.2.mono z5)
      have c05 : Below v0.heap.size v0 u5 := Q1.out.2.trans (c15.mono z2)
      have o5 := own_below21 J0.out.1 c05
      have lw : ∀ {V : World} {M k a s : Nat}, Fb25 V M rb k a s → N ≤ M → Fb25 V N rb k a s := fun h hm => ⟨Nat.le_trans hm h.la, Nat.le_trans hm h.ls, h.ha, h.hs⟩
      have f1 := lw (Q1.out.1.old c15) (by omega)
      have f2 := lw (Q2.out.1.old c25) (by omega)
      have f3 := lw (Q3.out.1.old c35) (by omega)
      have f4 := lw (Q4.out.1.old Q5.out.2) (by omega)
      have hb5 : Below N w u5 := J0.out.2.2.1.trans (c05.mono (by omega))
      have hp5 : u5.heap[bp]? = _ := (c05.block _ (Array.getElem?_eq_some_iff.1 J0.out.2.2.2).1).trans J0.out.2.2.2
      obtain ⟨g6, c6, u6, hr6, o6, k6⟩ := appf25 u5 (c2 := 4) (m := 4) (news := [.func (.func 125) #[] #[.pointer (some ⟨a1, 0, none⟩), .pointer (some ⟨s1, 0, none⟩)], .func (.func 125) #[] #[.pointer (some ⟨a2, 0, none⟩), .pointer (some ⟨s2, 0, none⟩)], .func (.func 125) #[] #[.pointer (some ⟨a3, 0, none⟩), .pointer (some ⟨s3, 0, none⟩)], .func (.func 126) #[] #[.pointer (some ⟨a4, 0, none⟩), .pointer (some ⟨s4, 0, none⟩)]]) o5 Q5.out.1 rfl (by simp [Value.oneCell']) (by decide) (by decide) (by decide) (by have := hb5.size; omega) 147
      have PU := Fs25.push (m := 4) (Nat.le_of_eq HN.out) (J0.out.2.1.old c05) hb5 hp5 (news := [.func (.func 125) #[] #[.pointer (some ⟨a1, 0, none⟩), .pointer (some ⟨s1, 0, none⟩)], .func (.func 125) #[] #[.pointer (some ⟨a2, 0, none⟩), .pointer (some ⟨s2, 0, none⟩)], .func (.func 125) #[] #[.pointer (some ⟨a3, 0, none⟩), .pointer (some ⟨s3, 0, none⟩)], .func (.func 126) #[] #[.pointer (some ⟨a4, 0, none⟩), .pointer (some ⟨s4, 0, none⟩)]]) rfl (fun j hj => by
        rcases (by omega : j = 0 ∨ j = 1 ∨ j = 2 ∨ j = 3) with rfl | rfl | rfl | rfl
        · exact ⟨_, _, rfl, f1⟩
        · exact ⟨_, _, rfl, f2⟩
        · exact ⟨_, _, rfl, f3⟩
        · exact ⟨_, _, rfl, f4⟩) o5 k6
      refine operwp_app24 _ _ _ rfl rfl rfl hr6 ?_
      have J6 : Hid (Hf25 w N rb bp (.slice (some ⟨g6, 0, none⟩) 9 c6) (.int .i64 2) u6) := ⟨2, by omega, rfl, _, _, _, rfl, o6, PU.1, PU.2.1, PU.2.2⟩
      clear hr6 o6 k6 PU o5 f1 f2 f3 f4 hb5 hp5 c15 c25 c35 c05 lw z1 z2 z3 z4 z5 z6 zN
      refine hK.out _ _ (fun _ => trivial) (fun hHeld0 => ?_)
      have hHeld := hHeld0 (by decide)
      clear hHeld0 hK K
      simp only [Act.put, List.setIfInBounds_toArray, List.set_cons_zero, List.set_cons_succ]
      refine wpAnyK_one (i := 19) (by kernel_rfl) rfl (fun K hK => ?_)
      (try simp only [List.getElem_toArray, List.getElem_cons_zero, List.getElem_cons_succ, Act.put, List.setIfInBounds_toArray, List.set_cons_zero, List.set_cons_succ])
      go_simp
      refine hK.out _ _ (fun h => trivial) (fun _ => ?_)
      clear hK K hHeld
      refine wpAnyK_done (by kernel_rfl) ?_ _
      go_wp2_with fail
      go_roundw
      case rel => exact J6.out
      case measure => simp [intOf]
    · go_wp2_with fail
      refine (pnum25i rb 9 1 wr rfl rfl).mono ?_
      rintro e1 u1 ⟨a1, s1, he, ff1, bb1⟩
      have he : e1 = .returned (.func (.func 125) #[] #[.pointer (some ⟨a1, 0, none⟩), .pointer (some ⟨s1, 0, none⟩)]) := he
      subst he
      have Q1 : Hid (Fb25 u1 wr.heap.size rb 9 a1 s1 ∧ Below wr.heap.size wr u1) := ⟨ff1, bb1⟩
      clear ff1 bb1
      have z1 := HR.out.2.2.1.size
      have zN := HN.out
      obtain ⟨u5, hu5⟩ : ∃ v, v = u1.alloc (.cells #[.func (.func 125) #[] #[.pointer (some ⟨a1, 0, none⟩), .pointer (some ⟨s1, 0, none⟩)]] 151) := ⟨_, rfl⟩
      have b5 : Below u1.heap.size u1 u5 := by rw [hu5]; exact (Below.refl _ _).alloc (Nat.le_refl _) _
      have q5 : u5.heap[u1.heap.size]? = some (.cells #[.func (.func 125) #[] #[.pointer (some ⟨a1, 0, none⟩), .pointer (some ⟨s1, 0, none⟩)]] 151 (0, 0)) := by rw [hu5]; exact heap_alloc_new _ _
      have HU5 : Hid (u1.alloc (.cells #[.func (.func 125) #[] #[.pointer (some ⟨a1, 0, none⟩), .pointer (some ⟨s1, 0, none⟩)]] 151) = u5) := hu5.symm
      have c05 : Below wr.heap.size wr u5 := Q1.out.2.trans (b5.mono Q1.out.2.size)
      have o5 := own_below21 HR.out.1 c05
      have f1 : Fb25 u5 N rb 9 a1 s1 := by have h := Q1.out.1.old b5; exact ⟨by have := h.la; omega, by have := h.ls; omega, h.ha, h.hs⟩
      have hb5 : Below N w u5 := HR.out.2.2.1.trans (c05.mono (by omega))
      have hp5 : u5.heap[bp]? = _ := (c05.block _ (Array.getElem?_eq_some_iff.1 HR.out.2.2.2).1).trans HR.out.2.2.2
      obtain ⟨g6, c6, u6, hr6, o6, k6⟩ := appf25 u5 (c2 := 1) (m := 1) (news := [.func (.func 125) #[] #[.pointer (some ⟨a1, 0, none⟩), .pointer (some ⟨s1, 0, none⟩)]]) o5 q5 rfl (by simp [Value.oneCell']) (by decide) (by decide) (by decide) (by have := hb5.size; omega) 147
      have PU := Fs25.push (m := 1) (Nat.le_of_eq HN.out) (HR.out.2.1.old c05) hb5 hp5 (news := [.func (.func 125) #[] #[.pointer (some ⟨a1, 0, none⟩), .pointer (some ⟨s1, 0, none⟩)]]) rfl (fun j hj => by
        have : j = 0 := by omega
        subst this
        exact ⟨_, _, rfl, f1⟩) o5 k6
      have J6 : Hid _ := And.intro o6 (And.intro PU.1 PU.2.1)
      clear hu5 b5 q5 c05 o5 f1 hb5 hp5 o6 k6 PU z1 zN
      go_wp2_with (refine wpList_app21 rfl (.tmp 43) (.tmp 48) 147 rfl rfl rfl (by rw [HU5.out]; exact hr6) ?_)
      go_ret
      exact ⟨_, _, _, rfl, J6.out.1, J6.out.2.1, J6.out.2.2⟩
end Go.Proofs.YtmjlpfmacblcpaaDoor
