import Derived.Test.YtalojcpgkgeofaaGreatDoorPo
import Derived.Laws.BitsAllLaws
namespace Go.Proofs.YtalojcpgkgeofaaGreatDoor
open Go.RowKit Go.Shelf
set_option linter.unusedVariables false
set_option linter.unusedSimpArgs false

/-! The document's word, numbers. -/
theorem or32_18 {r v c : Nat} (h : r < 2 ^ c) (h2 : v * 2 ^ c + r < 4294967296) : bits .or .u32 (r : Int) ((v * 2 ^ c : Nat) : Int) = ((r + v * 2 ^ c : Nat) : Int) := by
  rw [u32_or_nat _ _ (by omega) (by omega), Nat.or_comm, Nat.mul_comm v, ← Nat.two_pow_add_eq_or_of_lt h, Nat.add_comm]
theorem unf4_18 {x0 x1 x2 x3 : Int} {r : List Int} : unfL ((x0 :: x1 :: x2 :: x3 :: r).take 4) = x0 + x1 * 256 + x2 * 65536 + x3 * 16777216 := by
  simp only [List.take_succ_cons, List.take_zero, unfL]
  omega
theorem four18 {z : List Int} (h : 4 ≤ z.length) : z = z.getD 0 0 :: z.getD 1 0 :: z.getD 2 0 :: z.getD 3 0 :: z.drop 4 := by
  rcases z with _ | ⟨a, _ | ⟨b, _ | ⟨c, _ | ⟨d, r⟩⟩⟩⟩ <;> simp at h ⊢
set_option maxRecDepth 100000 in
set_option maxHeartbeats 4000000 in
theorem rwd18 (a : Option Addr) (z : List Int) (n cap : Nat) (w : World) (hs : Seg w a z) (h4 : 4 ≤ z.length) (hn : n = z.length) :
    Calls Tryz.prog 44 #[.slice a n cap] w fun e w' => e = .returned (.int .u32 (unfL (z.take 4))) ∧ w' = w.drew := by
  subst hn
  obtain ⟨b, off, rfl, c0⟩ := hs.at_ 0 (by omega)
  obtain ⟨b1, o1, e1, c1⟩ := hs.at_ 1 (by omega)
  cases e1
  obtain ⟨b2, o2, e2, c2⟩ := hs.at_ 2 (by omega)
  cases e2
  obtain ⟨b3, o3, e3, c3⟩ := hs.at_ 3 (by omega)
  cases e3
  have d0 := hs.bd 0
  have d1 := hs.bd 1
  have d2 := hs.bd 2
  have d3 := hs.bd 3
  have hE : unfL (z.take 4) = z.getD 0 0 + z.getD 1 0 * 256 + z.getD 2 0 * 65536 + z.getD 3 0 * 16777216 := by
    conv => lhs; rw [four18 h4]
    exact unf4_18
  have kz : ¬ z.length = 0 := by omega
  have k0 : (0 : Int) < (z.length : Int) := by omega
  have k1 : (1 : Int) < (z.length : Int) := by omega
  have k2 : (2 : Int) < (z.length : Int) := by omega
  have k3 : (3 : Int) < (z.length : Int) := by omega
  generalize z.getD 0 0 = x0 at *
  generalize z.getD 1 0 = x1 at *
  generalize z.getD 2 0 = x2 at *
  generalize z.getD 3 0 = x3 at *
  obtain ⟨y0, rfl⟩ : ∃ y : Nat, x0 = (y : Int) := ⟨x0.toNat, by omega⟩
  obtain ⟨y1, rfl⟩ : ∃ y : Nat, x1 = (y : Int) := ⟨x1.toNat, by omega⟩
  obtain ⟨y2, rfl⟩ : ∃ y : Nat, x2 = (y : Int) := ⟨x2.toNat, by omega⟩
  obtain ⟨y3, rfl⟩ : ∃ y : Nat, x3 = (y : Int) := ⟨x3.toNat, by omega⟩
  obtain ⟨s1, hs1⟩ : ∃ s : Int, s = (y1 : Int) * 256 := ⟨_, rfl⟩
  obtain ⟨s2, hs2⟩ : ∃ s : Int, s = (y2 : Int) * 65536 := ⟨_, rfl⟩
  obtain ⟨s3, hs3⟩ : ∃ s : Int, s = (y3 : Int) * 16777216 := ⟨_, rfl⟩
  obtain ⟨t1, ht1⟩ : ∃ s : Int, s = (y0 : Int) + s1 := ⟨_, rfl⟩
  obtain ⟨t2, ht2⟩ : ∃ s : Int, s = t1 + s2 := ⟨_, rfl⟩
  obtain ⟨t3, ht3⟩ : ∃ s : Int, s = t2 + s3 := ⟨_, rfl⟩
  have m1 : (y1 : Int) * 256 % 4294967296 = s1 := by omega
  have m2 : (y2 : Int) * 65536 % 4294967296 = s2 := by omega
  have m3 : (y3 : Int) * 16777216 % 4294967296 = s3 := by omega
  have q1 : IntKind.u32.wrap ((y1 : Int) * 256) = s1 := by rw [IntWalk.u32_in _ (by omega)]; omega
  have q2 : IntKind.u32.wrap ((y2 : Int) * 65536) = s2 := by rw [IntWalk.u32_in _ (by omega)]; omega
  have q3 : IntKind.u32.wrap ((y3 : Int) * 16777216) = s3 := by rw [IntWalk.u32_in _ (by omega)]; omega
  have v0 : IntKind.u32.wrap (y0 : Int) = (y0 : Int) := IntWalk.u32_in _ (by omega)
  have v1 : IntKind.u32.wrap (y1 : Int) = (y1 : Int) := IntWalk.u32_in _ (by omega)
  have v2 : IntKind.u32.wrap (y2 : Int) = (y2 : Int) := IntWalk.u32_in _ (by omega)
  have v3 : IntKind.u32.wrap (y3 : Int) = (y3 : Int) := IntWalk.u32_in _ (by omega)
  have n1 : bits .or .u32 (y0 : Int) s1 = t1 := by
    have := or32_18 (r := y0) (v := y1) (c := 8) (by omega) (by omega)
    rw [show ((y1 * 2 ^ 8 : Nat) : Int) = s1 by omega] at this
    rw [this]; omega
  have n2 : bits .or .u32 t1 s2 = t2 := by
    have := or32_18 (r := y0 + y1 * 256) (v := y2) (c := 16) (by omega) (by omega)
    rw [show ((y2 * 2 ^ 16 : Nat) : Int) = s2 by omega, show ((y0 + y1 * 256 : Nat) : Int) = t1 by omega] at this
    rw [this]; omega
  have n3 : bits .or .u32 t2 s3 = t3 := by
    have := or32_18 (r := y0 + y1 * 256 + y2 * 65536) (v := y3) (c := 24) (by omega) (by omega)
    rw [show ((y3 * 2 ^ 24 : Nat) : Int) = s3 by omega, show ((y0 + y1 * 256 + y2 * 65536 : Nat) : Int) = t2 by omega] at this
    rw [this]; omega
  have HE : Hid (unfL (z.take 4) = t3) := by show _ = _; rw [hE]; omega
  have hS : Hid (w.drew.cell? ⟨b, off, none⟩ = some (.int .u8 (y0 : Int)) ∧ w.drew.cell? ⟨b, off + 1, none⟩ = some (.int .u8 (y1 : Int)) ∧ w.drew.cell? ⟨b, off + 2, none⟩ = some (.int .u8 (y2 : Int)) ∧ w.drew.cell? ⟨b, off + 3, none⟩ = some (.int .u8 (y3 : Int))) := ⟨c0, c1, c2, c3⟩
  clear hs hE c0 c1 c2 c3 d0 d1 d2 d3 ht1 ht2 ht3 hs1 hs2 hs3 h4
  generalize z.length = zn at *
  go_enter Tryz.func44, Tryz.ntmps44
  go_wp2_with fail
  refine plain_region16 (fun V => V.cell? ⟨b, off, none⟩ = some (.int .u8 (y0 : Int)) ∧ V.cell? ⟨b, off + 1, none⟩ = some (.int .u8 (y1 : Int)) ∧ V.cell? ⟨b, off + 2, none⟩ = some (.int .u8 (y2 : Int)) ∧ V.cell? ⟨b, off + 3, none⟩ = some (.int .u8 (y3 : Int))) 23 (by kernel_rfl) hS.out (fun hHeld => ?_)
  refine wpAnyK_take (i := 0) (v := .slice (some ⟨b, off, none⟩) zn cap) rfl (by kernel_rfl) (by kernel_rfl) (by kernel_rfl) (by kernel_rfl) (fun _ _ _ h => h) (Or.inl ⟨by rfl, fun w hSw => by go_simp⟩) hHeld ?_
  simp only [List.getElem_toArray, List.getElem_cons_zero, Act.put, List.setIfInBounds_toArray, List.set_cons_zero, List.set_cons_succ]
  refine wpAnyK_take (i := 1) (v := .pointer (some ⟨b, off, none⟩)) rfl (by kernel_rfl) (by kernel_rfl) (by kernel_rfl) (by kernel_rfl) (fun _ _ _ h => h) (Or.inl ⟨by rfl, fun w hSw => by go_simp⟩) hHeld ?_
  simp only [List.getElem_toArray, List.getElem_cons_zero, List.getElem_cons_succ, Act.put, List.setIfInBounds_toArray, List.set_cons_zero, List.set_cons_succ]
  refine wpAnyK_take (i := 2) (v := .int .u8 (y0 : Int)) rfl (by kernel_rfl) (by kernel_rfl) (by kernel_rfl) (by kernel_rfl) (fun _ _ _ h => h) (Or.inl ⟨by rfl, fun w hSw => by go_simp⟩) hHeld ?_
  simp only [List.getElem_toArray, List.getElem_cons_zero, List.getElem_cons_succ, Act.put, List.setIfInBounds_toArray, List.set_cons_zero, List.set_cons_succ]
  refine wpAnyK_take (i := 3) (v := .int .u32 (y0 : Int)) rfl (by kernel_rfl) (by kernel_rfl) (by kernel_rfl) (by kernel_rfl) (fun _ _ _ h => h) (Or.inl ⟨by rfl, fun w hSw => by go_simp⟩) hHeld ?_
  simp only [List.getElem_toArray, List.getElem_cons_zero, List.getElem_cons_succ, Act.put, List.setIfInBounds_toArray, List.set_cons_zero, List.set_cons_succ]
  refine wpAnyK_take (i := 4) (v := .slice (some ⟨b, off, none⟩) zn cap) rfl (by kernel_rfl) (by kernel_rfl) (by kernel_rfl) (by kernel_rfl) (fun _ _ _ h => h) (Or.inl ⟨by rfl, fun w hSw => by go_simp⟩) hHeld ?_
  simp only [List.getElem_toArray, List.getElem_cons_zero, List.getElem_cons_succ, Act.put, List.setIfInBounds_toArray, List.set_cons_zero, List.set_cons_succ]
  refine wpAnyK_take (i := 5) (v := .pointer (some ⟨b, off + 1, none⟩)) rfl (by kernel_rfl) (by kernel_rfl) (by kernel_rfl) (by kernel_rfl) (fun _ _ _ h => h) (Or.inl ⟨by rfl, fun w hSw => by go_simp⟩) hHeld ?_
  simp only [List.getElem_toArray, List.getElem_cons_zero, List.getElem_cons_succ, Act.put, List.setIfInBounds_toArray, List.set_cons_zero, List.set_cons_succ]
  refine wpAnyK_take (i := 6) (v := .int .u8 (y1 : Int)) rfl (by kernel_rfl) (by kernel_rfl) (by kernel_rfl) (by kernel_rfl) (fun _ _ _ h => h) (Or.inl ⟨by rfl, fun w hSw => by go_simp⟩) hHeld ?_
  simp only [List.getElem_toArray, List.getElem_cons_zero, List.getElem_cons_succ, Act.put, List.setIfInBounds_toArray, List.set_cons_zero, List.set_cons_succ]
  refine wpAnyK_take (i := 7) (v := .int .u32 (y1 : Int)) rfl (by kernel_rfl) (by kernel_rfl) (by kernel_rfl) (by kernel_rfl) (fun _ _ _ h => h) (Or.inl ⟨by rfl, fun w hSw => by go_simp⟩) hHeld ?_
  simp only [List.getElem_toArray, List.getElem_cons_zero, List.getElem_cons_succ, Act.put, List.setIfInBounds_toArray, List.set_cons_zero, List.set_cons_succ]
  refine wpAnyK_take (i := 8) (v := .int .u32 s1) rfl (by kernel_rfl) (by kernel_rfl) (by kernel_rfl) (by kernel_rfl) (fun _ _ _ h => h) (Or.inl ⟨by rfl, fun w hSw => by go_simp⟩) hHeld ?_
  simp only [List.getElem_toArray, List.getElem_cons_zero, List.getElem_cons_succ, Act.put, List.setIfInBounds_toArray, List.set_cons_zero, List.set_cons_succ]
  refine wpAnyK_take (i := 9) (v := .int .u32 t1) rfl (by kernel_rfl) (by kernel_rfl) (by kernel_rfl) (by kernel_rfl) (fun _ _ _ h => h) (Or.inl ⟨by rfl, fun w hSw => by go_simp⟩) hHeld ?_
  simp only [List.getElem_toArray, List.getElem_cons_zero, List.getElem_cons_succ, Act.put, List.setIfInBounds_toArray, List.set_cons_zero, List.set_cons_succ]
  refine wpAnyK_take (i := 10) (v := .slice (some ⟨b, off, none⟩) zn cap) rfl (by kernel_rfl) (by kernel_rfl) (by kernel_rfl) (by kernel_rfl) (fun _ _ _ h => h) (Or.inl ⟨by rfl, fun w hSw => by go_simp⟩) hHeld ?_
  simp only [List.getElem_toArray, List.getElem_cons_zero, List.getElem_cons_succ, Act.put, List.setIfInBounds_toArray, List.set_cons_zero, List.set_cons_succ]
  refine wpAnyK_take (i := 11) (v := .pointer (some ⟨b, off + 2, none⟩)) rfl (by kernel_rfl) (by kernel_rfl) (by kernel_rfl) (by kernel_rfl) (fun _ _ _ h => h) (Or.inl ⟨by rfl, fun w hSw => by go_simp⟩) hHeld ?_
  simp only [List.getElem_toArray, List.getElem_cons_zero, List.getElem_cons_succ, Act.put, List.setIfInBounds_toArray, List.set_cons_zero, List.set_cons_succ]
  refine wpAnyK_take (i := 12) (v := .int .u8 (y2 : Int)) rfl (by kernel_rfl) (by kernel_rfl) (by kernel_rfl) (by kernel_rfl) (fun _ _ _ h => h) (Or.inl ⟨by rfl, fun w hSw => by go_simp⟩) hHeld ?_
  simp only [List.getElem_toArray, List.getElem_cons_zero, List.getElem_cons_succ, Act.put, List.setIfInBounds_toArray, List.set_cons_zero, List.set_cons_succ]
  refine wpAnyK_take (i := 13) (v := .int .u32 (y2 : Int)) rfl (by kernel_rfl) (by kernel_rfl) (by kernel_rfl) (by kernel_rfl) (fun _ _ _ h => h) (Or.inl ⟨by rfl, fun w hSw => by go_simp⟩) hHeld ?_
  simp only [List.getElem_toArray, List.getElem_cons_zero, List.getElem_cons_succ, Act.put, List.setIfInBounds_toArray, List.set_cons_zero, List.set_cons_succ]
  refine wpAnyK_take (i := 14) (v := .int .u32 s2) rfl (by kernel_rfl) (by kernel_rfl) (by kernel_rfl) (by kernel_rfl) (fun _ _ _ h => h) (Or.inl ⟨by rfl, fun w hSw => by go_simp⟩) hHeld ?_
  simp only [List.getElem_toArray, List.getElem_cons_zero, List.getElem_cons_succ, Act.put, List.setIfInBounds_toArray, List.set_cons_zero, List.set_cons_succ]
  refine wpAnyK_take (i := 15) (v := .int .u32 t2) rfl (by kernel_rfl) (by kernel_rfl) (by kernel_rfl) (by kernel_rfl) (fun _ _ _ h => h) (Or.inl ⟨by rfl, fun w hSw => by go_simp⟩) hHeld ?_
  simp only [List.getElem_toArray, List.getElem_cons_zero, List.getElem_cons_succ, Act.put, List.setIfInBounds_toArray, List.set_cons_zero, List.set_cons_succ]
  refine wpAnyK_take (i := 16) (v := .slice (some ⟨b, off, none⟩) zn cap) rfl (by kernel_rfl) (by kernel_rfl) (by kernel_rfl) (by kernel_rfl) (fun _ _ _ h => h) (Or.inl ⟨by rfl, fun w hSw => by go_simp⟩) hHeld ?_
  simp only [List.getElem_toArray, List.getElem_cons_zero, List.getElem_cons_succ, Act.put, List.setIfInBounds_toArray, List.set_cons_zero, List.set_cons_succ]
  refine wpAnyK_take (i := 17) (v := .pointer (some ⟨b, off + 3, none⟩)) rfl (by kernel_rfl) (by kernel_rfl) (by kernel_rfl) (by kernel_rfl) (fun _ _ _ h => h) (Or.inl ⟨by rfl, fun w hSw => by go_simp⟩) hHeld ?_
  simp only [List.getElem_toArray, List.getElem_cons_zero, List.getElem_cons_succ, Act.put, List.setIfInBounds_toArray, List.set_cons_zero, List.set_cons_succ]
  refine wpAnyK_take (i := 18) (v := .int .u8 (y3 : Int)) rfl (by kernel_rfl) (by kernel_rfl) (by kernel_rfl) (by kernel_rfl) (fun _ _ _ h => h) (Or.inl ⟨by rfl, fun w hSw => by go_simp⟩) hHeld ?_
  simp only [List.getElem_toArray, List.getElem_cons_zero, List.getElem_cons_succ, Act.put, List.setIfInBounds_toArray, List.set_cons_zero, List.set_cons_succ]
  refine wpAnyK_take (i := 19) (v := .int .u32 (y3 : Int)) rfl (by kernel_rfl) (by kernel_rfl) (by kernel_rfl) (by kernel_rfl) (fun _ _ _ h => h) (Or.inl ⟨by rfl, fun w hSw => by go_simp⟩) hHeld ?_
  simp only [List.getElem_toArray, List.getElem_cons_zero, List.getElem_cons_succ, Act.put, List.setIfInBounds_toArray, List.set_cons_zero, List.set_cons_succ]
  refine wpAnyK_take (i := 20) (v := .int .u32 s3) rfl (by kernel_rfl) (by kernel_rfl) (by kernel_rfl) (by kernel_rfl) (fun _ _ _ h => h) (Or.inl ⟨by rfl, fun w hSw => by go_simp⟩) hHeld ?_
  simp only [List.getElem_toArray, List.getElem_cons_zero, List.getElem_cons_succ, Act.put, List.setIfInBounds_toArray, List.set_cons_zero, List.set_cons_succ]
  refine wpAnyK_take (i := 21) (v := .int .u32 t3) rfl (by kernel_rfl) (by kernel_rfl) (by kernel_rfl) (by kernel_rfl) (fun _ _ _ h => h) (Or.inl ⟨by rfl, fun w hSw => by go_simp⟩) hHeld ?_
  simp only [List.getElem_toArray, List.getElem_cons_zero, List.getElem_cons_succ, Act.put, List.setIfInBounds_toArray, List.set_cons_zero, List.set_cons_succ]
  refine wpAnyK_one (i := 22) (by kernel_rfl) rfl (fun K hK => ?_)
  (try simp only [List.getElem_toArray, List.getElem_cons_zero, List.getElem_cons_succ, Act.put, List.setIfInBounds_toArray, List.set_cons_zero, List.set_cons_succ])
  go_simp
  refine hK.out _ _ (fun _ => hS.out) (fun hHeld0 => ?_)
  clear hHeld0 hK K
  (try simp only [List.getElem_toArray, List.getElem_cons_zero, List.getElem_cons_succ, Act.put, List.setIfInBounds_toArray, List.set_cons_zero, List.set_cons_succ])
  refine wpAnyK_done (by kernel_rfl) ?_ _
  go_wp2
  go_ret
  rw [HE.out]
  exact ⟨rfl, rfl⟩
end Go.Proofs.YtalojcpgkgeofaaGreatDoor
