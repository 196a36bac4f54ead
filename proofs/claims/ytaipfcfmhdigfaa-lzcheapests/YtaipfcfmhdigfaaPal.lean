import Derived.Test.YtaipfcfmhdigfaaPak
import Derived.Laws.BytesArg
import Derived.Lib.SlBytesConst
import Derived.Lib.SmallJoins
import Derived.Test.YtaipfcfmhdigfaaProg
import Derived.Test.YtaipfcfmhdigfaaPaa
import Derived.WalkKit
import Derived.WalkSpells
namespace Go.Proofs.Ytaipfcfmhdigfaa
open Go.RowKit
set_option linter.unusedVariables false

/-! The landed lz: Parse. -/
theorem info_tokp : (Try.prog.info? 56).map (fun i => (i.zero, i.size, i.bytes)) = some (some (.agg #[.int .u8 0, .int .i64 0, .int .i64 0]), 3, 24) := by kernel_rfl
/-- A token behind a row of the call's own, and where the row lies. -/
theorem wpList_appTF {P : Program} {ops : Array Oper} {rest : List Oper} {o : Oper} {a : Act} {Q : Exit → Act → World → Prop} (hgd : o.guard = none) (s x : Operand) (t : TypeId)
    (ho : o.op = .call { callee := .builtin .append, args := #[s, x], argTypes := #[t, t] })
    (base : Nat) (e : TypeId) (i : TypeInfo) (z : Value) (bytes : Nat) (ht : P.underlying t = some (.slice e)) (hi : P.info? e = some i) (hz : i.zero = some z)
    (hsize : i.size = 3) (hby : i.bytes = bytes) (hzs : z.cells.size = 3) (w0 : World) (y : Tok7)
    {ra : Option Addr} {n rc : Nat} {l : List Tok7} (hown : w0.ownsRow base e 3 (.slice ra n rc) n (flatT l)) (hs : a.eval s = .slice ra n rc) (hx : a.eval x = .slice (some ⟨w0.heap.size, 0, none⟩) 1 1)
    (h63 : n + 1 ≤ 140737488355328) (hbytes : (n + 1) * bytes ≤ 140737488355328) (hbase : base ≤ w0.heap.size)
    (h : ∀ (g : Nat) (c : Nat) (w' : World), w'.ownsRow base e 3 (.slice (some ⟨g, 0, none⟩) (n + 1) c) (n + 1) (flatT (l ++ [y])) → Kp (fun k => (Value.slice ra n rc).ownBlock = some k) w0 w' → ((Value.slice ra n rc).ownBlock = some g ∨ g = w0.heap.size + 1) → wpList P ops Q rest (a.put o.dst (.slice (some ⟨g, 0, none⟩) (n + 1) c)) w') : wpList P ops Q (o :: rest) a (w0.alloc (.cells #[.int .u8 y.lit, .int .i64 y.len, .int .i64 y.dist] e)) := by
  have hnew : ∀ j u, ([.int .u8 y.lit, .int .i64 y.len, .int .i64 y.dist] : List Value)[j]? = some u → (w0.alloc (.cells #[.int .u8 y.lit, .int .i64 y.len, .int .i64 y.dist] e)).cell? ((⟨w0.heap.size, 0, none⟩ : Addr).add j) = some u := by
    intro j u hu
    have hadd : (⟨w0.heap.size, 0, none⟩ : Addr).add j = ⟨w0.heap.size, j, none⟩ := by unfold Addr.add; split <;> simp_all
    rw [hadd]
    have hh := heap_alloc_new w0 (.cells #[.int .u8 y.lit, .int .i64 y.len, .int .i64 y.dist] e)
    simp only [World.cell?, hh]
    simpa using hu
  refine wpList_append_lies _ hgd s x t ho base e i z 3 bytes ht hi hz hsize hby hzs (by decide) _ n (flatT l) hs (hown.alloc _) ⟨w0.heap.size, 0, none⟩ 1 1 [.int .u8 y.lit, .int .i64 y.len, .int .i64 y.dist] hx rfl hnew (by intro u hu; simp only [List.mem_cons, List.not_mem_nil, or_false] at hu; rcases hu with rfl | rfl | rfl <;> rfl) (by decide) (by unfold maxLen; omega) hbytes (by simp; omega) (w0.heap.size + 1) (by simp) ?_
  intro g c w' h1 h2 h3 _
  refine h g c w' (by rw [flatT_app]; exact h1) ?_ h3
  exact (Kp.alloc w0 _).trans (Kp.grown (S := fun k => (Value.slice ra n rc).ownBlock = some k) h2 (fun i e => e)) (fun _ _ e => e)
theorem own_kp3 {w w' : World} {S : Nat → Prop} {base n sz : Nat} {e : TypeId} {v : Value} {xs : List Value} (h : w.ownsRow base e sz v n xs) (hb : Kp S w w') (hn : ∀ k, v.ownBlock = some k → ¬ S k) : w'.ownsRow base e sz v n xs := by
  refine ⟨h.1, ?_⟩
  rcases h.2 with h | ⟨g, cap, cur, h1, h2, h3, h4⟩
  · exact .inl h
  · exact .inr ⟨g, cap, cur, h1, h2, hb.heap h3 (hn g (by rw [h1]; rfl)), h4⟩
theorem Chn.kps {w w' : World} {S : Nat → Prop} {B b m : Nat} {oa : Option Addr} {oc : Nat} {D : List Int} {a : Option Addr} {n cap : Nat} {win ch : Int} {lz : Bool} {s : Nat} (h : Chn w B b m oa oc D a n cap win ch lz s) (hk : Kp S w w') (hn : ∀ k, CS b m (.slice oa s oc) k → ¬ S k) (hB : ∀ k, S k → B ≤ k) : Chn w' B b m oa oc D a n cap win ch lz s :=
  ⟨⟨hk.heap h.six.hp (hn b (.inl rfl))⟩, own_kp3 h.own hk (fun k e => hn k (.inr (.inr e))), h.mp.block (hk.block m h.mp.lt (hn m (.inr (.inl rfl)))), h.seg.kp hk (fun x off e h0 hS => by have h1 := h.old x off e h0; have h2 := hB x hS; omega), h.ne, h.bm, h.bb, h.old⟩
/-- A chain, and beside it a row of tokens of the call's own. -/
structure PS (B b mm : Nat) (D : List Int) (a : Option Addr) (n cap W C : Nat) (lz : Bool) (w0 wr : World) (oa : Option Addr) (oc m : Nat) (T : List Tok7) (qa : Option Addr) (qc s : Nat) : Prop where
  own : wr.ownsRow B 56 3 (.slice oa m oc) m (flatT T)
  ch : Chn wr B b mm qa qc D a n cap W C lz s
  sep : ∀ k, (Value.slice oa m oc).ownBlock = some k → ¬ CS b mm (.slice qa s qc) k
  bel : Below B w0 wr
theorem PS.best {B b mm : Nat} {D : List Int} {a : Option Addr} {n cap W C : Nat} {lz : Bool} {w0 wr : World} {oa : Option Addr} {oc m : Nat} {T : List Tok7} {qa : Option Addr} {qc s : Nat} (h : PS B b mm D a n cap W C lz w0 wr oa oc m T qa qc s) {w2 : World} {qa' : Option Addr} {qc' s' : Nat}
    (hC : Chn w2 B b mm qa' qc' D a n cap W C lz s') (hF : Fresh wr (.slice qa s qc) (.slice qa' s' qc')) (hK : Kp (CS b mm (.slice qa s qc)) wr w2) : PS B b mm D a n cap W C lz w0 w2 oa oc m T qa' qc' s' := by
  refine ⟨own_kp3 h.own hK h.sep, hC, fun k e h2 => h.sep k e (cs_back hF ((h.own.lt k e).2) h2), ?_⟩
  exact h.bel.trans (hK.below (fun k e => (h.ch.cs k e).1) h.ch.bs)
theorem PS.app {B b mm : Nat} {D : List Int} {a : Option Addr} {n cap W C : Nat} {lz : Bool} {w0 w2 : World} {oa : Option Addr} {oc m : Nat} {T : List Tok7} {qa : Option Addr} {qc s : Nat} (h : PS B b mm D a n cap W C lz w0 w2 oa oc m T qa qc s) {w3 : World} {g c : Nat} {y : Tok7}
    (ho : w3.ownsRow B 56 3 (.slice (some ⟨g, 0, none⟩) (m + 1) c) (m + 1) (flatT (T ++ [y]))) (hK : Kp (fun k => (Value.slice oa m oc).ownBlock = some k) w2 w3) (hat : (Value.slice oa m oc).ownBlock = some g ∨ g = w2.heap.size + 1) : PS B b mm D a n cap W C lz w0 w3 (some ⟨g, 0, none⟩) c (m + 1) (T ++ [y]) qa qc s := by
  refine ⟨ho, h.ch.kps hK (fun k e1 e2 => h.sep k e2 e1) (fun k e => (h.own.lt k e).1), fun k e h2 => ?_, ?_⟩
  · have e2 : g = k := by simpa [Value.ownBlock] using e
    subst e2
    rcases hat with e | e
    · exact h.sep g e h2
    · have := (h.ch.cs g h2).2
      omega
  · exact h.bel.trans (hK.below (fun k e => (h.own.lt k e).1) h.ch.bs)
theorem run_makeFunc7 (P : Program) (fn : Fn) (first cap : Array Value) (w : World) : (Instr.makeFunc fn first cap).run P w = .ok (.func fn first cap) w := rfl
set_option maxRecDepth 100000 in
theorem pparse7_no (a : Option Addr) (n cap : Nat) (win chain : Int) (lazy : Bool) (w : World) (ho : opt7 win chain ≠ 0) :
    Calls Try.prog 21 #[.slice a n cap, look7 win chain lazy] w fun e w' => e = .returned (.tuple #[.slice none 0 0, .int .i64 72]) ∧ Below w.heap.size w w' := by
  obtain ⟨wA, hwA⟩ : ∃ wA, wA = w.alloc (.cells #[.int .i64 win, .int .i64 chain, .bool lazy] 49) := ⟨_, rfl⟩
  have bA : Below w.heap.size w wA := by rw [hwA]; exact below_box _ _
  have HWA : Hid (wA = w.alloc (.cells #[.int .i64 win, .int .i64 chain, .bool lazy] 49)) := hwA
  have CO := popt7 win chain lazy wA
  rw [opt7_no ho] at CO
  clear hwA ho
  unfold look7 at CO ⊢
  go_enter Try.func21, Try.ntmps21
  go_wp2_with fail
  rw [← HWA.out]
  refine CO.mono ?_
  rintro e w1 ⟨rfl, b1⟩
  go_wp2_with fail
  go_ret2
  exact ⟨rfl, bA.trans (b1.mono bA.size)⟩
/-- How far Parse has come. -/
def PbI (B b mm : Nat) (D : List Int) (a : Option Addr) (n cap W C : Nat) (lz : Bool) (w0 : World) (tl tp : Value) (wr : World) : Prop := ∃ (p m oc qc s : Nat) (oa qa : Option Addr) (T : List Tok7), p ≤ n ∧ m ≤ p ∧ tp = .int .i64 (p : Int) ∧ tl = .slice oa m oc ∧ T.length = m ∧ par7 D W C lz = T ++ parg7 D W C lz (D.length - p) p ∧ s ≤ p ∧
  PS B b mm D a n cap W C lz w0 wr oa oc m T qa qc s
set_option maxRecDepth 100000 in
set_option maxHeartbeats 8000000 in
theorem pparse7_ok (D : List Int) (a : Option Addr) (n cap W C : Nat) (lazy : Bool) (hn : Hid (D.length = n)) (w : World) (hs : Seg w a D) (hl : n ≤ 1073741824) (hW1 : 1 ≤ W) (hW2 : W ≤ 32768) (hC : C ≤ 4096) :
    Calls Try.prog 21 #[.slice a n cap, look7 W C lazy] w (TokQ w 56 (par7 D W C lazy)) := by
  obtain ⟨i0, hi, hz0, hz1, hz2⟩ := info_parts info_tokp
  obtain ⟨wA, hwA⟩ : ∃ wA, wA = w.alloc (.cells #[.int .i64 (W : Int), .int .i64 (C : Int), .bool lazy] 49) := ⟨_, rfl⟩
  have bA : Below w.heap.size w wA := by rw [hwA]; exact below_box _ _
  have lA : LkAt wA w.heap.size W C lazy := boxL hwA
  have HWA : Hid (wA = w.alloc (.cells #[.int .i64 (W : Int), .int .i64 (C : Int), .bool lazy] 49)) := hwA
  have CO := popt7 W C lazy wA
  rw [show opt7 W C = 0 by unfold opt7; rw [if_neg (by omega)]] at CO
  obtain ⟨ob, hob⟩ : ∃ ob, ob = w.heap.size := ⟨_, rfl⟩
  have HOB : Hid (ob = w.heap.size) := hob
  rw [← hob] at lA
  have hol := lA.lt
  have HLA : Hid (LkAt wA ob W C lazy) := lA
  have HSA : Hid (Seg wA a D) := hs.old bA
  have HOLD : Hid (∀ x off, a = some ⟨x, off, none⟩ → 0 < D.length → x < wA.heap.size) := fun x off e h => Nat.lt_of_lt_of_le (hs.lt x off e h) bA.size
  have CN : Hid (∀ W1, Below wA.heap.size wA W1 → Calls Try.prog 37 #[.slice a n cap, look7 W C lazy] W1 fun e w' => ∃ b m, e = .returned (.pointer (some ⟨b, 0, none⟩)) ∧ Chn w' wA.heap.size b m none 0 D a n cap W C lazy 0 ∧ Below W1.heap.size W1 w') := fun W1 h1 =>
    pnewc7 D a n cap W C lazy W1 ((show Seg wA a D from HSA.out).old h1) wA.heap.size h1.size HOLD.out
  have hmf := run_makeFunc7 Try.prog
  clear hwA hob lA hs
  unfold look7 at CO CN ⊢
  go_enter Try.func21, Try.ntmps21
  go_wp2_with fail
  rw [← HWA.out, ← HOB.out]
  refine CO.mono ?_
  rintro e w1 ⟨rfl, b1⟩
  obtain ⟨k0, k1, k2⟩ := (show LkAt wA ob W C lazy from HLA.out).of_block (b1.block ob hol)
  go_wp2_with fail
  refine (CN.out w1 b1).mono ?_
  rintro e w2 ⟨b, mm, rfl, hC2, b2⟩
  have HPS : Hid (PS wA.heap.size b mm D a n cap W C lazy wA w2 none 0 0 [] none 0 0) := ⟨World.ownsRow_nil _ _ _ _, hC2, fun k e => by simp [Value.ownBlock] at e, b1.trans (b2.mono b1.size)⟩
  clear hC2 CN CO k0 k1 k2
  go_wp2_with fail
  go_loopw [8, 9] (fun tl tp wr => PbI wA.heap.size b mm D a n cap W C lazy wA tl tp wr) (fun _ tp _ => n - (intOf tp).toNat)
  case atStart => exact ⟨0, 0, 0, 0, 0, none, none, [], by omega, by omega, rfl, rfl, rfl, rfl, by omega, HPS.out⟩
  case round =>
    clear HPS
    obtain ⟨p, m, oc, qc, s, oa, qa, T, hpn, hmp, rfl, rfl, hTl, hpar, hsp, hPS⟩ := hrel
    have HTL : Hid (T.length = m) := hTl
    have HPR : Hid (par7 D W C lazy = T ++ parg7 D W C lazy (D.length - p) p) := hpar
    have HP : Hid (PS wA.heap.size b mm D a n cap W C lazy wA wr oa oc m T qa qc s) := hPS
    clear hTl hpar
    by_cases hlt : p < n
    · have hlti : (p : Int) < (n : Int) := by omega
      have hpD : p < D.length := by rw [hn.out]; exact hlt
      have sg := hPS.ch.seg
      have hmt := bst7_mt D p W C
      have hmf : p + (bst7 D p W C).1 ≤ n := by
        rcases hmt with e | e
        · omega
        · have := e.fits; rw [hn.out] at this; exact this
      have hb3 : (bst7 D p W C).1 = 0 ∨ 3 ≤ (bst7 D p W C).1 := by
        rcases hmt with e | e
        · exact .inl e.1
        · exact .inr e.n3
      have HPK : Hid (pick7 D W C lazy p = if 0 < (bst7 D p W C).1 ∧ lazy = true ∧ p + 1 < n ∧ (bst7 D p W C).1 < (bst7 D (p + 1) W C).1 then 0 else (bst7 D p W C).1) := by
        show _ = _
        unfold pick7
        rw [hn.out]
      have HMA : Hid (∀ b, pick7 D W C lazy p = b → b ≠ 0 → parg7 D W C lazy (D.length - p) p = ⟨0, (b : Int), ((bst7 D p W C).2 : Int)⟩ :: parg7 D W C lazy (D.length - (p + b)) (p + b)) := fun b hb h0 => parg7_mat hpD hb h0
      have HLI : Hid (pick7 D W C lazy p = 0 → parg7 D W C lazy (D.length - p) p = ⟨D.getD p 0, 0, 0⟩ :: parg7 D W C lazy (D.length - (p + 1)) (p + 1)) := fun h => parg7_lit hpD h
      have hbd : (bst7 D p W C).2 ≤ p := by
        rcases hmt with e | e
        · omega
        · exact e.dp
      have HCB : Hid (∀ wq qa qc s p', PS wA.heap.size b mm D a n cap W C lazy wA wq oa oc m T qa qc s → s ≤ p' → p' < n → Calls Try.prog 38 #[.pointer (some ⟨b, 0, none⟩), .int .i64 (p' : Int)] wq fun e w' => e = .returned (.tuple #[.int .i64 ((bst7 D p' W C).1 : Int), .int .i64 ((bst7 D p' W C).2 : Int)]) ∧ ∃ qa' qc' s', s' ≤ p' ∧ PS wA.heap.size b mm D a n cap W C lazy wA w' oa oc m T qa' qc' s') := fun wq qa qc s p' hp1 hp2 hp3 => by
        refine (pbst7 wA.heap.size b mm qa qc D a n cap W C lazy s p' hn wq hp1.ch hp2 hp3 hl hW2 hC).mono ?_
        rintro e w' ⟨rfl, ⟨qa', qc', s', h1, h2, h3⟩, h4⟩
        exact ⟨rfl, qa', qc', s', h1, hp1.best h2 h3 h4⟩
      have CB := HCB.out wr qa qc s p hPS hsp hlt
      have CB2 : Hid (∀ wq qa qc s, PS wA.heap.size b mm D a n cap W C lazy wA wq oa oc m T qa qc s → s ≤ p + 1 → p + 1 < n → Calls Try.prog 38 #[.pointer (some ⟨b, 0, none⟩), .int .i64 ((p : Int) + 1)] wq fun e w' => e = .returned (.tuple #[.int .i64 ((bst7 D (p + 1) W C).1 : Int), .int .i64 ((bst7 D (p + 1) W C).2 : Int)]) ∧ ∃ qa' qc' s', s' ≤ p + 1 ∧ PS wA.heap.size b mm D a n cap W C lazy wA w' oa oc m T qa' qc' s') := fun wq qa qc s h1 h2 h3 => by
        have := HCB.out wq qa qc s (p + 1) h1 h2 h3
        simpa using this
      obtain ⟨g, off, rfl, cp⟩ := sg.at_ p hpD
      have hzb := sg.bd p
      have HCE : Hid (∀ w2, Below wA.heap.size wA w2 → w2.cell? ⟨g, off + p, none⟩ = some (.int .u8 (D.getD p 0))) := fun w2 h2 => by
        obtain ⟨g', off', e, c⟩ := ((show Seg wA (some ⟨g, off, none⟩) D from HSA.out).old h2).at_ p hpD
        cases e
        exact c
      have hwp1 : IntKind.i64.wrap ((p : Int) + 1) = (p : Int) + 1 := IntWalk.i64_in _ (by omega)
      obtain ⟨k0, k1, k2⟩ := (show LkAt wA ob W C lazy from HLA.out).of_block (hPS.bel.block ob hol)
      clear sg hmt hPS HCB HP cp
      generalize D.getD p 0 = z at *
      generalize (bst7 D p W C).1 = bl at *
      generalize (bst7 D p W C).2 = dl at *
      generalize (bst7 D (p + 1) W C).1 = bl2 at *
      generalize (bst7 D (p + 1) W C).2 = dl2 at *
      generalize pick7 D W C lazy p = pk at *
      have hwpb : IntKind.i64.wrap ((p : Int) + (bl : Int)) = ((p + bl : Nat) : Int) := by rw [IntWalk.i64_in _ (by omega)]; omega
      obtain ⟨pb, hpb⟩ : ∃ pb, pb = p + bl := ⟨_, rfl⟩
      rw [← hpb] at hwpb
      have HPB : Hid (pb = p + bl) := hpb
      clear hpb
      by_cases hb0 : bl = 0
      · have HK : Hid (pk = 0) := by show _ = _; rw [HPK.out, if_neg (by omega)]; exact hb0
        subst hb0
        go_wp2_with fail
        refine CB.mono ?_
        rintro e w2 ⟨rfl, qa2, qc2, s2, hs2p, hPx⟩
        have hP2 := hPx
        have c2 : w2.cell? ⟨g, off + p, none⟩ = some (.int .u8 z) := HCE.out w2 hP2.bel
        have O2 := hP2.own
        have hs2 := hP2.bel.size
        have kq := (show LkAt wA ob W C lazy from HLA.out).of_block (hP2.bel.block ob hol)
        obtain ⟨q0, q1, q2⟩ := kq
        have HP2 : Hid (PS wA.heap.size b mm D (some ⟨g, off, none⟩) n cap W C lazy wA w2 oa oc m T qa2 qc2 s2) := hP2
        clear hP2
        go_wp2_with (first | (at_builtin; refine wpList_appTF rfl (.tmp 51) (.tmp 57) 24 rfl wA.heap.size 56 i0 _ 24 Try.underlying24 hi hz0 hz1 hz2 rfl w2 ⟨z, 0, 0⟩ O2 rfl rfl (by omega) (by omega) hs2 ?_; intro gg gc w3 own3 hk3 hat3))
        have hP3 := (show PS wA.heap.size b mm D (some ⟨g, off, none⟩) n cap W C lazy wA w2 oa oc m T qa2 qc2 s2 from HP2.out).app own3 hk3 hat3
        have HP3 : Hid (par7 D W C lazy = (T ++ [⟨z, 0, 0⟩]) ++ parg7 D W C lazy (D.length - (p + 1)) (p + 1)) := by
          show _ = _
          rw [HPR.out, HLI.out HK.out, List.append_assoc]
          rfl
        have HT3 : Hid ((T ++ [(⟨z, 0, 0⟩ : Tok7)]).length = m + 1) := by show _ = _; rw [List.length_append, HTL.out]; rfl
        clear HPR HLI HMA HPK own3 hk3 hat3
        go_wp2_with fail
        go_roundw
        case rel => exact ⟨p + 1, m + 1, gc, qc2, s2, _, qa2, T ++ [⟨z, 0, 0⟩], by omega, by omega, by go_num, rfl, HT3.out, HP3.out, by omega, hP3⟩
        case measure => simp [intOf]; omega
      · have hbi : (0 : Int) < (bl : Int) := by omega
        have hbn : ¬ (bl : Int) = 0 := by omega
        have hbn2 : 0 < bl := by omega
        have hp1 : p + 1 < n := by omega
        cases lazy with
        | false =>
          have HK : Hid (pk = bl) := by show _ = _; rw [HPK.out, if_neg (by simp)]
          go_wp2_with fail
          refine CB.mono ?_
          rintro e w2 ⟨rfl, qa2, qc2, s2, hs2p, hPx⟩
          have hP2 := hPx
          have O2 := hP2.own
          have hs2 := hP2.bel.size
          have kq := (show LkAt wA ob W C false from HLA.out).of_block (hP2.bel.block ob hol)
          obtain ⟨q0, q1, q2⟩ := kq
          have HP2 : Hid (PS wA.heap.size b mm D (some ⟨g, off, none⟩) n cap W C false wA w2 oa oc m T qa2 qc2 s2) := hP2
          clear hP2
          go_wp2_with (first | (at_builtin; refine wpList_appTF rfl (.tmp 61) (.tmp 65) 24 rfl wA.heap.size 56 i0 _ 24 Try.underlying24 hi hz0 hz1 hz2 rfl w2 ⟨0, bl, dl⟩ O2 rfl rfl (by omega) (by omega) hs2 ?_; intro gg gc w3 own3 hk3 hat3))
          have hP3 := (show PS wA.heap.size b mm D (some ⟨g, off, none⟩) n cap W C false wA w2 oa oc m T qa2 qc2 s2 from HP2.out).app own3 hk3 hat3
          have HP3 : Hid (par7 D W C false = (T ++ [⟨0, bl, dl⟩]) ++ parg7 D W C false (D.length - pb) pb) := by
            show _ = _
            rw [HPR.out, HMA.out bl HK.out hb0, List.append_assoc, HPB.out]
            rfl
          have HT3 : Hid ((T ++ [(⟨0, bl, dl⟩ : Tok7)]).length = m + 1) := by show _ = _; rw [List.length_append, HTL.out]; rfl
          clear HPR HLI HMA HPK own3 hk3 hat3
          go_wp2_with fail
          go_roundw
          case rel => exact ⟨pb, m + 1, gc, qc2, s2, _, qa2, T ++ [⟨0, bl, dl⟩], by rw [HPB.out]; exact hmf, by have := HPB.out; omega, rfl, rfl, HT3.out, HP3.out, by have := HPB.out; omega, hP3⟩
          case measure => have := HPB.out; simp [intOf]; omega
        | true =>
          by_cases hgt : bl < bl2
          · have HK : Hid (pk = 0) := by show _ = _; rw [HPK.out, if_pos ⟨by omega, rfl, hp1, hgt⟩]
            have hgti : (bl : Int) < (bl2 : Int) := by omega
            go_wp2_with fail
            refine CB.mono ?_
            rintro e w5 ⟨rfl, qa5, qc5, s5, hs5p, hPy⟩
            obtain ⟨m0, m1, m2⟩ := (show LkAt wA ob W C true from HLA.out).of_block (hPy.bel.block ob hol)
            have CB5 := CB2.out w5 qa5 qc5 s5 hPy (by omega) hp1
            clear hPy
            go_wp2_with fail
            refine CB5.mono ?_
            rintro e w2 ⟨rfl, qa2, qc2, s2, hs2p, hPx⟩
            have hP2 := hPx
            have c2 : w2.cell? ⟨g, off + p, none⟩ = some (.int .u8 z) := HCE.out w2 hP2.bel
            have O2 := hP2.own
            have hs2 := hP2.bel.size
            have kq := (show LkAt wA ob W C true from HLA.out).of_block (hP2.bel.block ob hol)
            obtain ⟨q0, q1, q2⟩ := kq
            have HP2 : Hid (PS wA.heap.size b mm D (some ⟨g, off, none⟩) n cap W C true wA w2 oa oc m T qa2 qc2 s2) := hP2
            clear hP2
            go_wp2_with (first | (at_builtin; refine wpList_appTF rfl (.tmp 51) (.tmp 57) 24 rfl wA.heap.size 56 i0 _ 24 Try.underlying24 hi hz0 hz1 hz2 rfl w2 ⟨z, 0, 0⟩ O2 rfl rfl (by omega) (by omega) hs2 ?_; intro gg gc w3 own3 hk3 hat3))
            have hP3 := (show PS wA.heap.size b mm D (some ⟨g, off, none⟩) n cap W C true wA w2 oa oc m T qa2 qc2 s2 from HP2.out).app own3 hk3 hat3
            have HP3 : Hid (par7 D W C true = (T ++ [⟨z, 0, 0⟩]) ++ parg7 D W C true (D.length - (p + 1)) (p + 1)) := by
              show _ = _
              rw [HPR.out, HLI.out HK.out, List.append_assoc]
              rfl
            have HT3 : Hid ((T ++ [(⟨z, 0, 0⟩ : Tok7)]).length = m + 1) := by show _ = _; rw [List.length_append, HTL.out]; rfl
            clear HPR HLI HMA HPK own3 hk3 hat3
            go_wp2_with fail
            go_roundw
            case rel => exact ⟨p + 1, m + 1, gc, qc2, s2, _, qa2, T ++ [⟨z, 0, 0⟩], by omega, by omega, by go_num, rfl, HT3.out, HP3.out, by omega, hP3⟩
            case measure => simp [intOf]; omega
          · have HK : Hid (pk = bl) := by show _ = _; rw [HPK.out, if_neg (by omega)]
            have hgti : ¬ (bl : Int) < (bl2 : Int) := by omega
            go_wp2_with fail
            refine CB.mono ?_
            rintro e w5 ⟨rfl, qa5, qc5, s5, hs5p, hPy⟩
            obtain ⟨m0, m1, m2⟩ := (show LkAt wA ob W C true from HLA.out).of_block (hPy.bel.block ob hol)
            have CB5 := CB2.out w5 qa5 qc5 s5 hPy (by omega) hp1
            clear hPy
            go_wp2_with fail
            refine CB5.mono ?_
            rintro e w2 ⟨rfl, qa2, qc2, s2, hs2p, hPx⟩
            have hP2 := hPx
            have O2 := hP2.own
            have hs2 := hP2.bel.size
            have kq := (show LkAt wA ob W C true from HLA.out).of_block (hP2.bel.block ob hol)
            obtain ⟨q0, q1, q2⟩ := kq
            have HP2 : Hid (PS wA.heap.size b mm D (some ⟨g, off, none⟩) n cap W C true wA w2 oa oc m T qa2 qc2 s2) := hP2
            clear hP2
            go_wp2_with (first | (at_builtin; refine wpList_appTF rfl (.tmp 61) (.tmp 65) 24 rfl wA.heap.size 56 i0 _ 24 Try.underlying24 hi hz0 hz1 hz2 rfl w2 ⟨0, bl, dl⟩ O2 rfl rfl (by omega) (by omega) hs2 ?_; intro gg gc w3 own3 hk3 hat3))
            have hP3 := (show PS wA.heap.size b mm D (some ⟨g, off, none⟩) n cap W C true wA w2 oa oc m T qa2 qc2 s2 from HP2.out).app own3 hk3 hat3
            have HP3 : Hid (par7 D W C true = (T ++ [⟨0, bl, dl⟩]) ++ parg7 D W C true (D.length - pb) pb) := by
              show _ = _
              rw [HPR.out, HMA.out bl HK.out hb0, List.append_assoc, HPB.out]
              rfl
            have HT3 : Hid ((T ++ [(⟨0, bl, dl⟩ : Tok7)]).length = m + 1) := by show _ = _; rw [List.length_append, HTL.out]; rfl
            clear HPR HLI HMA HPK own3 hk3 hat3
            go_wp2_with fail
            go_roundw
            case rel => exact ⟨pb, m + 1, gc, qc2, s2, _, qa2, T ++ [⟨0, bl, dl⟩], by rw [HPB.out]; exact hmf, by have := HPB.out; omega, rfl, rfl, HT3.out, HP3.out, by have := HPB.out; omega, hP3⟩
            case measure => have := HPB.out; simp [intOf]; omega
    · have hge : ¬ (p : Int) < (n : Int) := by omega
      have HE : Hid (par7 D W C lazy = T) := by
        show _ = _
        rw [HPR.out, show D.length - p = 0 by rw [hn.out]; omega, parg7, List.append_nil]
      have OO := hPS.own
      have BR := hPS.bel
      clear HPR hPS
      go_wp2_with fail
      go_ret2
      refine ⟨oa, oc, ?_, ?_, bA.trans (BR.mono bA.size)⟩
      · rw [HE.out, HTL.out]; rfl
      · rw [HE.out, HTL.out]; exact own_baseT OO bA.size
theorem ppar7 (D : List Int) (a : Option Addr) (n cap : Nat) (win chain : Int) (lazy : Bool) (hn : Hid (D.length = n)) (w : World) (hs : Seg w a D) (hcap : n ≤ cap) (hnil : a = none → cap = 0) (hl : n ≤ 1073741824) : Calls Try.prog 21 #[.slice a n cap, look7 win chain lazy] w (ParQ w 56 (parse7 D win chain lazy) (opt7 win chain)) := by
  unfold parse7
  by_cases ho : opt7 win chain = 0
  · rw [if_pos ho, ho]
    obtain ⟨h1, h2, h3, h4⟩ := opt7_ok ho
    obtain ⟨W, rfl⟩ := Int.eq_ofNat_of_zero_le (show 0 ≤ win by omega)
    obtain ⟨C, rfl⟩ := Int.eq_ofNat_of_zero_le h3
    exact pparse7_ok D a n cap W C lazy hn w hs hl (by omega) (by omega) (by omega)
  · rw [if_neg ho, opt7_no ho]
    refine (pparse7_no a n cap win chain lazy w ho).mono ?_
    rintro e w' ⟨rfl, hb⟩
    exact ⟨none, 0, rfl, World.ownsRow_nil _ _ _ _, hb⟩
end Go.Proofs.Ytaipfcfmhdigfaa

namespace Go.Proofs.Ytaipfcfmhdigfaa
/-! The landed lz, as the walks of layer 7 name it: popt7, pchk7, psiz7, pexp7 (LzP1, LzP1b), pbest7 (LzP7), ppar7 (LzP8). -/
end Go.Proofs.Ytaipfcfmhdigfaa

namespace Go.Proofs.Ytaipfcfmhdigfaa
open Go.RowKit
set_option linter.unusedVariables false

theorem run_conv_seg7 {P : Program} {w : World} {a : Option Addr} {zs : List Int} (cap : Nat) (h : Seg w a zs) (src e dst : TypeId) (hs : P.underlying src = some (.slice e)) (he : P.underlying e = some (.int .u8)) (hd : P.underlying dst = some .string) :
    (convert src dst (.slice a zs.length cap)).run P w = .ok (.string (strOfNums zs)) w := by
  by_cases hz : 0 < zs.length
  · obtain ⟨b, off, rfl, _⟩ := h.at_ 0 hz
    refine run_convert_bytes_arg w src e hs he b off zs.length cap zs rfl (fun i hi => ?_) dst hd
    obtain ⟨b', off', hb, hc⟩ := h.at_ i hi
    cases hb
    exact hc
  · have : zs = [] := List.eq_nil_of_length_eq_zero (by omega)
    subst this
    cases a with
    | none => exact run_convert_bytes_nil w src e hs he _ _ dst hd
    | some x =>
      rw [run_convert_bytes_string w src dst e _ _ cap hs he hd]
      have hl : (loadCells x 0).run P w = .ok (([] : List Int).map (Value.int .u8)).toArray w := by simp [loadCells, loadCellsFrom]
      have := run_bytesToString (P := P) w x 0 cap [] hl
      exact this
theorem seg_litM7 (w : World) (zs : List Int) (fr : Nat × Nat) (hz : ∀ z ∈ zs, 0 ≤ z ∧ z ≤ 255) : Seg (w.alloc (.cells (zs.map (Value.int .u8)).toArray 5 fr)) (some ⟨w.heap.size, 0, none⟩) zs := by
  refine ⟨fun i hi => ⟨w.heap.size, 0, rfl, ?_⟩, by decide, getD_bd (by decide) hz⟩
  rw [Nat.zero_add, World.cell?_alloc_mark]
  simp [List.getD, hi]
def abc9 : List Int := [97, 98, 99, 97, 98, 99, 97, 98, 99]
theorem abc_parse : parse7 abc9 100 10 false = [⟨97, 0, 0⟩, ⟨98, 0, 0⟩, ⟨99, 0, 0⟩, ⟨0, 6, 3⟩] := by kernel_rfl
theorem abc_check : check7 100 [⟨97, 0, 0⟩, ⟨98, 0, 0⟩, ⟨99, 0, 0⟩, ⟨0, 6, 3⟩] = (0, 0) := by kernel_rfl
theorem abc_expand : xpd7 100 [⟨97, 0, 0⟩, ⟨98, 0, 0⟩, ⟨99, 0, 0⟩, ⟨0, 6, 3⟩] = abc9 := by kernel_rfl
theorem abc_str : strOfNums abc9 = { data := #[97, 98, 99, 97, 98, 99, 97, 98, 99] } := by kernel_rfl
set_option maxRecDepth 100000 in
set_option maxHeartbeats 2000000 in
theorem lives7 (w : World) : Calls Try.prog 9 #[] w fun e w' => e = .returned (.bool true) ∧ Below w.heap.size w w' := by
  have hbd : ∀ z ∈ abc9, 0 ≤ z ∧ z ≤ 255 := by decide
  obtain ⟨wA, hwA⟩ : ∃ wA, wA = w.alloc (.cells (abc9.map (Value.int .u8)).toArray 5 (9, 10)) := ⟨_, rfl⟩
  have sA : Seg wA (some ⟨w.heap.size, 0, none⟩) abc9 := by rw [hwA]; exact seg_litM7 w abc9 _ hbd
  have bA : Below w.heap.size w wA := by rw [hwA]; exact (Below.refl _ _).alloc (Nat.le_refl _) _
  have HC := Lib.run_convert_bytes_const (P := Try.prog) w 32 5 #[.int .u8 97, .int .u8 98, .int .u8 99, .int .u8 97, .int .u8 98, .int .u8 99, .int .u8 97, .int .u8 98, .int .u8 99] 9 9 Try.underlying32 Try.underlying5
  have hwA2 : w.alloc (.cells #[.int .u8 97, .int .u8 98, .int .u8 99, .int .u8 97, .int .u8 98, .int .u8 99, .int .u8 97, .int .u8 98, .int .u8 99] 5 (9, 10)) = wA := hwA.symm
  simp only [List.size_toArray, List.length_cons, List.length_nil] at HC
  rw [hwA2] at HC
  have CP := ppar7 abc9 (some ⟨w.heap.size, 0, none⟩) 9 9 100 10 false (show _ = _ by rfl) wA sA (by omega) (by intro h; cases h) (by omega)
  rw [abc_parse, show opt7 100 10 = 0 by decide] at CP
  clear hwA hwA2 sA
  unfold look7 at CP
  go_enter Try.func9, Try.ntmps9
  go_wp2_with fail
  refine CP.mono ?_
  rintro e w1 ⟨oa, oc, rfl, O1, b1⟩
  obtain ⟨hc, hnl, _⟩ := own_factsT O1
  have s1 : SegT w1 oa [⟨97, 0, 0⟩, ⟨98, 0, 0⟩, ⟨99, 0, 0⟩, ⟨0, 6, 3⟩] := own_segT O1 rfl (by intro t ht; simp at ht; rcases ht with rfl | rfl | rfl | rfl <;> (unfold Tok7.Fit; decide))
  have CE := pexp7 100 [⟨97, 0, 0⟩, ⟨98, 0, 0⟩, ⟨99, 0, 0⟩, ⟨0, 6, 3⟩] oa 4 oc (show _ = _ by rfl) w1 s1 hc hnl (by omega)
  rw [abc_check, abc_expand] at CE
  have B1 : Below w.heap.size w w1 := bA.trans (b1.mono bA.size)
  go_wp2_with fail
  refine CE.mono ?_
  rintro e w2 ⟨ra, rc, rfl, O2, b2⟩
  have B2 : Below w.heap.size w w2 := B1.trans (b2.mono B1.size)
  have s2 := s1.old b2
  obtain ⟨g, off, rfl, ht⟩ := s2.at_ 3 (by decide)
  have ht' : TkAt w2 g (off + 3 * 3) ⟨0, 6, 3⟩ := ht
  obtain ⟨c0, c1, c2⟩ := ht'
  obtain ⟨_, a', cc, hv, sg, _⟩ := own_seg O2 (M := 255) (by decide) hbd
  cases hv
  have h1 := run_conv_seg7 (P := Try.prog) rc sg 32 5 9 Try.underlying32 Try.underlying5 Try.underlying9
  rw [abc_str] at h1
  simp only at c0 c1 c2
  have HB2 : Hid _ := B2
  have h9 : abc9.length = 9 := rfl
  rw [h9] at h1
  clear O1 O2 sg s1 s2 ht b1 b2 B1 CP CE
  rw [h9]
  go_wp2_with fail
  go_ret
  exact ⟨rfl, HB2.out⟩
end Go.Proofs.Ytaipfcfmhdigfaa

namespace Go.Proofs.Ytaipfcfmhdigfaa
open Go.RowKit
set_option linter.unusedVariables false

theorem run_conv_seg {P : Program} {w : World} {a : Option Addr} {zs : List Int} (cap : Nat) (h : Seg w a zs) (src e dst : TypeId) (hs : P.underlying src = some (.slice e)) (he : P.underlying e = some (.int .u8)) (hd : P.underlying dst = some .string) :
    (convert src dst (.slice a zs.length cap)).run P w = .ok (.string (strOfNums zs)) w := by
  by_cases hz : 0 < zs.length
  · obtain ⟨b, off, rfl, _⟩ := h.at_ 0 hz
    refine run_convert_bytes_arg w src e hs he b off zs.length cap zs rfl (fun i hi => ?_) dst hd
    obtain ⟨b', off', hb, hc⟩ := h.at_ i hi
    cases hb
    exact hc
  · have : zs = [] := List.eq_nil_of_length_eq_zero (by omega)
    subst this
    cases a with
    | none => exact run_convert_bytes_nil w src e hs he _ _ dst hd
    | some x =>
      rw [run_convert_bytes_string w src dst e _ _ cap hs he hd]
      have hl : (loadCells x 0).run P w = .ok (([] : List Int).map (Value.int .u8)).toArray w := by simp [loadCells, loadCellsFrom]
      have := run_bytesToString (P := P) w x 0 cap [] hl
      exact this

theorem str_inj {xs ys : List Int} (hx : ∀ z ∈ xs, 0 ≤ z ∧ z ≤ 255) (hy : ∀ z ∈ ys, 0 ≤ z ∧ z ≤ 255) : ((strOfNums xs).toList == (strOfNums ys).toList) = (xs == ys) := by
  rw [ByteArray.toList_eq, ByteArray.toList_eq, strOfNums_data, strOfNums_data]
  have key : ∀ (xs ys : List Int), (∀ z ∈ xs, 0 ≤ z ∧ z ≤ 255) → (∀ z ∈ ys, 0 ≤ z ∧ z ≤ 255) → (xs.map fun n => UInt8.ofNat n.toNat) = (ys.map fun n => UInt8.ofNat n.toNat) → xs = ys := by
    intro xs
    induction xs with
    | nil => intro ys _ _ h; cases ys with
      | nil => rfl
      | cons y r => simp at h
    | cons x r ih =>
      intro ys hx hy h
      cases ys with
      | nil => simp at h
      | cons y t =>
        simp only [List.map_cons, List.cons.injEq] at h
        have h1 := hx x (by simp)
        have h2 := hy y (by simp)
        have h3 := congrArg UInt8.toNat h.1
        simp at h3
        have h4 : x = y := by omega
        rw [h4, ih t (fun z hz => hx z (by simp [hz])) (fun z hz => hy z (by simp [hz])) h.2]
  rw [Bool.eq_iff_iff, beq_iff_eq, beq_iff_eq]
  exact ⟨key xs ys hx hy, fun h => by rw [h]⟩

set_option maxRecDepth 100000 in
theorem bsame_any (a b : Option Addr) (xs ys : List Int) (ca cb : Nat) (w : World) (hx : Seg w a xs) (hy : Seg w b ys) :
    Calls Try.prog 15 #[.slice a xs.length ca, .slice b ys.length cb] w fun e w' => e = .returned (.bool (xs == ys)) ∧ w' = w := by
  have h1 := run_conv_seg (P := Try.prog) ca hx 32 5 9 Try.underlying32 Try.underlying5 Try.underlying9
  have h2 := run_conv_seg (P := Try.prog) cb hy 32 5 9 Try.underlying32 Try.underlying5 Try.underlying9
  have HE : Hid (((strOfNums xs).toList == (strOfNums ys).toList) = (xs == ys)) := str_inj hx.mem hy.mem
  go_enter Try.func15, Try.ntmps15
  go_wp2
  go_ret
  exact ⟨by rw [← HE.out]; rfl, rfl⟩
end Go.Proofs.Ytaipfcfmhdigfaa
