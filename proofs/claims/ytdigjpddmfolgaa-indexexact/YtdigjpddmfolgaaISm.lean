/- An index's All: its value, its walk. -/
import Derived.Test.YtdigjpddmfolgaaIEn
import Derived.Test.YtdigjpddmfolgaaIRn
import Derived.Test.YtdigjpddmfolgaaRQm
namespace Go.Proofs.Ytdigjpddmfolgaa
set_option linter.unusedVariables false
set_option linter.unusedSimpArgs false
namespace TX
open Go.RowKit Go.Sort
set_option maxRecDepth 100000
set_option maxHeartbeats 16000000
attribute [local go_sem] Oper.semAt_some

def tyl : List TypeId := [KLT, KDT]
theorem OwnD.keepT {W W' : World} {B : Nat} {v : Value} {V : List KE} (h : OwnD W B v V) (hk : KeepT tyl W W') : OwnD W' B v V := h.same (fun b e => by obtain ⟨cs, hc⟩ := h.blk e; exact hk.same b _ _ _ hc (by decide))
def itV (b : Nat) : Value := .func (.func 22) #[] #[.pointer (some ⟨b, 0, none⟩)]
/-- What All told when it was taken. -/
def ItA (W : World) (v : Value) (V : List KE) : Prop := ∃ lb u, v = itV lb ∧ Blk W lb #[u] KLT ∧ OwnD W 0 u V
section
variable {F : Fence} {n : Nat} {ops : Array Oper} {rest : List Oper} {op : Oper} {a : Act} {w : World} {Q : Exit → Act → World → Prop}
theorem wpListIn_ldKD (hg : Region.wanted op (yielded ops a.tmps) = true) (x : Operand) (ho : op.op = .load KDT x) (b o : Nat) (hx : a.eval x = .pointer (some ⟨b, o, none⟩)) (z : KE) (h : w.rangeAt b o (kdC z))
    (hk : wpListIn F n Try.prog ops Q rest (a.put op.dst (kdV z)) w) : wpListIn F n Try.prog ops Q (op :: rest) a w :=
  wpListIn_ldG hg x ho _ (run_loadO ho hx (run_ldKDo h)) hk
theorem wpListIn_putD (hgd : op.guard = none) (x y : Operand) (ho : op.op = .store KDT x y) (z : Nat) (hx : a.eval x = .pointer (some ⟨z, 0, none⟩)) (w0 : World) (hw : w = w0.alloc (.cells (kdA kdZ) KDT)) (hz : z = w0.heap.size) (k : KE) (hy : a.eval y = kdV k)
    (h : ∀ w', Hid (Blk w' z (kdA k) KDT) → Below w0.heap.size w0 w' → w'.heap.size = w0.heap.size + 1 → wpListIn F n Try.prog ops Q rest (a.put op.dst undef) w') : wpListIn F n Try.prog ops Q (op :: rest) a w :=
  wpListIn_putX (m := 36) hgd x y ho z hx w0 (kdA kdZ) (kdA k) hw hz hy (kdA_size _) (kdA_size _) iKD (kdC_one k) h
end
theorem it_fit (n : Nat) (w : World) {lb : Nat} {u : Value} {V : List KE} (hb : Blk w lb #[u] KLT) (ho : OwnD w 0 u V) (hl : V.length ≤ 1099511627776) :
    SeqKp Fence.wide n Try.prog 22 #[.pointer (some ⟨lb, 0, none⟩)] prV (KeepT tyl) (fun xs => xs = V) (fun pre x _ _ => (pre ++ [x]) <+: V) w := by
  intro l J Jx W hW hJ hJx hY h0
  refine callsIn_of_wp Try.func22 rfl trivial ?_ rfl
  simp only [Try.ntmps22, List.size_toArray, List.length_cons, List.length_nil, Nat.reduceAdd, Nat.reduceSub, Array.replicate_succ, Array.replicate_zero, List.push_toArray, List.append_toArray, List.nil_append, List.cons_append]
  have HY := hide hY
  have HJ := hide hJ
  have HO := hide (ho.below hW)
  obtain ⟨ao, c, rfl, hg⟩ := ho.form
  have HG := hide hg
  obtain ⟨m, hm⟩ : ∃ m, m = V.length := ⟨_, rfl⟩
  have HM := hide hm
  rw [← hm] at HO hb hl
  have cb : W.cell? ⟨lb, 0, none⟩ = some (.slice ao m c) := by rw [(hb.below hW hb.lt).cell]; rfl
  have lb1 := (hb.below hW hb.lt).lt
  have HJ0 := hide h0
  clear hY hb hJ hJx hW h0 ho hg hm
  gi_wp2
  gi_loopw [7] (fun t wr => ∃ i : Nat, t = .int .i64 i ∧ i ≤ m ∧ J (V.take i) wr ∧ KeepT tyl W wr) (fun t _ => m - (intOf t).toNat)
  case atStart => exact ⟨0, rfl, by omega, by rw [List.take_zero]; exact HJ0.out, KeepT.refl _ _⟩
  case round =>
    obtain ⟨i, rfl, hi, hJi, hKi⟩ := hrel
    clear HJ0 cb lb1
    by_cases hlt : i < m
    · have hji : (i : Int) < (m : Int) := by omega
      obtain ⟨z, hz⟩ : ∃ z, V[i]? = some z := ⟨_, List.getElem?_eq_getElem (by rw [← HM.out]; exact hlt)⟩
      obtain ⟨g, rfl⟩ := HG.out (by rw [← HM.out]; omega)
      obtain ⟨ao2, c2, e2, hr⟩ := (HO.out.keepT hKi).read
      injection e2 with q1 q2 q3
      obtain ⟨h, so, e3, h3⟩ := hr (by rw [← HM.out]; omega)
      rw [← q1] at e3
      cases e3
      clear q1 q2 q3
      have hrz := h3 i z hz
      rw [Nat.zero_add] at hrz
      have HRZ := hide hrz
      have HJi := hide hJi
      have HKi := hide hKi
      have HT2 : Hid (V.take (i + 1) = V.take i ++ [z]) := hide (by rw [List.take_add_one, hz]; rfl)
      have HPF : Hid ((V.take i ++ [z]) <+: V) := hide (by rw [← HT2.out]; exact List.take_prefix _ _)
      have hzk := zero_KD
      clear hz hr h3 hrz hJi hKi
      gi_wp2_with (first | ((with_reducible refine wpListIn_ldKD ?_ (.tmp 9) ?_ g (i * 36) ?_ z HRZ.out ?_); rfl; rfl; rfl) | ((with_reducible refine wpListIn_putD ?_ (.tmp 4) (.tmp 10) ?_ wr.heap.size ?_ wr ?_ ?_ z ?_ ?_); rfl; rfl; rfl; rfl; rfl; rfl; intro w2 HB2 hb2 hs2; have HBW := hide hb2; have HKR : Hid (w2.rangeAt wr.heap.size 0 (kC z.1)) := hide (kd_keyAt (Blk.range HB2.out)); have HER : Hid (w2.rangeAt wr.heap.size 32 (eC z.2)) := hide (by have h5 := kd_entAt (Blk.range HB2.out); rw [Nat.zero_add] at h5; exact h5); clear hb2) | ((with_reducible refine wpListIn_ldK ?_ (.tmp 12) ?_ wr.heap.size 0 ?_ z.1 HKR.out ?_); rfl; rfl; rfl) | ((with_reducible refine wpListIn_ldE ?_ (.tmp 14) ?_ wr.heap.size 32 ?_ z.2 HER.out ?_); rfl; rfl; rfl))
      obtain ⟨fn, tmps, assign, bod, hy, hR⟩ := HY.out (V.take i) z wr w2 HJi.out HBW.out HPF.out
      unfold prV at hy
      have HR := hide hR
      clear hR
      rw [hy]
      gi_wp2
      refine ⟨fun h => (by cases h), ?_⟩
      refine HR.out.mono ?_
      rintro e W3 (⟨rfl, hJ3, hk3⟩ | ⟨rfl, hJx3⟩)
      · have HJ3 := hide hJ3
        have HK3 := hide ((HKi.out.trans (KeepT.below HBW.out)).trans hk3)
        clear hJ3 hk3 HR hy
        gi_wp2
        go_roundw
        case rel => exact ⟨i + 1, by go_num, by omega, by rw [HT2.out]; exact HJ3.out, HK3.out⟩
        case measure => simp [intOf]; omega
      · have HX3 := hide hJx3
        clear hJx3 HR hy
        gi_wp2
        refine bodyPost_ret (results_none rfl _ _ _) rfl ?_
        exact ⟨⟨_, rfl⟩, .inr ⟨_, HX3.out⟩⟩
    · have hji : ¬ (i : Int) < (m : Int) := by omega
      have HE : Hid (V.take i = V) := hide (List.take_of_length_le (by rw [← HM.out]; omega))
      have HJi := hide hJi
      clear hJi hKi
      gi_wp2
      refine bodyPost_end (results_none rfl _ _ _) rfl ?_
      exact ⟨⟨_, rfl⟩, .inl (by have h := HJi.out; rw [HE.out] at h; exact h)⟩
theorem all_ix (w : World) {x P : Nat} {L : List Tab} {f : KY → Option EN} (hx : IxL w x 16 L f P) {B : List KE} (hB : Maps B f) (hBl : B.length < 2199023255552) : Calls Try.prog 8 #[.pointer (some ⟨x, 0, none⟩)] w fun e w' => ∃ v V, e = .returned v ∧ ItA w' v V ∧ Maps V f ∧ RisD V ∧ Below w.heap.size w w' := by
  have HE := hide (entries_any sorts w hx hB hBl)
  unfold EntC at HE
  clear hx hB hBl
  go_enter Try.func8, Try.ntmps8
  go_wp2_with (go_at_call 21; (with_reducible refine HE.out.mono ?_); rintro e w1 ⟨v, V, rfl, ho, hm, hr, hbk, hb⟩; obtain ⟨ao, n, c, rfl⟩ := ho.slice; have HO := hide ho; have HM := hide hm; have HR := hide hr; have HB := hide hb; clear ho hm hr hbk hb)
  go_ret
  refine ⟨_, V, rfl, ⟨w1.heap.size, _, rfl, Blk.made w1 _ _, (HO.out.below (below_alloc w1 _)).lower (Nat.zero_le _)⟩, HM.out, HR.out, HB.out.trans ((below_alloc w1 _).mono HB.out.size)⟩
theorem entries_nil (w : World) : Calls Try.prog 21 #[.pointer none] w fun e w' => e = .returned (.slice none 0 0) ∧ w' = w := by
  go_enter Try.func21, Try.ntmps21
  go_wp2
  go_ret
  exact ⟨rfl, rfl⟩
theorem all_nil (w : World) : Calls Try.prog 8 #[.pointer none] w fun e w' => ∃ v, e = .returned v ∧ ItA w' v [] ∧ Below w.heap.size w w' := by
  have HE := hide (entries_nil w)
  go_enter Try.func8, Try.ntmps8
  go_wp2_with (go_at_call 21; (with_reducible refine HE.out.mono ?_); rintro e w1 ⟨rfl, rfl⟩)
  go_ret
  exact ⟨_, rfl, ⟨_, _, rfl, Blk.made _ _ _, OwnD.nil _ _⟩, below_alloc _ _⟩
end TX
end Go.Proofs.Ytdigjpddmfolgaa

/- Equal values held against one another; the state of tells. -/
namespace Go.Proofs.Ytdigjpddmfolgaa
set_option linter.unusedVariables false
set_option linter.unusedSimpArgs false
namespace TX
open Go.RowKit Go.Sort
set_option maxRecDepth 100000
set_option maxHeartbeats 8000000

theorem run_neqK {op : Oper} {ev : Operand → Value} {x y : Operand} {u : TypeId} {a b : KY} (ho : op.op = .binOp .neq KT x y u) (hx : ev x = kV a) (hy : ev y = kV b) (w : World) : (execOp ev op).run Try.prog w = .ok (.value (.bool (!eqK a b))) w := by
  simp only [execOp, ho, hx, hy, Sem.run_bind, run_eqGuard_agg (P := Try.prog) w .neq KT x y _ _ guardK, Result.andThen_ok, run_neq_struct, equalKK a b, Sem.run_pure]
theorem guardE : Try.prog.eqGuardType Try.prog.depth ET = false := by kernel_rfl
theorem underE : Try.prog.underlying ET = some (.struct (Try.prog.fieldsOf ET)) := by kernel_rfl
theorem stoodE : Try.prog.stoodInHeld ET = false := by kernel_rfl
theorem partE0 (p : EN) (w : World) : (part PLT (eA p) 0).run Try.prog w = .ok (plV p.pl) w := by
  obtain ⟨a, b, c, d⟩ := p
  kernel_rfl
theorem partE1 (p : EN) (w : World) : (part 3 (eA p) 2).run Try.prog w = .ok (.int .i64 p.sz) w := by
  obtain ⟨a, b, c, d⟩ := p
  kernel_rfl
theorem partE2 (p : EN) (w : World) : (part 35 (eA p) 3).run Try.prog w = .ok (.int .u32 p.ep) w := by
  obtain ⟨a, b, c, d⟩ := p
  kernel_rfl
def eqE (p q : EN) : Bool := eqP p.pl q.pl && p.sz == q.sz && p.ep == q.ep
theorem eqE_self (p : EN) : eqE p p = true := by unfold eqE eqP; simp
theorem equalP9 (p q : PL) (w : World) : (Op.equalIn 9999 PLT (plV p) (plV q)).run Try.prog w = .ok (eqP p q) w := by
  rw [run_equalIn_agg w 9998 _ _ _ underP stoodP]
  simp only [Program.fieldsOf, Try.underlying34]
  have e0 := fun p W => partP0 p W
  have e1 := fun p W => partP1 p W
  have q1 := fun W (n m : Int) => run_equalIn_int (P := Try.prog) W 9997 3 .i64 .i64 n m Try.underlying3
  by_cases h : p.sg = q.sg
  · have hb : (p.sg == q.sg) = true := by simpa using h
    simp [Op.eqFields, Sem.run_bind, e0, e1, q1, Result.andThen, eqP, hb]
    by_cases h2 : p.of = q.of <;> simp [h2]
  · have hb : (p.sg == q.sg) = false := by simpa using h
    simp [Op.eqFields, Sem.run_bind, e0, e1, q1, Result.andThen, eqP, hb]
theorem equalE (p q : EN) (w : World) : (Op.equalIn 10000 ET (eV p) (eV q)).run Try.prog w = .ok (eqE p q) w := by
  rw [run_equalIn_agg w 9999 _ _ _ underE stoodE]
  simp only [Program.fieldsOf, Try.underlying37]
  have e0 := fun p W => partE0 p W
  have e1 := fun p W => partE1 p W
  have e2 := fun p W => partE2 p W
  have q0 := fun p q W => equalP9 p q W
  have q1 := fun W (n m : Int) => run_equalIn_int (P := Try.prog) W 9998 3 .i64 .i64 n m Try.underlying3
  have q2 := fun W (n m : Int) => run_equalIn_int (P := Try.prog) W 9998 35 .u32 .u32 n m Try.underlying35
  by_cases h : eqP p.pl q.pl = true
  · by_cases h2 : p.sz = q.sz
    · have hb2 : (p.sz == q.sz) = true := by simpa using h2
      simp [Op.eqFields, Sem.run_bind, e0, e1, e2, q0, q1, q2, Result.andThen, eqE, h, hb2]
      by_cases h3 : p.ep = q.ep <;> simp [h3]
    · have hb2 : (p.sz == q.sz) = false := by simpa using h2
      simp [Op.eqFields, Sem.run_bind, e0, e1, e2, q0, q1, q2, Result.andThen, eqE, h, hb2]
  · have hb : eqP p.pl q.pl = false := by simpa using h
    simp [Op.eqFields, Sem.run_bind, e0, e1, e2, q0, q1, q2, Result.andThen, eqE, hb]
theorem run_neqE {op : Oper} {ev : Operand → Value} {x y : Operand} {u : TypeId} {p q : EN} (ho : op.op = .binOp .neq ET x y u) (hx : ev x = eV p) (hy : ev y = eV q) (w : World) : (execOp ev op).run Try.prog w = .ok (.value (.bool (!eqE p q))) w := by
  simp only [execOp, ho, hx, hy, Sem.run_bind, run_eqGuard_agg (P := Try.prog) w .neq ET x y _ _ guardE, Result.andThen_ok, run_neq_struct, equalE p q, Sem.run_pure]
theorem run_eqlE {op : Oper} {ev : Operand → Value} {x y : Operand} {u : TypeId} {p q : EN} (ho : op.op = .binOp .eql ET x y u) (hx : ev x = eV p) (hy : ev y = eV q) (w : World) : (execOp ev op).run Try.prog w = .ok (.value (.bool (eqE p q))) w := by
  simp only [execOp, ho, hx, hy, Sem.run_bind, run_eqGuard_agg (P := Try.prog) w .eql ET x y _ _ guardE, Result.andThen_ok, run_eql_struct, equalE p q, Sem.run_pure]
theorem guardD : Try.prog.eqGuardType Try.prog.depth KDT = false := by kernel_rfl
theorem underD : Try.prog.underlying KDT = some (.struct (Try.prog.fieldsOf KDT)) := by kernel_rfl
theorem stoodD : Try.prog.stoodInHeld KDT = false := by kernel_rfl
theorem partD0 (z : KE) (w : World) : (part KT (kdA z) 0).run Try.prog w = .ok (kV z.1) w := by
  obtain ⟨k, e⟩ := z
  obtain ⟨bs, hk⟩ := k
  obtain ⟨a0, a1, a2, a3, a4, a5, a6, a7, a8, a9, a10, a11, a12, a13, a14, a15, a16, a17, a18, a19, a20, a21, a22, a23, a24, a25, a26, a27, a28, a29, a30, a31, rfl⟩ := list32 hk
  obtain ⟨s, o, z, p⟩ := e
  kernel_rfl
theorem partD1 (z : KE) (w : World) : (part ET (kdA z) 32).run Try.prog w = .ok (eV z.2) w := by
  obtain ⟨k, e⟩ := z
  obtain ⟨bs, hk⟩ := k
  obtain ⟨a0, a1, a2, a3, a4, a5, a6, a7, a8, a9, a10, a11, a12, a13, a14, a15, a16, a17, a18, a19, a20, a21, a22, a23, a24, a25, a26, a27, a28, a29, a30, a31, rfl⟩ := list32 hk
  obtain ⟨s, o, z, p⟩ := e
  kernel_rfl
theorem equalE9 (p : EN) (w : World) : (Op.equalIn 9999 ET (eV p) (eV p)).run Try.prog w = .ok true w := by
  rw [run_equalIn_agg w 9998 _ _ _ underE stoodE]
  simp only [Program.fieldsOf, Try.underlying37]
  have e0 := fun p W => partE0 p W
  have e1 := fun p W => partE1 p W
  have e2 := fun p W => partE2 p W
  have q0 : ∀ (p : PL) (W : World), (Op.equalIn 9998 PLT (plV p) (plV p)).run Try.prog W = .ok true W := fun p W => by
    rw [run_equalIn_agg W 9997 _ _ _ underP stoodP]
    simp only [Program.fieldsOf, Try.underlying34]
    have f0 := fun p W => partP0 p W
    have f1 := fun p W => partP1 p W
    have r1 := fun W (n m : Int) => run_equalIn_int (P := Try.prog) W 9996 3 .i64 .i64 n m Try.underlying3
    simp [Op.eqFields, Sem.run_bind, f0, f1, r1, Result.andThen]
  have q1 := fun W (n m : Int) => run_equalIn_int (P := Try.prog) W 9997 3 .i64 .i64 n m Try.underlying3
  have q2 := fun W (n m : Int) => run_equalIn_int (P := Try.prog) W 9997 35 .u32 .u32 n m Try.underlying35
  simp [Op.eqFields, Sem.run_bind, e0, e1, e2, q0, q1, q2, Result.andThen]
theorem equalK9 (a b : KY) (w : World) : (Op.equalIn 9999 KT (kV a) (kV b)).run Try.prog w = .ok (eqK a b) w :=
  run_equalIn_bytes (P := Try.prog) w 9997 KT 5 32 Try.underlying32 Try.underlying5 szU8 a.bs b.bs a.l32 b.l32
theorem equalD (z : KE) (w : World) : (Op.equalIn 10000 KDT (kdV z) (kdV z)).run Try.prog w = .ok true w := by
  rw [run_equalIn_agg w 9999 _ _ _ underD stoodD]
  simp only [Program.fieldsOf, Try.underlying57]
  have e0 := fun p W => partD0 p W
  have e1 := fun p W => partD1 p W
  have q0 := fun p q W => equalK9 p q W
  have q1 := fun p W => equalE9 p W
  simp [Op.eqFields, Sem.run_bind, e0, e1, q0, q1, Result.andThen, eqK_self]
theorem run_eqlD {op : Oper} {ev : Operand → Value} {x y : Operand} {u : TypeId} {z : KE} (ho : op.op = .binOp .eql KDT x y u) (hx : ev x = kdV z) (hy : ev y = kdV z) (w : World) : (execOp ev op).run Try.prog w = .ok (.value (.bool true)) w := by
  simp only [execOp, ho, hx, hy, Sem.run_bind, run_eqGuard_agg (P := Try.prog) w .eql KDT x y _ _ guardD, Result.andThen_ok, run_eql_struct, equalD z, Sem.run_pure]
end TX
end Go.Proofs.Ytdigjpddmfolgaa

/- tells: walked. -/
namespace Go.Proofs.Ytdigjpddmfolgaa
set_option linter.unusedVariables false
set_option linter.unusedSimpArgs false
namespace TX
open Go.RowKit Go.Sort
set_option maxRecDepth 100000
set_option maxHeartbeats 16000000
attribute [local go_sem] Oper.semAt_some

abbrev KPT : TypeId := 47
abbrev INT : TypeId := 3
/-- Between two rounds. -/
structure TlS (w : World) (N : Nat) (Ds : List Nat) (it vw : Value) (W : World) : Prop where
  kb : Blk W N #[it, vw] KPT
  rb : ∃ b, Blk W (N + 1) #[.bool b] BT
  bel : Below N w W
  nd : Ds.Nodup
  df : ∀ D ∈ Ds, N ≤ D ∧ W.heap[D]? = some (.deferred (some []))
section
variable {w W W' : World} {N : Nat} {Ds : List Nat} {it vw : Value}
theorem TlS.sz (h : TlS w N Ds it vw W) : N + 2 ≤ W.heap.size := by obtain ⟨b, h1⟩ := h.rb; have := Blk.lt h1; omega
theorem TlS.below (h : TlS w N Ds it vw W) (hb : Below W.heap.size W W') : TlS w N Ds it vw W' := by
  obtain ⟨b, h1⟩ := h.rb
  exact ⟨h.kb.below hb h.kb.lt, ⟨b, h1.below hb h1.lt⟩, h.bel.trans (hb.mono (by have := h.sz; omega)), h.nd, fun D hD => ⟨(h.df D hD).1, heap_grows hb (h.df D hD).2⟩⟩
theorem TlS.kept {C : Nat} {row : Option Nat} (h : TlS w N Ds it vw W) (hC : N ≤ C) (hg : W.grownBy W' row) (hr : ∀ r, row = some r → C ≤ r ∧ ∃ o : Obj, W.heap[r]? = some o ∧ o.isCells = false) (hD : ∀ D ∈ Ds, row ≠ some D) : TlS w N Ds it vw W' := by
  have hr2 : ∀ r, row = some r → ∃ o : Obj, W.heap[r]? = some o ∧ o.isCells = false := fun r e => (hr r e).2
  have hs := h.sz
  obtain ⟨b, h1⟩ := h.rb
  exact ⟨Blk.kept h.kb hg hr2, ⟨b, Blk.kept h1 hg hr2⟩,
    ⟨hg.os.trans h.bel.os, hg.tape.trans h.bel.tape, hg.output.trans h.bel.output, Nat.le_trans h.bel.size hg.size, fun i hi => (hg.block i (by omega) (fun e => by have := (hr i e.symm).1; omega)).trans (h.bel.block i hi)⟩,
    h.nd, fun D hDm => ⟨(h.df D hDm).1, (hg.block D (Array.getElem?_eq_some_iff.1 (h.df D hDm).2).1 (fun e => hD D hDm e.symm)).trans (h.df D hDm).2⟩⟩
theorem TlS.putLoop (h : TlS w N Ds it vw W) {l : Nat} {q : Loop} (hl : W.heap[l]? = some (.loop q)) (o' : Obj) (hN : N ≤ l) : TlS w N Ds it vw (W.putObj l o') :=
  h.kept hN (grownBy_putObj' W l o') (fun r e => by cases e; exact ⟨Nat.le_refl _, _, hl, rfl⟩) (fun D hm e => by
    have := (h.df D hm).2
    rw [← Option.some.inj e, hl] at this
    cases this)
/-- Within a walk that counts. -/
def TlI (w : World) (N : Nat) (Ds : List Nat) (it vw : Value) (ib : Nat) (pre : List KE) (W : World) : Prop := TlS w N Ds it vw W ∧ N + 2 ≤ ib ∧ Blk W ib #[.int .i64 (pre.length : Int)] INT
theorem TlI.own {ib C : Nat} (hC : N ≤ C) (hD : ∀ D ∈ Ds, D < C) : OwnFrom C (fun pre W => TlI w N Ds it vw ib pre W) :=
  fun s A B row ⟨h, h0, h1⟩ hg hr => ⟨h.kept hC hg hr (fun D hm e => by have := (hr D e).1; have := hD D hm; omega), h0, Blk.kept h1 hg (fun r e => (hr r e).2)⟩
theorem TlS.own {C : Nat} (hC : N ≤ C) (hD : ∀ D ∈ Ds, D < C) : OwnFrom C (fun (_ : List KE) W => TlS w N Ds it vw W) :=
  fun s A B row h hg hr => h.kept hC hg hr (fun D hm e => by have := (hr D e).1; have := hD D hm; omega)
/-- One more is counted. -/
theorem TlI.count {ib : Nat} {pre : List KE} {x : KE} (h : TlI w N Ds it vw ib pre W) : TlI w N Ds it vw ib (pre ++ [x]) (W.setCell ⟨ib, 0, none⟩ (.int .i64 (((pre ++ [x]).length : Nat) : Int))) ∧ KeepsLD W (W.setCell ⟨ib, 0, none⟩ (.int .i64 (((pre ++ [x]).length : Nat) : Int))) ∧ KeepT tyl W (W.setCell ⟨ib, 0, none⟩ (.int .i64 (((pre ++ [x]).length : Nat) : Int))) := by
  obtain ⟨h1, h2, h3⟩ := h
  have hg := grownBy_set W ib 0 (.int .i64 (((pre ++ [x]).length : Nat) : Int))
  have hs := h1.sz
  have kl : KeepsLD W (W.setCell ⟨ib, 0, none⟩ (.int .i64 (((pre ++ [x]).length : Nat) : Int))) := KeepsLD.grown' hg (fun r e => by cases e; exact ⟨_, _, h3⟩)
  have ne : ∀ b, b ≠ ib → some b ≠ some ib := fun b hb e => hb (Option.some.inj e)
  obtain ⟨b, hb⟩ := h1.rb
  refine ⟨⟨⟨h1.kb.grown hg (ne _ (by omega)), ⟨b, hb.grown hg (ne _ (by omega))⟩, ?_, h1.nd, fun D hD => ⟨(h1.df D hD).1, kl.df _ _ (h1.df D hD).2⟩⟩, h2, h3.set 0 _⟩, kl, KeepT.grown hg (fun r e => by cases e; exact ⟨_, _, _, h3, by decide⟩)⟩
  exact ⟨hg.os.trans h1.bel.os, hg.tape.trans h1.bel.tape, hg.output.trans h1.bel.output, Nat.le_trans h1.bel.size hg.size, fun i hi => (hg.block i (by omega) (ne _ (by omega))).trans (h1.bel.block i hi)⟩
theorem tl_made (w : World) (it vw : Value) : TlS w w.heap.size [] it vw ((w.alloc (.cells #[it, vw] KPT)).alloc (.cells #[.bool false] BT)) :=
  ⟨(Blk.made w _ _).alloc _, ⟨false, blk_mk1 w _ _ _⟩, ((Below.refl _ w).alloc (Nat.le_refl _) _).alloc (by simp) _, List.nodup_nil, fun D hD => by cases hD⟩
theorem tl_end {fn : Func} (hres : fn.results = #[.cell 2 BT]) {tmps : Array Value} {w4 : World} (hS : TlS w N Ds it vw W) (h4 : Blk w4 (N + 1) #[.bool true] BT) (hg : W.grownBy w4 (some (N + 1))) (h2 : tmps.getD 2 undef = .pointer (some ⟨N + 1, 0, none⟩)) (hN : N = w.heap.size) :
    bodyPostM Fence.wide 5 Try.prog fn (fun e w' => e = .returned (.bool true) ∧ Below w.heap.size w w') .ret { tmps := tmps, defers := marks Ds } w4 := by
  have hs := hS.sz
  obtain ⟨b, hb⟩ := hS.rb
  have hne : ∀ D ∈ Ds, D ≠ N + 1 := fun D hD e => by
    have h2 := (hS.df D hD).2
    have h3 := hb
    unfold Blk at h3
    rw [e, h3] at h2
    cases h2
  refine leave_marks (N := N) w Ds w4 hS.nd (fun D hD => ⟨(hS.df D hD).1, ?_⟩) ?_ (fun W' hb hs => ?_)
  · exact (hg.block D (Array.getElem?_eq_some_iff.1 (hS.df D hD).2).1 (fun e => hne D hD (Option.some.inj e))).trans (hS.df D hD).2
  · exact ⟨hg.os.trans hS.bel.os, hg.tape.trans hS.bel.tape, hg.output.trans hS.bel.output, Nat.le_trans hS.bel.size hg.size, fun i hi => (hg.block i (by omega) (fun e => by have := Option.some.inj e; omega)).trans (hS.bel.block i hi)⟩
  · have hr : Blk W' (N + 1) #[.bool true] BT := (hs (N + 1) (fun h => hne _ h rfl)).trans h4
    refine ⟨_, results_cell hres tmps W' ⟨N + 1, 0, none⟩ h2 (.bool true) ?_, rfl, by rw [← hN]; exact hb⟩
    have hc : W'.cell? ⟨N + 1, 0, none⟩ = some (.bool true) := by rw [hr.cell]; rfl
    simp [loadVar, go_sem, hc, Try.underlying4]
end
theorem run_nilF {op : Oper} {ev : Operand → Value} {x : Operand} {lb : Nat} (ho : op.op = .binOp .eql 40 x (.const .nilFunc) 40) (hx : ev x = itV lb) (hc : ev (.const .nilFunc) = .nilFunc) (w : World) : (execOp ev op).run Try.prog w = .ok (.value (.bool false)) w := by
  simp only [execOp, ho, hx, hc]
  kernel_rfl
theorem tells_any (w : World) {it vw : Value} {V : List KE} (hit : ItA w it V) (hvw : OwnD w 0 vw V) (hl : V.length ≤ 1099511627776) : Calls Try.prog 11 #[.agg #[it, vw]] w fun e w' => e = .returned (.bool true) ∧ Below w.heap.size w w' := by
  obtain ⟨N, hN⟩ : ∃ N, N = w.heap.size := ⟨_, rfl⟩
  obtain ⟨lb, u, rfl, hlb, hou⟩ := hit
  have HN := hide hN
  have HFit : Hid (∀ W, Below N w W → Blk W lb #[u] KLT ∧ OwnD W 0 u V) := hide (fun W hb => by rw [hN] at hb; exact ⟨hlb.below hb hlb.lt, hou.below hb⟩)
  obtain ⟨ao, n, c, rfl⟩ := hvw.slice
  have HFW : Hid (∀ W, Below N w W → OwnD W 0 (.slice ao n c) V) := hide (fun W hb => by rw [hN] at hb; exact hvw.below hb)
  have hnV : n = V.length := by obtain ⟨a2, c2, e, _⟩ := hvw.form; injection e
  have HNV := hide hnV
  have HVL := hide hl
  clear hlb hou hvw hl hnV
  refine (callsIn_wide (n := 5)).1 ?_
  refine callsIn_of_wp_marks Try.func11 rfl trivial ?_ rfl
  refine wpIn_wide.2 ?_
  simp only [Try.ntmps11, List.size_toArray, List.length_cons, List.length_nil, Nat.reduceAdd, Nat.reduceSub, Array.replicate_succ, Array.replicate_zero, List.push_toArray, List.append_toArray, List.nil_append, List.cons_append]
  unfold itV
  go_upto_region 1 with fail
  refine name_world (fun W => TlS w N [] (itV lb) (.slice ao n c) W) (by rw [hN]; exact tl_made w _ _) ?_
  rintro W hS
  rw [← hN]
  have HS0 := hide hS
  have cA : W.cell? ⟨N, 0, none⟩ = some (.func (.func 22) #[] #[.pointer (some ⟨lb, 0, none⟩)]) := by rw [hS.kb.cell]; rfl
  have lA := hS.kb.lt
  clear hS hN
  go_upto_region 3 with (refine wpList_val (.bool false) (by rfl) (run_nilF (x := .tmp 8) (lb := lb) (by rfl) (by rfl) (by rfl) _) ?_)
  clear cA lA
  go_upto_region 4 with fail
  refine wp_loop (fun a' w' => ∃ (r : Nat) (Ds : List Nat) (u4 u5 u6 u7 u8 u9 u10 u11 u12 u13 u14 u15 u16 u17 u18 u19 u20 u21 u22 u23 u24 u25 u26 u27 u28 u29 u30 u31 u32 u33 u34 u35 u36 u37 u38 u39 u40 u41 u42 u43 u44 u45 u46 u47 u48 u49 u50 u51 u52 u53 : Value), a' = { tmps := #[.agg #[.func (.func 22) #[] #[.pointer (some ⟨lb, 0, none⟩)], .slice ao n c], .pointer (some ⟨N, 0, none⟩), .pointer (some ⟨N + 1, 0, none⟩), .int .i64 (r : Int), u4, u5, u6, u7, u8, u9, u10, u11, u12, u13, u14, u15, u16, u17, u18, u19, u20, u21, u22, u23, u24, u25, u26, u27, u28, u29, u30, u31, u32, u33, u34, u35, u36, u37, u38, u39, u40, u41, u42, u43, u44, u45, u46, u47, u48, u49, u50, u51, u52, u53], defers := marks Ds } ∧ r ≤ 2 ∧ TlS w N Ds (itV lb) (.slice ao n c) w') (fun a' _ => 2 - (intOf (a'.tmps.getD 3 undef)).toNat) ?_ ?_
  · exact ⟨0, [], _, _, _, _, _, _, _, _, _, _, _, _, _, _, _, _, _, _, _, _, _, _, _, _, _, _, _, _, _, _, _, _, _, _, _, _, _, _, _, _, _, _, _, _, _, _, _, _, _, _, rfl, by omega, HS0.out⟩
  · rintro a' wr ⟨r, Ds, u4, u5, u6, u7, u8, u9, u10, u11, u12, u13, u14, u15, u16, u17, u18, u19, u20, u21, u22, u23, u24, u25, u26, u27, u28, u29, u30, u31, u32, u33, u34, u35, u36, u37, u38, u39, u40, u41, u42, u43, u44, u45, u46, u47, u48, u49, u50, u51, u52, u53, rfl, hr, hS⟩
    clear HS0
    have HS := hide hS
    clear hS
    by_cases hlt : r < 2
    · have hji : (r : Int) < 2 := by omega
      go_upto_region 7 with fail
      have HIB : Hid (TlI w N Ds (itV lb) (.slice ao n c) wr.heap.size [] (wr.alloc (.cells #[.int .i64 0] INT))) := hide ⟨HS.out.below (below_alloc wr _), HS.out.sz, Blk.made wr _ _⟩
      obtain ⟨ib, hib⟩ : ∃ ib, ib = wr.heap.size := ⟨_, rfl⟩
      rw [← hib] at HIB ⊢
      obtain ⟨w3, hw3⟩ : ∃ w3, w3 = wr.alloc (.cells #[.int .i64 0] INT) := ⟨_, rfl⟩
      rw [← hw3] at HIB ⊢
      clear HS hib hw3
      have cA : w3.cell? ⟨N, 0, none⟩ = some (.func (.func 22) #[] #[.pointer (some ⟨lb, 0, none⟩)]) := by rw [HIB.out.1.kb.cell]; rfl
      have lA := HIB.out.1.kb.lt
      go_upto_region 8 with fail
      clear cA lA
      have HDl : Hid (∀ D ∈ Ds, D < w3.heap.size) := hide (fun D hD => (Array.getElem?_eq_some_iff.1 (HIB.out.1.df D hD).2).1)
      have HNl : Hid (N ≤ w3.heap.size) := hide (by have := HIB.out.1.sz; omega)
      obtain ⟨hbF, hoF⟩ := HFit.out w3 HIB.out.1.bel
      have HSq := hide (it_fit (5 - 1) w3 hbF hoF HVL.out)
      clear hbF hoF
      refine (wpIn_wide (n := 5)).1 ?_
      generalize hA0 : Act.mk _ _ = A0
      refine wpIn_rangeKl rfl (by omega) (gf := 22) (lb := #[.pointer (some ⟨lb, 0, none⟩)]) (by rw [← hA0]; rfl) trivial (enters_of Try.func22 (by kernel_rfl) rfl) HSq.out (Below.refl _ _) (KeepT.keeping tyl) (fun _ => rfl)
        (fun pre W => TlI w N Ds (itV lb) (.slice ao n c) ib pre W)
        (fun _ _ _ => False)
        (TlI.own HNl.out HDl.out)
        (fun _ _ _ _ _ h => h.elim)
        HIB.out (fun A B h => KeepT.below h) ?round ?done ?stop
      case stop => exact fun D c pre W3 hD h => h.elim
      case done =>
        rintro D xs W4 hD hxs ⟨hS4, hn4, hI4⟩ hK4
        have hx : xs = V := hxs
        subst hx
        have HS5 : Hid (TlS w N (D :: Ds) (itV lb) (.slice ao n c) W4) := hide ⟨hS4.kb, hS4.rb, hS4.bel, List.nodup_cons.2 ⟨fun h => by have := HDl.out D h; omega, hS4.nd⟩, fun D' h' => by
          rcases List.mem_cons.1 h' with rfl | h'
          · exact ⟨by have := HNl.out; omega, hK4⟩
          · exact hS4.df D' h'⟩
        have cI : W4.cell? ⟨ib, 0, none⟩ = some (.int .i64 (n : Int)) := by rw [hI4.cell, HNV.out]; rfl
        have lI := hI4.lt
        have cB : W4.cell? ⟨N, 1, none⟩ = some (.slice ao n c) := by rw [hS4.kb.cell]; rfl
        have cA : W4.cell? ⟨N, 0, none⟩ = some (.func (.func 22) #[] #[.pointer (some ⟨lb, 0, none⟩)]) := by rw [hS4.kb.cell]; rfl
        have lA := hS4.kb.lt
        clear hS4 hxs hK4 hD hn4 hI4
        subst hA0
        have hn41 : n ≤ 1099511627776 := by rw [HNV.out]; exact HVL.out
        go_wp2_with fail
        clear cI lI cB cA lA hn41
        have HDl2 : Hid (∀ D' ∈ D :: Ds, D' < W4.heap.size) := hide (fun D' hD' => (Array.getElem?_eq_some_iff.1 (HS5.out.df D' hD').2).1)
        have HNl2 : Hid (N ≤ W4.heap.size) := hide (by have := HS5.out.sz; omega)
        obtain ⟨hbF, hoF⟩ := HFit.out W4 HS5.out.bel
        have HSq2 := hide (it_fit (5 - 1) W4 hbF hoF HVL.out)
        clear hbF hoF
        refine (wpIn_wide (n := 5)).1 ?_
        generalize hA1 : Act.mk _ _ = A1
        refine wpIn_rangeKl rfl (by omega) (gf := 22) (lb := #[.pointer (some ⟨lb, 0, none⟩)]) (by rw [← hA1]; rfl) trivial (enters_of Try.func22 (by kernel_rfl) rfl) HSq2.out (Below.refl _ _) (KeepT.keeping tyl) (fun _ => rfl)
          (fun _ W => TlS w N (D :: Ds) (itV lb) (.slice ao n c) W)
          (fun cc _ W => cc = .exit 4 ∧ TlS w N (D :: Ds) (itV lb) (.slice ao n c) W)
          (TlS.own HNl2.out HDl2.out)
          (fun cc s A B row h hg hr => ⟨h.1, TlS.own HNl2.out HDl2.out s A B row h.2 hg hr⟩)
          HS5.out (fun A B h => KeepT.below h) ?round2 ?done2 ?stop2
        case round2 =>
          rintro l pre x Wp W1 hS1 hbW hfit
          have HC1 := hide (hS1.below hbW)
          clear hS1 hbW hfit
          refine ⟨fun _ W₂ => W₂ = W1, ?asg2, ?bd2⟩
          case asg2 =>
            intro K hK
            gi_wp2
            exact hK _ _ rfl (Below.refl _ _)
          case bd2 =>
            rintro a₁ W₂ q' o' rfl hb2 hlo hle
            have hC3 := HC1.out.putLoop hlo o' (by have := HNl2.out; omega)
            gi_wp2
            exact ⟨KeepsLD.below (Below.refl _ _), rfl, hC3⟩
        case stop2 =>
          rintro D2 cc pre W5 hD2 ⟨rfl, hS6⟩ hK5
          have HS6 : Hid (TlS w N (D2 :: D :: Ds) (itV lb) (.slice ao n c) W5) := hide ⟨hS6.kb, hS6.rb, hS6.bel, List.nodup_cons.2 ⟨fun h => by have := HDl2.out D2 h; omega, hS6.nd⟩, fun D' h' => by
            rcases List.mem_cons.1 h' with rfl | h'
            · exact ⟨by have := HNl2.out; omega, hK5⟩
            · exact hS6.df D' h'⟩
          clear hS6 hK5 hD2
          subst hA1
          refine wpIn_wide.2 ?_
          go_wp2
          refine ⟨⟨r + 1, D2 :: D :: Ds, _, _, _, _, _, _, _, _, _, _, _, _, _, _, _, _, _, _, _, _, _, _, _, _, _, _, _, _, _, _, _, _, _, _, _, _, _, _, _, _, _, _, _, _, _, _, _, _, _, _, rfl, by omega, HS6.out⟩, ?_⟩
          simp [intOf]
          omega
        case done2 =>
          rintro D2 xs2 W5 hD2 hxs2 hS6 hK5
          have HS6 : Hid (TlS w N (D2 :: D :: Ds) (itV lb) (.slice ao n c) W5) := hide ⟨hS6.kb, hS6.rb, hS6.bel, List.nodup_cons.2 ⟨fun h => by have := HDl2.out D2 h; omega, hS6.nd⟩, fun D' h' => by
            rcases List.mem_cons.1 h' with rfl | h'
            · exact ⟨by have := HNl2.out; omega, hK5⟩
            · exact hS6.df D' h'⟩
          clear hS6 hK5 hD2 hxs2
          subst hA1
          go_wp2
          refine ⟨⟨r + 1, D2 :: D :: Ds, _, _, _, _, _, _, _, _, _, _, _, _, _, _, _, _, _, _, _, _, _, _, _, _, _, _, _, _, _, _, _, _, _, _, _, _, _, _, _, _, _, _, _, _, _, _, _, _, _, _, rfl, by omega, HS6.out⟩, ?_⟩
          simp [intOf]
          omega
      case round =>
        rintro l pre ⟨k, e⟩ Wp W1 hS1 hbW hfit
        have hC1 : TlI w N Ds (itV lb) (.slice ao n c) ib pre W1 := ⟨hS1.1.below hbW, hS1.2.1, hS1.2.2.below hbW hS1.2.2.lt⟩
        have HC1 := hide hC1
        have HPF : Hid ((pre ++ [(k, e)]) <+: V) := hide hfit
        clear hS1 hbW hfit hC1
        refine ⟨fun a₁ W₂ => a₁ = { tmps := (((A0.tmps.setIfInBounds 16 (kV k)).setIfInBounds 17 (eV e)).setIfInBounds 5 (.pointer (some ⟨W1.heap.size, 0, none⟩))).setIfInBounds 6 (.pointer (some ⟨W1.heap.size + 1, 0, none⟩)), defers := [] } ∧ KB W₂ W1.heap.size k ∧ EB W₂ (W1.heap.size + 1) e, ?asg, ?bd⟩
        case asg =>
          intro K hK
          have hzk2 := zero_K
          have hze2 := zero_E
          subst hA0
          unfold prV
          simp only [List.zip_toArray, List.zip_cons_cons, List.zip_nil_right, List.foldl_toArray, List.foldl_cons, List.foldl_nil, List.setIfInBounds_toArray, List.set_cons_succ, List.set_cons_zero]
          gi_wp2_with (first | ((with_reducible refine wpListIn_putK ?_ (.tmp 5) (.tmp 16) ?_ W1.heap.size ?_ W1 ?_ ?_ k ?_ ?_); rfl; rfl; rfl; rfl; rfl; rfl; intro w2 HK2 hb2 hs2) | ((with_reducible refine wpListIn_putE ?_ (.tmp 6) (.tmp 17) ?_ (W1.heap.size + 1) ?_ w2 ?_ hs2.symm e ?_ ?_); rfl; rfl; rfl; rfl; rfl; intro w4 HE4 hb4 hs4))
          exact hK _ _ ⟨rfl, HK2.out.below hb4, HE4.out⟩ (hb2.trans (hb4.mono hb2.size))
        case bd =>
          rintro a₁ W₂ q' o' ⟨rfl, hk, he⟩ hb2 hlo hle
          have hne : W1.heap.size ≠ l := fun e => by
            have h1 := hk
            unfold KB Blk at h1
            rw [e, hlo] at h1
            cases h1
          have hne2 : W1.heap.size + 1 ≠ l := fun e => by
            have h1 := he
            unfold EB Blk at h1
            rw [e, hlo] at h1
            cases h1
          have hne3 : ib ≠ l := fun e => by
            have h1 := HC1.out.2.2.below hb2 HC1.out.2.2.lt
            unfold Blk at h1
            rw [e, hlo] at h1
            cases h1
          have hC3 : TlI w N Ds (itV lb) (.slice ao n c) ib pre (W₂.putObj l o') := ⟨(HC1.out.1.below hb2).putLoop hlo o' (by have := HNl.out; omega), HC1.out.2.1, (World.putObj_heap_other hne3).trans (HC1.out.2.2.below hb2 HC1.out.2.2.lt)⟩
          have hk3 : KB (W₂.putObj l o') W1.heap.size k := (World.putObj_heap_other hne).trans hk
          have he3 : EB (W₂.putObj l o') (W1.heap.size + 1) e := (World.putObj_heap_other hne2).trans he
          refine name_worldInK' (fun U => TlI w N Ds (itV lb) (.slice ao n c) ib pre U ∧ KB U W1.heap.size k ∧ EB U (W1.heap.size + 1) e) ⟨hC3, hk3, he3⟩ ?_
          rintro U ⟨hCV, hKV, hEV⟩
          clear hC3 hne hne2 hne3 hk3 he3 hk he hb2 hlo hle
          have HCV := hide hCV
          have HKV := hide hKV
          have HEV := hide hEV
          obtain ⟨i, hi⟩ : ∃ i, i = pre.length := ⟨_, rfl⟩
          have HI := hide hi
          have hVz : V[i]? = some (k, e) := by
            obtain ⟨t, ht⟩ := HPF.out
            rw [← ht, hi, List.getElem?_append_left (by simp), List.getElem?_append_right (Nat.le_refl _)]
            simp
          have hin : i < n := by rw [HNV.out]; exact (List.getElem?_eq_some_iff.1 hVz).1
          have hpi : (i : Int) < (n : Int) := by omega
          have hin2 : decide (n ≤ i) = false := by simp; omega
          have hn41 : n ≤ 1099511627776 := by rw [HNV.out]; exact HVL.out
          obtain ⟨ao2, c2, e2, hr2⟩ := (HFW.out U hCV.1.bel).read
          obtain ⟨ao3, c3, e3, hg3⟩ := (HFW.out U hCV.1.bel).form
          injection e3 with q1 q2 q3
          obtain ⟨g, hg⟩ := hg3 (by rw [← HNV.out]; omega)
          rw [← q1] at hg
          subst hg
          injection e2 with q4 q5 q6
          obtain ⟨hh, so, e5, h5⟩ := hr2 (by rw [← HNV.out]; omega)
          rw [← q4] at e5
          cases e5
          have hrz := h5 i (k, e) hVz
          rw [Nat.zero_add] at hrz
          have cI := fun d os => cell_regrown (show U.cell? ⟨ib, 0, none⟩ = some (.int .i64 (i : Int)) by rw [hCV.2.2.cell, hi]; rfl) d os
          have cB := fun d os => cell_regrown (show U.cell? ⟨N, 1, none⟩ = some (.slice (some ⟨g, 0, none⟩) n c) by rw [hCV.1.kb.cell]; rfl) d os
          have HRK := hide (range_regrown (kd_keyAt hrz))
          have HRE := hide (range_regrown (kd_entAt hrz))
          have HBK := hide (range_regrown hKV.rng)
          have HBE := hide (range_regrown hEV.rng)
          have HKK := hide (eqK_self k)
          have HEE := hide (eqE_self e)
          clear hCV hKV hEV HC1 hi hVz hr2 hg3 q1 q2 q3 q4 q5 q6 h5 hrz
          subst hA0
          simp only [List.setIfInBounds_toArray, List.set_cons_succ, List.set_cons_zero]
          gi_wp2
          refine wpIn_round_quiet (by kernel_rfl) (by kernel_rfl) (by kernel_rfl) ?_
          iterate 6 quiet_step (fail)
          refine wpQuiet_val (kV k) rfl (fun w0 hw => ?_) ?_
          · obtain ⟨p0, rfl⟩ := hw
            exact run_loadO rfl rfl (run_ldK (HBK.out _ _))
          iterate 5 quiet_step (fail)
          refine wpQuiet_val (kV k) rfl (fun w0 hw => ?_) ?_
          · obtain ⟨p0, rfl⟩ := hw
            exact run_loadO rfl rfl (run_ldK (HRK.out _ _))
          refine wpQuiet_val (.bool false) rfl (fun w0 _ => (run_neqK (a := k) (b := k) rfl rfl rfl w0).trans (by rw [HKK.out]; rfl)) ?_
          quiet_step (fail)
          quiet_step (fail)
          refine wpQuiet_val (eV e) rfl (fun w0 hw => ?_) ?_
          · obtain ⟨p0, rfl⟩ := hw
            exact run_loadO rfl rfl (run_ldE (HBE.out _ _))
          iterate 5 quiet_step (fail)
          refine wpQuiet_val (eV e) rfl (fun w0 hw => ?_) ?_
          · obtain ⟨p0, rfl⟩ := hw
            exact run_loadO rfl rfl (run_ldE (HRE.out _ _))
          refine wpQuiet_val (.bool false) rfl (fun w0 _ => (run_neqE (p := e) (q := e) rfl rfl rfl w0).trans (by rw [HEE.out]; rfl)) ?_
          quiet_step (fail)
          refine wpQuiet_nil ?_
          intro U1 hU1
          have hb1 : RowKit.Below U.heap.size U U1 := below_of hU1
          have HB1 := hide hb1
          have HC4 : Hid (TlI w N Ds (itV lb) (.slice (some ⟨g, 0, none⟩) n c) ib pre U1) := hide ⟨HCV.out.1.below hb1, HCV.out.2.1, HCV.out.2.2.below hb1 HCV.out.2.2.lt⟩
          clear hU1 hb1 cI cB HRK HRE HBK HBE HCV HKV HEV
          have cI : U1.cell? ⟨ib, 0, none⟩ = some (.int .i64 (i : Int)) := by rw [HC4.out.2.2.cell, HI.out]; rfl
          have fI := HC4.out.2.2.frozen 0
          have lI := HC4.out.2.2.lt
          gi_wp2
          have hc := HC4.out.count (x := (k, e))
          have e1 : (((pre ++ [(k, e)]).length : Nat) : Int) = (i : Int) + 1 := by rw [List.length_append, List.length_singleton, ← HI.out]; rfl
          rw [e1] at hc
          exact ⟨(KeepsLD.below HB1.out).trans hc.2.1, (KeepT.below HB1.out).trans hc.2.2, hc.1⟩
    · obtain rfl : r = 2 := by omega
      have hji : ¬ ((2 : Nat) : Int) < 2 := by decide
      obtain ⟨b, hb⟩ := HS.out.rb
      have cR : wr.cell? ⟨N + 1, 0, none⟩ = some (.bool b) := by rw [hb.cell]; rfl
      have fR := hb.frozen 0
      have lR := hb.lt
      have HR4 : Hid (Blk (wr.setCell ⟨N + 1, 0, none⟩ (.bool true)) (N + 1) #[.bool true] BT) := hide (hb.set 0 (.bool true))
      clear hb
      go_wp2
      exact tl_end rfl HS.out HR4.out (grownBy_set _ _ _ _) rfl HN.out
end TX
end Go.Proofs.Ytdigjpddmfolgaa
