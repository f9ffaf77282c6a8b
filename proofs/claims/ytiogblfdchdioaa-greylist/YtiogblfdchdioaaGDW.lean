/- The law's alike; Bump of a nil list. -/
import Derived.Test.YtiogblfdchdioaaGDV
import Derived.Stop.BytesEq
namespace Go.Proofs.Ytiogblfdchdioaa
set_option linter.unusedVariables false
set_option linter.unusedSimpArgs false
namespace RG
open Go.RowKit
set_option maxRecDepth 100000

theorem lbump_nil (w : World) (bot : Bool) : Calls Try.prog 23 #[.pointer none, .bool bot] w (AtC w elZ false) := by
  obtain ⟨W0, hW0⟩ : ∃ W, W = w.alloc (.cells (elA elZ) elT) := ⟨_, rfl⟩
  have hb0 : Below w.heap.size w W0 := by rw [hW0]; exact below_alloc w _
  have hk0 : BoxEl W0 w.heap.size elZ := by rw [hW0]; exact BoxEl.made w _
  have HL := hide (llook_nil W0 bot)
  obtain ⟨k, hkk⟩ : ∃ k, k = w.heap.size := ⟨_, rfl⟩
  rw [← hkk] at hk0
  have HK := hide hk0
  have HB0 := hide hb0
  have hz0 := zero_el
  clear hk0 hb0
  go_enter Try.func23, Try.ntmps23
  go_upto_region 1 with fail
  rw [← hW0, ← hkk]
  have HKK := hide hkk
  clear hW0 hkk
  go_upto_region 2 with (first | (go_at_call 36; (with_reducible refine HL.out.mono ?_); rintro e w2 ⟨rfl, h1⟩; have H1 := hide h1; have HBX := hide (BoxEl.made w2 elZ); clear h1) | ((with_reducible refine wpList_stB ?_ (.tmp 6) (.tmp 12) ?_ w2.heap.size ?_ elZ elZ ?_ HBX.out ?_); rfl; rfl; rfl; rfl; intro w3 hk3 hg3))
  have HB3 : Hid (Below w.heap.size w w3) := hide (HB0.out.trans (((H1.out.alloc H1.out.size _).trans (below_grownBy hg3.out H1.out.size (by have := H1.out.size; simp; omega))).mono HB0.out.size))
  have HK3 : Hid (BoxEl w3 k elZ) := hide (HK.out.below ((H1.out.alloc H1.out.size _).trans (below_grownBy hg3.out H1.out.size (by have := H1.out.size; simp; omega))))
  clear H1 HBX hk3 hg3 HL
  go_wp2_with (first | ((with_reducible refine wpList_zeroB ?_ ?_ ?_); rfl; rfl) | ((with_reducible refine wpList_stB ?_ (.tmp 4) (.tmp 16) ?_ k ?_ elZ elZ ?_ HK3.out ?_); rfl; rfl; rfl; rfl; intro w5 hk5 hg5))
  refine ⟨rfl, _, results_cell_tmp (p := 4) (q := 5) (ty := elT) rfl _ _ ⟨k, 0, none⟩ rfl (elV elZ) (.bool false) rfl (loadB hk5.out), rfl, ?_⟩
  exact HB3.out.trans (below_grownBy hg5.out (by rw [HKK.out]; exact Nat.le_refl _) HB3.out.size)
theorem guardE : Try.prog.eqGuardType Try.prog.depth elT = false := by kernel_rfl
theorem underE : Try.prog.underlying elT = some (.struct (Try.prog.fieldsOf elT)) := by kernel_rfl
theorem stoodE : Try.prog.stoodInHeld elT = false := by kernel_rfl
theorem szU (w : World) : (sizeOf 5).run Try.prog w = .ok 1 w := by kernel_rfl
theorem partK (x : EL) (w : World) : (part 31 (elA x) 0).run Try.prog w = .ok (.agg (x.key.map u8c).toArray) w := by
  have h1 : (isAgg 31).run Try.prog w = .ok true w := by kernel_rfl
  have h2 : (sizeOf 31).run Try.prog w = .ok 32 w := by kernel_rfl
  have h3 : (elA x).extract 0 (0 + 32) = (x.key.map u8c).toArray := by
    have := x.k32
    unfold elA elC
    simp [this]
  simp only [part, Sem.run_bind, h1, h2, Result.andThen_ok, if_true, Sem.run_pure, h3]
theorem partN (x : EL) (w : World) : (part 3 (elA x) 32).run Try.prog w = .ok (.int .i64 x.nxt) w := by
  have h1 : (isAgg 3).run Try.prog w = .ok false w := by kernel_rfl
  have h3 : (elA x)[32]? = some (.int .i64 x.nxt) := by
    have := x.k32
    unfold elA elC
    simp [this]
  simp [part, Sem.run_bind, h1, Result.andThen_ok, h3]
theorem equalE (x : EL) (w : World) : (Op.equalIn 10000 elT (elV x) (elV x)).run Try.prog w = .ok true w := by
  rw [run_equalIn_agg w 9999 _ _ _ underE stoodE]
  simp only [Program.fieldsOf, Try.underlying49]
  have e0 := fun W => partK x W
  have e1 := fun W => partN x W
  have q0 : ∀ W, (Op.equalIn 9999 31 (.agg (x.key.map u8c).toArray) (.agg (x.key.map u8c).toArray)).run Try.prog W = .ok true W := fun W => by
    have := run_equalIn_bytes (P := Try.prog) W 9997 31 5 32 Try.underlying31 Try.underlying5 szU x.key x.key x.k32 x.k32
    rw [beq_self_eq_true] at this
    exact this
  have q1 := fun W (n : Int) => run_equalIn_int (P := Try.prog) W 9998 3 .i64 .i64 n n Try.underlying3
  simp [Op.eqFields, Sem.run_bind, e0, e1, q0, q1, Result.andThen]
theorem run_neqE {op : Oper} {ev : Operand → Value} {x y : Operand} {u : TypeId} {e : EL} (ho : op.op = .binOp .neq elT x y u) (hx : ev x = elV e) (hy : ev y = elV e) (w : World) : (execOp ev op).run Try.prog w = .ok (.value (.bool false)) w := by
  simp only [execOp, ho, hx, hy, Sem.run_bind, run_eqGuard_agg (P := Try.prog) w .neq elT x y _ _ guardE, Result.andThen_ok, run_neq_struct, equalE e, Sem.run_pure, Bool.not_true]
theorem run_idxE {op : Oper} {ev : Operand → Value} {x y : Operand} {g o n c j : Nat} (ho : op.op = .indexAddr slT x y) (hx : ev x = .slice (some ⟨g, o, none⟩) n c) (hy : ev y = .int .i64 (j : Int)) (h : j < n) (w : World) : (execOp ev op).run Try.prog w = .ok (.value (.pointer (some ⟨g, o + j * 33, none⟩))) w := by
  have hu := Try.underlying26
  have hs : (sizeOf elT).run Try.prog w = .ok 33 w := by kernel_rfl
  have h1 : (j : Int) < (n : Int) := by omega
  simp only [execOp, ho, hx, hy]
  simp [go_sem, hu, h1, hs]
def ak_0 (s : String) : Oper := { dst := some 17, op := Op.move (Operand.tmp 0), type := 26, pos := s, after := #[], guard := none }
def ak_1 (s : String) : Oper := { dst := some 18, op := Op.move (Operand.tmp 5), type := 3, pos := s, after := #[], guard := none }
def ak_2 (s : String) : Oper := { dst := some 19, op := Op.indexAddr 26 (Operand.tmp 17) (Operand.tmp 18), type := 0, pos := s, after := #[{ on := 0, ground := Ground.data }, { on := 1, ground := Ground.data }], guard := none }
def ak_3 (s : String) : Oper := { dst := some 20, op := Op.load 49 (Operand.tmp 19), type := 49, pos := s, after := #[{ on := 2, ground := Ground.data }], guard := none }
def ak_4 (s : String) : Oper := { dst := some 21, op := Op.move (Operand.tmp 1), type := 26, pos := s, after := #[], guard := none }
def ak_5 (s : String) : Oper := { dst := some 22, op := Op.move (Operand.tmp 5), type := 3, pos := s, after := #[], guard := none }
def ak_6 (s : String) : Oper := { dst := some 23, op := Op.indexAddr 26 (Operand.tmp 21) (Operand.tmp 22), type := 0, pos := s, after := #[{ on := 4, ground := Ground.data }, { on := 5, ground := Ground.data }], guard := none }
def ak_7 (s : String) : Oper := { dst := some 24, op := Op.load 49 (Operand.tmp 23), type := 49, pos := s, after := #[{ on := 6, ground := Ground.data }], guard := none }
def ak_8 (s : String) : Oper := { dst := some 25, op := Op.binOp BinOp.neq 49 (Operand.tmp 20) (Operand.tmp 24) 49, type := 4, pos := s, after := #[{ on := 3, ground := Ground.data }, { on := 7, ground := Ground.data }], guard := none }
def ak_ops (s : String) : Array Oper := #[ak_0 s, ak_1 s, ak_2 s, ak_3 s, ak_4 s, ak_5 s, ak_6 s, ak_7 s, ak_8 s]
theorem ak_walk (s : String) {Q : Exit → Act → World → Prop} (hQ : ∀ c (a : Act) t v w, Q (.panic c) (a.put (some t) v) w → Q (.panic c) a w) (W : World) (ga oa gb ob m ca cb i : Nat) (x : EL) (hi : i < m) (hS0 : W.drew.rangeAt ga (oa + i * 33) (elC x) ∧ W.drew.rangeAt gb (ob + i * 33) (elC x))
    (a : Act) (hs : 25 < a.tmps.size) (e0 : a.eval (.tmp 0) = .slice (some ⟨ga, oa, none⟩) m ca) (e1 : a.eval (.tmp 1) = .slice (some ⟨gb, ob, none⟩) m cb) (e5 : a.eval (.tmp 5) = .int .i64 (i : Int))
    (h0 :  Q .normal (((((((((a.put (some 17) (.slice (some ⟨ga, oa, none⟩) m ca)).put (some 18) (.int .i64 (i : Int))).put (some 19) (.pointer (some ⟨ga, oa + i * 33, none⟩))).put (some 20) (elV x)).put (some 21) (.slice (some ⟨gb, ob, none⟩) m cb)).put (some 22) (.int .i64 (i : Int))).put (some 23) (.pointer (some ⟨gb, ob + i * 33, none⟩))).put (some 24) (elV x)).put (some 25) (.bool false)) W.drew) :
    Code.wp Try.prog (.region 6 (ak_ops s) true) Q a W := by
  refine wp_region_held_drew (S := fun w => w.rangeAt ga (oa + i * 33) (elC x) ∧ w.rangeAt gb (ob + i * 33) (elC x)) (by kernel_rfl) hS0 (fun hS => ?_)
  change wpAnyH _ _ _ _ _ _ _ _ (World.drew _)
  refine wpAnyH_take (i := 0) (oi := ak_0 s) (v := .slice (some ⟨ga, oa, none⟩) m ca) (by kernel_rfl) (by kernel_rfl) (by kernel_rfl) (by kernel_rfl) (fun c a w h => hQ c _ _ _ w h) (Or.inl ⟨wanted_none rfl, fun w hw => by simp only [execOp, ak_0, e0]; rfl⟩) hS ?_
  change wpAnyH _ _ _ _ _ _ _ (a.put (some 17) (.slice (some ⟨ga, oa, none⟩) m ca)) _
  obtain ⟨a0_1, ha1⟩ : ∃ rr : Act, rr = a.put (some 17) (.slice (some ⟨ga, oa, none⟩) m ca) := ⟨_, rfl⟩
  have qz1 : 25 < a0_1.tmps.size := by rw [ha1, sz_put]; exact hs
  have f1_1 : a0_1.eval (.tmp 1) = .slice (some ⟨gb, ob, none⟩) m cb := by rw [ha1, ev_other _ _ _ _ (by decide)]; exact e1
  have f1_5 : a0_1.eval (.tmp 5) = .int .i64 (i : Int) := by rw [ha1, ev_other _ _ _ _ (by decide)]; exact e5
  have f1_17 : a0_1.eval (.tmp 17) = .slice (some ⟨ga, oa, none⟩) m ca := by rw [ha1]; exact ev_same _ _ _ (Nat.lt_of_le_of_lt (by decide) hs)
  rw [← ha1] at h0 ⊢
  clear ha1
  refine wpAnyH_take (i := 1) (oi := ak_1 s) (v := .int .i64 (i : Int)) (by kernel_rfl) (by kernel_rfl) (by kernel_rfl) (by kernel_rfl) (fun c a w h => hQ c _ _ _ w h) (Or.inl ⟨wanted_none rfl, fun w hw => by simp only [execOp, ak_1, f1_5]; rfl⟩) hS ?_
  change wpAnyH _ _ _ _ _ _ _ (a0_1.put (some 18) (.int .i64 (i : Int))) _
  obtain ⟨a0_2, ha2⟩ : ∃ rr : Act, rr = a0_1.put (some 18) (.int .i64 (i : Int)) := ⟨_, rfl⟩
  have qz2 : 25 < a0_2.tmps.size := by rw [ha2, sz_put]; exact qz1
  have f2_1 : a0_2.eval (.tmp 1) = .slice (some ⟨gb, ob, none⟩) m cb := by rw [ha2, ev_other _ _ _ _ (by decide)]; exact f1_1
  have f2_5 : a0_2.eval (.tmp 5) = .int .i64 (i : Int) := by rw [ha2, ev_other _ _ _ _ (by decide)]; exact f1_5
  have f2_17 : a0_2.eval (.tmp 17) = .slice (some ⟨ga, oa, none⟩) m ca := by rw [ha2, ev_other _ _ _ _ (by decide)]; exact f1_17
  have f2_18 : a0_2.eval (.tmp 18) = .int .i64 (i : Int) := by rw [ha2]; exact ev_same _ _ _ (Nat.lt_of_le_of_lt (by decide) qz1)
  rw [← ha2] at h0 ⊢
  clear ha2
  refine wpAnyH_take (i := 2) (oi := ak_2 s) (v := .pointer (some ⟨ga, oa + i * 33, none⟩)) (by kernel_rfl) (by kernel_rfl) (by kernel_rfl) (by kernel_rfl) (fun c a w h => hQ c _ _ _ w h) (Or.inl ⟨wanted_none rfl, fun w hw => run_idxE rfl f2_17 f2_18 hi w⟩) hS ?_
  change wpAnyH _ _ _ _ _ _ _ (a0_2.put (some 19) (.pointer (some ⟨ga, oa + i * 33, none⟩))) _
  obtain ⟨a0_3, ha3⟩ : ∃ rr : Act, rr = a0_2.put (some 19) (.pointer (some ⟨ga, oa + i * 33, none⟩)) := ⟨_, rfl⟩
  have qz3 : 25 < a0_3.tmps.size := by rw [ha3, sz_put]; exact qz2
  have f3_1 : a0_3.eval (.tmp 1) = .slice (some ⟨gb, ob, none⟩) m cb := by rw [ha3, ev_other _ _ _ _ (by decide)]; exact f2_1
  have f3_5 : a0_3.eval (.tmp 5) = .int .i64 (i : Int) := by rw [ha3, ev_other _ _ _ _ (by decide)]; exact f2_5
  have f3_19 : a0_3.eval (.tmp 19) = .pointer (some ⟨ga, oa + i * 33, none⟩) := by rw [ha3]; exact ev_same _ _ _ (Nat.lt_of_le_of_lt (by decide) qz2)
  rw [← ha3] at h0 ⊢
  clear ha3
  refine wpAnyH_take (i := 3) (oi := ak_3 s) (v := elV x) (by kernel_rfl) (by kernel_rfl) (by kernel_rfl) (by kernel_rfl) (fun c a w h => hQ c _ _ _ w h) (Or.inl ⟨wanted_none rfl, fun w hw => run_load rfl f3_19 (run_ld hw.1)⟩) hS ?_
  change wpAnyH _ _ _ _ _ _ _ (a0_3.put (some 20) (elV x)) _
  obtain ⟨a0_4, ha4⟩ : ∃ rr : Act, rr = a0_3.put (some 20) (elV x) := ⟨_, rfl⟩
  have qz4 : 25 < a0_4.tmps.size := by rw [ha4, sz_put]; exact qz3
  have f4_1 : a0_4.eval (.tmp 1) = .slice (some ⟨gb, ob, none⟩) m cb := by rw [ha4, ev_other _ _ _ _ (by decide)]; exact f3_1
  have f4_5 : a0_4.eval (.tmp 5) = .int .i64 (i : Int) := by rw [ha4, ev_other _ _ _ _ (by decide)]; exact f3_5
  have f4_20 : a0_4.eval (.tmp 20) = elV x := by rw [ha4]; exact ev_same _ _ _ (Nat.lt_of_le_of_lt (by decide) qz3)
  rw [← ha4] at h0 ⊢
  clear ha4
  refine wpAnyH_take (i := 4) (oi := ak_4 s) (v := .slice (some ⟨gb, ob, none⟩) m cb) (by kernel_rfl) (by kernel_rfl) (by kernel_rfl) (by kernel_rfl) (fun c a w h => hQ c _ _ _ w h) (Or.inl ⟨wanted_none rfl, fun w hw => by simp only [execOp, ak_4, f4_1]; rfl⟩) hS ?_
  change wpAnyH _ _ _ _ _ _ _ (a0_4.put (some 21) (.slice (some ⟨gb, ob, none⟩) m cb)) _
  obtain ⟨a0_5, ha5⟩ : ∃ rr : Act, rr = a0_4.put (some 21) (.slice (some ⟨gb, ob, none⟩) m cb) := ⟨_, rfl⟩
  have qz5 : 25 < a0_5.tmps.size := by rw [ha5, sz_put]; exact qz4
  have f5_5 : a0_5.eval (.tmp 5) = .int .i64 (i : Int) := by rw [ha5, ev_other _ _ _ _ (by decide)]; exact f4_5
  have f5_20 : a0_5.eval (.tmp 20) = elV x := by rw [ha5, ev_other _ _ _ _ (by decide)]; exact f4_20
  have f5_21 : a0_5.eval (.tmp 21) = .slice (some ⟨gb, ob, none⟩) m cb := by rw [ha5]; exact ev_same _ _ _ (Nat.lt_of_le_of_lt (by decide) qz4)
  rw [← ha5] at h0 ⊢
  clear ha5
  refine wpAnyH_take (i := 5) (oi := ak_5 s) (v := .int .i64 (i : Int)) (by kernel_rfl) (by kernel_rfl) (by kernel_rfl) (by kernel_rfl) (fun c a w h => hQ c _ _ _ w h) (Or.inl ⟨wanted_none rfl, fun w hw => by simp only [execOp, ak_5, f5_5]; rfl⟩) hS ?_
  change wpAnyH _ _ _ _ _ _ _ (a0_5.put (some 22) (.int .i64 (i : Int))) _
  obtain ⟨a0_6, ha6⟩ : ∃ rr : Act, rr = a0_5.put (some 22) (.int .i64 (i : Int)) := ⟨_, rfl⟩
  have qz6 : 25 < a0_6.tmps.size := by rw [ha6, sz_put]; exact qz5
  have f6_20 : a0_6.eval (.tmp 20) = elV x := by rw [ha6, ev_other _ _ _ _ (by decide)]; exact f5_20
  have f6_21 : a0_6.eval (.tmp 21) = .slice (some ⟨gb, ob, none⟩) m cb := by rw [ha6, ev_other _ _ _ _ (by decide)]; exact f5_21
  have f6_22 : a0_6.eval (.tmp 22) = .int .i64 (i : Int) := by rw [ha6]; exact ev_same _ _ _ (Nat.lt_of_le_of_lt (by decide) qz5)
  rw [← ha6] at h0 ⊢
  clear ha6
  refine wpAnyH_take (i := 6) (oi := ak_6 s) (v := .pointer (some ⟨gb, ob + i * 33, none⟩)) (by kernel_rfl) (by kernel_rfl) (by kernel_rfl) (by kernel_rfl) (fun c a w h => hQ c _ _ _ w h) (Or.inl ⟨wanted_none rfl, fun w hw => run_idxE rfl f6_21 f6_22 hi w⟩) hS ?_
  change wpAnyH _ _ _ _ _ _ _ (a0_6.put (some 23) (.pointer (some ⟨gb, ob + i * 33, none⟩))) _
  obtain ⟨a0_7, ha7⟩ : ∃ rr : Act, rr = a0_6.put (some 23) (.pointer (some ⟨gb, ob + i * 33, none⟩)) := ⟨_, rfl⟩
  have qz7 : 25 < a0_7.tmps.size := by rw [ha7, sz_put]; exact qz6
  have f7_20 : a0_7.eval (.tmp 20) = elV x := by rw [ha7, ev_other _ _ _ _ (by decide)]; exact f6_20
  have f7_23 : a0_7.eval (.tmp 23) = .pointer (some ⟨gb, ob + i * 33, none⟩) := by rw [ha7]; exact ev_same _ _ _ (Nat.lt_of_le_of_lt (by decide) qz6)
  rw [← ha7] at h0 ⊢
  clear ha7
  refine wpAnyH_take (i := 7) (oi := ak_7 s) (v := elV x) (by kernel_rfl) (by kernel_rfl) (by kernel_rfl) (by kernel_rfl) (fun c a w h => hQ c _ _ _ w h) (Or.inl ⟨wanted_none rfl, fun w hw => run_load rfl f7_23 (run_ld hw.2)⟩) hS ?_
  change wpAnyH _ _ _ _ _ _ _ (a0_7.put (some 24) (elV x)) _
  obtain ⟨a0_8, ha8⟩ : ∃ rr : Act, rr = a0_7.put (some 24) (elV x) := ⟨_, rfl⟩
  have qz8 : 25 < a0_8.tmps.size := by rw [ha8, sz_put]; exact qz7
  have f8_20 : a0_8.eval (.tmp 20) = elV x := by rw [ha8, ev_other _ _ _ _ (by decide)]; exact f7_20
  have f8_24 : a0_8.eval (.tmp 24) = elV x := by rw [ha8]; exact ev_same _ _ _ (Nat.lt_of_le_of_lt (by decide) qz7)
  rw [← ha8] at h0 ⊢
  clear ha8
  refine wpAnyH_take (i := 8) (oi := ak_8 s) (v := .bool false) (by kernel_rfl) (by kernel_rfl) (by kernel_rfl) (by kernel_rfl) (fun c a w h => hQ c _ _ _ w h) (Or.inl ⟨wanted_none rfl, fun w hw => run_neqE rfl f8_20 f8_24 w⟩) hS ?_
  change wpAnyH _ _ _ _ _ _ _ (a0_8.put (some 25) (.bool false)) _
  obtain ⟨a0_9, ha9⟩ : ∃ rr : Act, rr = a0_8.put (some 25) (.bool false) := ⟨_, rfl⟩
  have qz9 : 25 < a0_9.tmps.size := by rw [ha9, sz_put]; exact qz8
  rw [← ha9] at h0 ⊢
  clear ha9
  refine wpAnyH_done (by kernel_rfl) ?_ _
  exact h0
set_option maxHeartbeats 4000000 in
theorem alike_any (w : World) (va vb : Value) (V : List EL) (ha : RowR w va V) (hb : RowR w vb V) (hl : V.length ≤ 3518437208000) : Calls Try.prog 28 #[va, vb] w fun e w' => e = .returned (.bool true) ∧ Below w.heap.size w w' := by
  have HA := hide ha
  have HB := hide hb
  obtain ⟨aa, ca, rfl, _⟩ := ha
  obtain ⟨ab, cb, rfl, _⟩ := hb
  obtain ⟨m, hm⟩ : ∃ m, m = V.length := ⟨_, rfl⟩
  rw [← hm] at HA HB hl ⊢
  have HMA := hide hm
  clear hm
  go_enter Try.func28, Try.ntmps28
  go_wp2
  go_loopw [5] (fun t wr => ∃ i : Nat, t = .int .i64 i ∧ i ≤ m ∧ Below w.heap.size w wr) (fun t _ => m - (intOf t).toNat)
  case atStart => exact ⟨0, rfl, by omega, Below.refl _ _⟩
  case round =>
    obtain ⟨i, rfl, hi, hB⟩ := hrel
    by_cases hlt : i < m
    · have hii : (i : Int) < (m : Int) := by omega
      have h1 : i < V.length := by rw [← HMA.out]; exact hlt
      obtain ⟨x, hx⟩ : ∃ x, V[i]? = some x := ⟨_, List.getElem?_eq_getElem h1⟩
      have HX : Hid (∀ W, Below w.heap.size w W → ∃ ga oa gb ob, aa = some ⟨ga, oa, none⟩ ∧ ab = some ⟨gb, ob, none⟩ ∧ W.rangeAt ga (oa + i * 33) (elC x) ∧ W.rangeAt gb (ob + i * 33) (elC x)) := hide (fun W hW => by
        obtain ⟨a', c', q1, q2⟩ := HA.out.below hW
        obtain ⟨b', d', q3, q4⟩ := HB.out.below hW
        obtain ⟨rfl, _, rfl⟩ := (Value.slice.injEq ..).mp q1
        obtain ⟨rfl, _, rfl⟩ := (Value.slice.injEq ..).mp q3
        obtain ⟨ga, oa, r1, r2⟩ := q2 (by omega)
        obtain ⟨gb, ob, r4, r5⟩ := q4 (by omega)
        exact ⟨ga, oa, gb, ob, r1, r4, r2 i x hx, r5 i x hx⟩)
      obtain ⟨ga, oa, gb, ob, rfl, rfl, -⟩ := HX.out wr hB
      have HX2 : Hid (∀ W, Below w.heap.size w W → W.rangeAt ga (oa + i * 33) (elC x) ∧ W.rangeAt gb (ob + i * 33) (elC x)) := hide (fun W hW => by
        obtain ⟨ga', oa', gb', ob', q1, q2, q3, q4⟩ := HX.out W hW
        cases q1
        cases q2
        exact ⟨q3, q4⟩)
      have HBd := hide (hB.trans ((below_dW wr).mono hB.size))
      clear HX hB h1 hx HA HB
      go_upto_region 6 with fail
      refine ak_walk _ (fun _ _ _ _ _ h => h) wr ga oa gb ob m ca cb i x hlt (HX2.out _ HBd.out) _ (Nat.lt_of_sub_pos (by exact Nat.succ_pos _)) rfl rfl rfl ?_
      simp only [Act.put, List.setIfInBounds_toArray, List.set_cons_zero, List.set_cons_succ]
      obtain ⟨wd, hwd⟩ : ∃ wd, wd = wr.drew := ⟨_, rfl⟩
      rw [← hwd] at HBd ⊢
      clear hwd
      go_wp2
      exact ⟨⟨i + 1, by go_num, by omega, HBd.out⟩, by simp [intOf]; omega⟩
    · have hii : ¬ (i : Int) < (m : Int) := by omega
      have HBw := hide hB
      clear hB
      go_wp2
      go_ret
      exact ⟨rfl, HBw.out⟩
end RG
end Go.Proofs.Ytiogblfdchdioaa
