/- The statement that lays a full block: its region draws its order. -/
import Derived.Test.YtjcfndiceinkjabDoorOE0
import Derived.Deep.RegionLaw
namespace Go.Proofs.YtjcfndiceinkjabDoor
set_option linter.unusedVariables false
set_option linter.unusedSimpArgs false
open Go.RowKit

def q0 (s : String) : Oper := { dst := some 38, op := .move (.tmp 0), type := 54, pos := s, after := #[], guard := none }
def q1 (s : String) : Oper := { dst := some 39, op := .move (.tmp 0), type := 54, pos := s, after := #[], guard := none }
def q2 (s : String) : Oper := { dst := some 40, op := .nilCheck (.tmp 39), type := 0, pos := s, after := #[{ on := 1, ground := .data }], guard := none }
def q3 (s : String) : Oper := { dst := some 41, op := .fieldAddr 82 (.tmp 40) 0, type := 0, pos := s, after := #[{ on := 2, ground := .data }], guard := none }
def q4 (s : String) : Oper := { dst := some 42, op := .load 79 (.tmp 41), type := 79, pos := s, after := #[{ on := 3, ground := .data }], guard := none }
def q5 (s : String) : Oper := { dst := some 43, op := .move (.tmp 0), type := 54, pos := s, after := #[], guard := none }
def q6 (s : String) : Oper := { dst := some 44, op := .nilCheck (.tmp 43), type := 0, pos := s, after := #[{ on := 5, ground := .data }], guard := none }
def q7 (s : String) : Oper := { dst := some 45, op := .fieldAddr 82 (.tmp 44) 1, type := 0, pos := s, after := #[{ on := 6, ground := .data }], guard := none }
def q8 (s : String) : Oper := { dst := some 46, op := .load 80 (.tmp 45), type := 80, pos := s, after := #[{ on := 7, ground := .data }], guard := none }
def q9 (s : String) : Oper := { dst := some 47, op := .build 86 #[(0, .tmp 42), (1, .tmp 46)], type := 86, pos := s, after := #[{ on := 4, ground := .data }, { on := 8, ground := .data }], guard := none }
def q10 (s : String) : Oper := { dst := some 48, op := .box 86 (.tmp 47), type := 79, pos := s, after := #[{ on := 9, ground := .data }], guard := none }
def q11 (s : String) : Oper := { dst := some 49, op := .nilCheck (.tmp 38), type := 0, pos := s, after := #[{ on := 0, ground := .data }, { on := 0, ground := .phase }, { on := 1, ground := .phase }, { on := 2, ground := .phase }, { on := 3, ground := .phase }, { on := 4, ground := .phase }, { on := 5, ground := .phase }, { on := 6, ground := .phase }, { on := 7, ground := .phase }, { on := 8, ground := .phase }, { on := 9, ground := .phase }, { on := 10, ground := .phase }], guard := none }
def q12 (s : String) : Oper := { dst := some 50, op := .fieldAddr 82 (.tmp 49) 0, type := 0, pos := s, after := #[{ on := 11, ground := .data }, { on := 0, ground := .phase }, { on := 1, ground := .phase }, { on := 2, ground := .phase }, { on := 3, ground := .phase }, { on := 4, ground := .phase }, { on := 5, ground := .phase }, { on := 6, ground := .phase }, { on := 7, ground := .phase }, { on := 8, ground := .phase }, { on := 9, ground := .phase }, { on := 10, ground := .phase }], guard := none }
def q13 (s : String) : Oper := { dst := none, op := .store 79 (.tmp 50) (.tmp 48), type := 0, pos := s, after := #[{ on := 12, ground := .data }, { on := 10, ground := .data }, { on := 0, ground := .phase }, { on := 1, ground := .phase }, { on := 2, ground := .phase }, { on := 3, ground := .phase }, { on := 4, ground := .phase }, { on := 5, ground := .phase }, { on := 6, ground := .phase }, { on := 7, ground := .phase }, { on := 8, ground := .phase }, { on := 9, ground := .phase }, { on := 10, ground := .phase }], guard := none }
def ops6 (s : String) : Array Oper := #[q0 s, q1 s, q2 s, q3 s, q4 s, q5 s, q6 s, q7 s, q8 s, q9 s, q10 s, q11 s, q12 s, q13 s]
theorem loadPtr {w : World} {z : Nat} {p : Option Addr} (h : w.cell? ⟨z, 0, none⟩ = some (.pointer p)) : (Instr.loadAt 79 (.pointer (some ⟨z, 0, none⟩))).run Tryd.prog w = .ok (.pointer p) w := by
  have hu := Tryd.underlying79
  simp [go_sem, h, hu]
theorem step_load {op : Oper} {a : Act} {w : World} {K : Act → World → Prop} {Q : Exit → Act → World → Prop} (ty : TypeId) (x : Operand) (ho : op.op = .load ty x) (V : Value) (hr : (Instr.loadAt ty (a.eval x)).run Tryd.prog w = .ok V w) (h : K (a.put op.dst V) w) : op.wp Tryd.prog a w K Q := by
  unfold Oper.wp execOp
  simp only [ho, Sem.run_bind, Sem.run_pure, hr, Result.andThen_ok]
  exact h
theorem run_build_op {a : Act} {o : Oper} {t : TypeId} {x y : Operand} {i j : Nat} {r : Array Value} {w : World} (ho : o.op = .build t #[(i, x), (j, y)]) (h : (Instr.build t #[(i, a.eval x), (j, a.eval y)]).run Tryd.prog w = .ok (.agg r) w) : (execOp a.eval o).run Tryd.prog w = .ok (.value (.agg r)) w := by
  unfold execOp
  simp [ho, h, Result.andThen]
theorem step_run {op : Oper} {a : Act} {w w' : World} {K : Act → World → Prop} {Q : Exit → Act → World → Prop} {V : Value} (hr : (execOp a.eval op).run Tryd.prog w = .ok (.value V) w') (h : K (a.put op.dst V) w') : op.wp Tryd.prog a w K Q := by
  unfold Oper.wp
  rw [hr]
  exact h
theorem step_skip {op : Oper} {a : Act} {w w' : World} {K : Act → World → Prop} {Q : Exit → Act → World → Prop} (hr : (execOp a.eval op).run Tryd.prog w = .ok .skip w') (h : K (a.put op.dst undef) w') : op.wp Tryd.prog a w K Q := by
  unfold Oper.wp
  rw [hr]
  exact h
/-- What the temporaries hold behind the region. -/
def act6 (a : Act) (z : Nat) (p : Option Addr) (cs : List Value) (n : Nat) : Act :=
  ((((((a.put (some 38) (.pointer (some ⟨z, 0, none⟩))).put (some 39) (.pointer (some ⟨z, 0, none⟩))).put (some 40) (.pointer (some ⟨z, 0, none⟩))).put (some 41) (.pointer (some ⟨z, 0, none⟩))).put (some 43) (.pointer (some ⟨z, 0, none⟩))).put (some 44) (.pointer (some ⟨z, 0, none⟩))).put (some 45) (.pointer (some ⟨z, 1, none⟩))
theorem field0 (z : Nat) (w : World) : (Instr.fieldAt 82 (.pointer (some ⟨z, 0, none⟩)) 0).run Tryd.prog w = .ok (.pointer (some ⟨z, 0, none⟩)) w := by kernel_rfl
theorem field1 (z : Nat) (w : World) : (Instr.fieldAt 82 (.pointer (some ⟨z, 0, none⟩)) 1).run Tryd.prog w = .ok (.pointer (some ⟨z, 1, none⟩)) w := by kernel_rfl
theorem box_block (cells : Array Value) (hn : cells.size = 257) (w : World) : (Instr.box 86 (.agg cells)).run Tryd.prog w = .ok (.pointer (some ⟨w.heap.size, 0, none⟩)) (w.alloc (.cells cells 86)) := by
  simp [Instr.box, go_sem]
theorem store_ptr {w : World} {z : Nat} {p : Option Addr} (q : Option Addr) (h : w.cell? ⟨z, 0, none⟩ = some (.pointer p)) (hf : w.frozen? ⟨z, 0, none⟩ = false) : (Instr.storeAt 79 (.pointer (some ⟨z, 0, none⟩)) (.pointer q)).run Tryd.prog w = .ok () (w.setCell ⟨z, 0, none⟩ (.pointer q)) := by
  have hu := Tryd.underlying79
  simp [go_sem, h, hf, hu]

/-- The region behind its two loads. -/
theorem tail6 (s : String) {Q : Exit → Act → World → Prop} (hQ : ∀ c (a : Act) t v w, Q (.panic c) (a.put (some t) v) w → Q (.panic c) a w) (W : World) (z : Nat) (p : Option Addr) (cs : List Value) (hcl : cs.length = 256) (c0 : W.cell? ⟨z, 0, none⟩ = some (.pointer p)) (f0 : W.frozen? ⟨z, 0, none⟩ = false) (a : Act) (ha : a.tmps.size = 51) (h38 : a.eval (.tmp 38) = .pointer (some ⟨z, 0, none⟩)) (h42 : a.eval (.tmp 42) = .pointer p) (h46 : a.eval (.tmp 46) = .agg cs.toArray)
    (h : ∀ a', a'.tmps.size = 51 → a'.defers = a.defers → (∀ t, t < 38 → a'.eval (.tmp t) = a.eval (.tmp t)) → Q .normal a' (((W.drew).alloc (.cells (.pointer p :: cs).toArray 86)).setCell ⟨z, 0, none⟩ (.pointer (some ⟨W.heap.size, 0, none⟩)))) (listed : Array Bool) (hli : listed = #[true, true, true, true, true, true, true, true, true, false, false, false, false, false]) :
    wpAny Tryd.prog .any (ops6 s) Q 5 listed a W.drew := by
  subst hli
  refine wpAny_take (i := 9) (oi := q9 s) (v := .agg (.pointer p :: cs).toArray) (by kernel_rfl) (by kernel_rfl) (by kernel_rfl) (by kernel_rfl) (fun c a w h => hQ c _ _ _ w h) (Or.inl ⟨wanted_none rfl, fun w => run_build_op rfl (by rw [h42, h46]; exact build_block p cs hcl w)⟩) ?_
  obtain ⟨b, hb⟩ : ∃ rr : Act, rr = a.put (some 47) (.agg (.pointer p :: cs).toArray) := ⟨_, rfl⟩
  have sb : b.tmps.size = 51 := by rw [hb, sz_put]; exact ha
  have b47 : b.eval (.tmp 47) = .agg (.pointer p :: cs).toArray := by rw [hb]; exact ev_same _ _ _ (by rw [ha]; decide)
  have bo : ∀ t, t ≠ 47 → b.eval (.tmp t) = a.eval (.tmp t) := fun t ht => by rw [hb]; exact ev_other _ _ _ _ (fun e => ht e.symm)
  have bd : b.defers = a.defers := by rw [hb]; rfl
  change wpAny _ _ _ _ _ _ (a.put (some 47) (.agg (.pointer p :: cs).toArray)) _
  rw [← hb]
  clear hb
  refine wpAny_ready (rs := [10]) (by kernel_rfl) (by simp) ?_
  refine AllReady.cons (o := q10 s) (by kernel_rfl) (fun K hK => ?_) AllReady.nil
  rw [if_pos (wanted_none rfl)]
  refine step_run (by simp only [execOp, q10, b47, Sem.run_bind, Sem.run_pure, box_block (Value.pointer p :: cs).toArray (by simp [hcl]), Result.andThen_ok]; rfl) ?_
  refine hK _ _ ?_
  clear hK K
  obtain ⟨c, hc⟩ : ∃ rr : Act, rr = b.put (some 48) (.pointer (some ⟨W.drew.heap.size, 0, none⟩)) := ⟨_, rfl⟩
  have sc : c.tmps.size = 51 := by rw [hc, sz_put]; exact sb
  have vc : c.eval (.tmp 48) = (.pointer (some ⟨W.drew.heap.size, 0, none⟩)) := by rw [hc]; exact ev_same _ _ _ (by rw [sb]; decide)
  have oc : ∀ t, t ≠ 48 → c.eval (.tmp t) = b.eval (.tmp t) := fun t ht => by rw [hc]; exact ev_other _ _ _ _ (fun e => ht e.symm)
  have dc : c.defers = a.defers := by rw [hc]; exact bd
  change wpAny _ _ _ _ _ _ (b.put (some 48) (.pointer (some ⟨W.drew.heap.size, 0, none⟩))) _
  rw [← hc]
  clear hc
  refine wpAny_take (i := 11) (oi := q11 s) (v := .pointer (some ⟨z, 0, none⟩)) (by kernel_rfl) (by kernel_rfl) (by kernel_rfl) (by kernel_rfl) (fun c a w h => hQ c _ _ _ w h) (Or.inl ⟨wanted_none rfl, fun w => by
    have e : c.eval (.tmp 38) = .pointer (some ⟨z, 0, none⟩) := (oc 38 (by decide)).trans ((bo 38 (by decide)).trans h38)
    simp only [execOp, q11, e]; rfl⟩) ?_
  obtain ⟨d, hd⟩ : ∃ rr : Act, rr = c.put (some 49) (.pointer (some ⟨z, 0, none⟩)) := ⟨_, rfl⟩
  have sd : d.tmps.size = 51 := by rw [hd, sz_put]; exact sc
  have vd : d.eval (.tmp 49) = (.pointer (some ⟨z, 0, none⟩)) := by rw [hd]; exact ev_same _ _ _ (by rw [sc]; decide)
  have od : ∀ t, t ≠ 49 → d.eval (.tmp t) = c.eval (.tmp t) := fun t ht => by rw [hd]; exact ev_other _ _ _ _ (fun e => ht e.symm)
  have dd : d.defers = a.defers := by rw [hd]; exact dc
  change wpAny _ _ _ _ _ _ (c.put (some 49) (.pointer (some ⟨z, 0, none⟩))) _
  rw [← hd]
  clear hd
  refine wpAny_take (i := 12) (oi := q12 s) (v := .pointer (some ⟨z, 0, none⟩)) (by kernel_rfl) (by kernel_rfl) (by kernel_rfl) (by kernel_rfl) (fun c a w h => hQ c _ _ _ w h) (Or.inl ⟨wanted_none rfl, fun w => by simp [execOp, q12, vd, field0]⟩) ?_
  obtain ⟨f, hf⟩ : ∃ rr : Act, rr = d.put (some 50) (.pointer (some ⟨z, 0, none⟩)) := ⟨_, rfl⟩
  have sf : f.tmps.size = 51 := by rw [hf, sz_put]; exact sd
  have vf : f.eval (.tmp 50) = (.pointer (some ⟨z, 0, none⟩)) := by rw [hf]; exact ev_same _ _ _ (by rw [sd]; decide)
  have of : ∀ t, t ≠ 50 → f.eval (.tmp t) = d.eval (.tmp t) := fun t ht => by rw [hf]; exact ev_other _ _ _ _ (fun e => ht e.symm)
  have df : f.defers = a.defers := by rw [hf]; exact dd
  change wpAny _ _ _ _ _ _ (d.put (some 50) (.pointer (some ⟨z, 0, none⟩))) _
  rw [← hf]
  clear hf
  have e48 : f.eval (.tmp 48) = .pointer (some ⟨W.drew.heap.size, 0, none⟩) := (of 48 (by decide)).trans ((od 48 (by decide)).trans vc)
  have hz : z < W.drew.heap.size := World.block_lt_of_cell? W _ c0
  refine wpAny_ready (rs := [13]) (by kernel_rfl) (by simp) ?_
  refine AllReady.cons (o := q13 s) (by kernel_rfl) (fun K hK => ?_) AllReady.nil
  rw [if_pos (wanted_none rfl)]
  refine step_skip (w' := ((W.drew).alloc (.cells (.pointer p :: cs).toArray 86)).setCell ⟨z, 0, none⟩ (.pointer (some ⟨W.heap.size, 0, none⟩))) (by
    have c1 : (W.drew.alloc (.cells (.pointer p :: cs).toArray 86)).cell? ⟨z, 0, none⟩ = some (.pointer p) := (World.cell?_alloc_lt _ _ _ hz).trans c0
    have f1 : (W.drew.alloc (.cells (.pointer p :: cs).toArray 86)).frozen? ⟨z, 0, none⟩ = false := (World.frozen?_alloc_past _ _ _ hz).trans f0
    simp only [execOp, q13, vf, e48]
    rw [Sem.run_bind, store_ptr _ c1 f1]
    rfl) ?_
  refine hK _ _ ?_
  clear hK K
  refine wpAny_done (by kernel_rfl) ?_ _
  refine h _ ?_ ?_ ?_
  · exact sf
  · exact df
  · intro t ht
    exact (of t (Nat.ne_of_lt (Nat.lt_of_lt_of_le ht (by decide)))).trans ((od t (Nat.ne_of_lt (Nat.lt_of_lt_of_le ht (by decide)))).trans ((oc t (Nat.ne_of_lt (Nat.lt_of_lt_of_le ht (by decide)))).trans (bo t (Nat.ne_of_lt (Nat.lt_of_lt_of_le ht (by decide))))))

theorem region6 (s : String) {Q : Exit → Act → World → Prop} (hQ : ∀ c (a : Act) t v w, Q (.panic c) (a.put (some t) v) w → Q (.panic c) a w) (W : World) (z : Nat) (p : Option Addr) (cs : List Value) (hcl : cs.length = 256) (hrg : W.rangeAt z 1 cs) (c0 : W.cell? ⟨z, 0, none⟩ = some (.pointer p)) (f0 : W.frozen? ⟨z, 0, none⟩ = false) (a : Act) (ha : a.tmps.size = 51) (h0 : a.eval (.tmp 0) = .pointer (some ⟨z, 0, none⟩))
    (h : ∀ a', a'.tmps.size = 51 → a'.defers = a.defers → (∀ t, t < 38 → a'.eval (.tmp t) = a.eval (.tmp t)) → Q .normal a' (((W.drew).alloc (.cells (.pointer p :: cs).toArray 86)).setCell ⟨z, 0, none⟩ (.pointer (some ⟨W.heap.size, 0, none⟩)))) :
    Code.wp Tryd.prog (.region 6 (ops6 s) true) Q a W := by
  refine wp_region_any (by kernel_rfl) ?_
  change wpAny _ _ _ _ _ _ _ (World.drew _)
  refine wpAny_take (i := 0) (oi := q0 s) (v := (.pointer (some ⟨z, 0, none⟩))) (by kernel_rfl) (by kernel_rfl) (by kernel_rfl) (by kernel_rfl) (fun c a w h => hQ c _ _ _ w h) (Or.inl ⟨wanted_none rfl, fun w => by simp [execOp, q0, h0]⟩) ?_
  obtain ⟨a1, ha1⟩ : ∃ rr : Act, rr = a.put (some 38) (.pointer (some ⟨z, 0, none⟩)) := ⟨_, rfl⟩
  have s1 : a1.tmps.size = 51 := by rw [ha1, sz_put]; exact ha
  have g1 : a1.eval (.tmp 38) = (.pointer (some ⟨z, 0, none⟩)) := by rw [ha1]; exact ev_same _ _ _ (by rw [ha]; decide)
  have o1 : ∀ t, t ≠ 38 → a1.eval (.tmp t) = a.eval (.tmp t) := fun t ht => by rw [ha1]; exact ev_other _ _ _ _ (fun e => ht e.symm)
  have d1 : a1.defers = a.defers := by rw [ha1]; rfl
  change wpAny _ _ _ _ _ _ (a.put (some 38) (.pointer (some ⟨z, 0, none⟩))) _
  rw [← ha1]
  clear ha1
  have z1 : a1.eval (.tmp 0) = .pointer (some ⟨z, 0, none⟩) := (o1 0 (by decide)).trans h0
  have e1_38 := g1
  refine wpAny_take (i := 1) (oi := q1 s) (v := (.pointer (some ⟨z, 0, none⟩))) (by kernel_rfl) (by kernel_rfl) (by kernel_rfl) (by kernel_rfl) (fun c a w h => hQ c _ _ _ w h) (Or.inl ⟨wanted_none rfl, fun w => by simp [execOp, q1, z1]⟩) ?_
  obtain ⟨a2, ha2⟩ : ∃ rr : Act, rr = a1.put (some 39) (.pointer (some ⟨z, 0, none⟩)) := ⟨_, rfl⟩
  have s2 : a2.tmps.size = 51 := by rw [ha2, sz_put]; exact s1
  have g2 : a2.eval (.tmp 39) = (.pointer (some ⟨z, 0, none⟩)) := by rw [ha2]; exact ev_same _ _ _ (by rw [s1]; decide)
  have o2 : ∀ t, t ≠ 39 → a2.eval (.tmp t) = a1.eval (.tmp t) := fun t ht => by rw [ha2]; exact ev_other _ _ _ _ (fun e => ht e.symm)
  have d2 : a2.defers = a.defers := by rw [ha2]; exact d1
  change wpAny _ _ _ _ _ _ (a1.put (some 39) (.pointer (some ⟨z, 0, none⟩))) _
  rw [← ha2]
  clear ha2
  have z2 : a2.eval (.tmp 0) = .pointer (some ⟨z, 0, none⟩) := (o2 0 (by decide)).trans z1
  have e2_38 : a2.eval (.tmp 38) = (.pointer (some ⟨z, 0, none⟩)) := (o2 38 (by decide)).trans e1_38
  have e2_39 := g2
  refine wpAny_take (i := 2) (oi := q2 s) (v := (.pointer (some ⟨z, 0, none⟩))) (by kernel_rfl) (by kernel_rfl) (by kernel_rfl) (by kernel_rfl) (fun c a w h => hQ c _ _ _ w h) (Or.inl ⟨wanted_none rfl, fun w => by have e := e2_39; simp only [execOp, q2, e]; first | rfl | (simp [go_sem]; done)⟩) ?_
  obtain ⟨a3, ha3⟩ : ∃ rr : Act, rr = a2.put (some 40) (.pointer (some ⟨z, 0, none⟩)) := ⟨_, rfl⟩
  have s3 : a3.tmps.size = 51 := by rw [ha3, sz_put]; exact s2
  have g3 : a3.eval (.tmp 40) = (.pointer (some ⟨z, 0, none⟩)) := by rw [ha3]; exact ev_same _ _ _ (by rw [s2]; decide)
  have o3 : ∀ t, t ≠ 40 → a3.eval (.tmp t) = a2.eval (.tmp t) := fun t ht => by rw [ha3]; exact ev_other _ _ _ _ (fun e => ht e.symm)
  have d3 : a3.defers = a.defers := by rw [ha3]; exact d2
  change wpAny _ _ _ _ _ _ (a2.put (some 40) (.pointer (some ⟨z, 0, none⟩))) _
  rw [← ha3]
  clear ha3
  have z3 : a3.eval (.tmp 0) = .pointer (some ⟨z, 0, none⟩) := (o3 0 (by decide)).trans z2
  have e3_38 : a3.eval (.tmp 38) = (.pointer (some ⟨z, 0, none⟩)) := (o3 38 (by decide)).trans e2_38
  have e3_39 : a3.eval (.tmp 39) = (.pointer (some ⟨z, 0, none⟩)) := (o3 39 (by decide)).trans e2_39
  have e3_40 := g3
  refine wpAny_take (i := 3) (oi := q3 s) (v := (.pointer (some ⟨z, 0, none⟩))) (by kernel_rfl) (by kernel_rfl) (by kernel_rfl) (by kernel_rfl) (fun c a w h => hQ c _ _ _ w h) (Or.inl ⟨wanted_none rfl, fun w => by have e := e3_40; simp [execOp, q3, e, field0]⟩) ?_
  obtain ⟨a4, ha4⟩ : ∃ rr : Act, rr = a3.put (some 41) (.pointer (some ⟨z, 0, none⟩)) := ⟨_, rfl⟩
  have s4 : a4.tmps.size = 51 := by rw [ha4, sz_put]; exact s3
  have g4 : a4.eval (.tmp 41) = (.pointer (some ⟨z, 0, none⟩)) := by rw [ha4]; exact ev_same _ _ _ (by rw [s3]; decide)
  have o4 : ∀ t, t ≠ 41 → a4.eval (.tmp t) = a3.eval (.tmp t) := fun t ht => by rw [ha4]; exact ev_other _ _ _ _ (fun e => ht e.symm)
  have d4 : a4.defers = a.defers := by rw [ha4]; exact d3
  change wpAny _ _ _ _ _ _ (a3.put (some 41) (.pointer (some ⟨z, 0, none⟩))) _
  rw [← ha4]
  clear ha4
  have z4 : a4.eval (.tmp 0) = .pointer (some ⟨z, 0, none⟩) := (o4 0 (by decide)).trans z3
  have e4_38 : a4.eval (.tmp 38) = (.pointer (some ⟨z, 0, none⟩)) := (o4 38 (by decide)).trans e3_38
  have e4_39 : a4.eval (.tmp 39) = (.pointer (some ⟨z, 0, none⟩)) := (o4 39 (by decide)).trans e3_39
  have e4_40 : a4.eval (.tmp 40) = (.pointer (some ⟨z, 0, none⟩)) := (o4 40 (by decide)).trans e3_40
  have e4_41 := g4
  refine wpAny_take (i := 5) (oi := q5 s) (v := (.pointer (some ⟨z, 0, none⟩))) (by kernel_rfl) (by kernel_rfl) (by kernel_rfl) (by kernel_rfl) (fun c a w h => hQ c _ _ _ w h) (Or.inl ⟨wanted_none rfl, fun w => by simp [execOp, q5, z4]⟩) ?_
  obtain ⟨a5, ha5⟩ : ∃ rr : Act, rr = a4.put (some 43) (.pointer (some ⟨z, 0, none⟩)) := ⟨_, rfl⟩
  have s5 : a5.tmps.size = 51 := by rw [ha5, sz_put]; exact s4
  have g5 : a5.eval (.tmp 43) = (.pointer (some ⟨z, 0, none⟩)) := by rw [ha5]; exact ev_same _ _ _ (by rw [s4]; decide)
  have o5 : ∀ t, t ≠ 43 → a5.eval (.tmp t) = a4.eval (.tmp t) := fun t ht => by rw [ha5]; exact ev_other _ _ _ _ (fun e => ht e.symm)
  have d5 : a5.defers = a.defers := by rw [ha5]; exact d4
  change wpAny _ _ _ _ _ _ (a4.put (some 43) (.pointer (some ⟨z, 0, none⟩))) _
  rw [← ha5]
  clear ha5
  have z5 : a5.eval (.tmp 0) = .pointer (some ⟨z, 0, none⟩) := (o5 0 (by decide)).trans z4
  have e5_38 : a5.eval (.tmp 38) = (.pointer (some ⟨z, 0, none⟩)) := (o5 38 (by decide)).trans e4_38
  have e5_39 : a5.eval (.tmp 39) = (.pointer (some ⟨z, 0, none⟩)) := (o5 39 (by decide)).trans e4_39
  have e5_40 : a5.eval (.tmp 40) = (.pointer (some ⟨z, 0, none⟩)) := (o5 40 (by decide)).trans e4_40
  have e5_41 : a5.eval (.tmp 41) = (.pointer (some ⟨z, 0, none⟩)) := (o5 41 (by decide)).trans e4_41
  have e5_43 := g5
  refine wpAny_take (i := 6) (oi := q6 s) (v := (.pointer (some ⟨z, 0, none⟩))) (by kernel_rfl) (by kernel_rfl) (by kernel_rfl) (by kernel_rfl) (fun c a w h => hQ c _ _ _ w h) (Or.inl ⟨wanted_none rfl, fun w => by have e := e5_43; simp only [execOp, q6, e]; first | rfl | (simp [go_sem]; done)⟩) ?_
  obtain ⟨a6, ha6⟩ : ∃ rr : Act, rr = a5.put (some 44) (.pointer (some ⟨z, 0, none⟩)) := ⟨_, rfl⟩
  have s6 : a6.tmps.size = 51 := by rw [ha6, sz_put]; exact s5
  have g6 : a6.eval (.tmp 44) = (.pointer (some ⟨z, 0, none⟩)) := by rw [ha6]; exact ev_same _ _ _ (by rw [s5]; decide)
  have o6 : ∀ t, t ≠ 44 → a6.eval (.tmp t) = a5.eval (.tmp t) := fun t ht => by rw [ha6]; exact ev_other _ _ _ _ (fun e => ht e.symm)
  have d6 : a6.defers = a.defers := by rw [ha6]; exact d5
  change wpAny _ _ _ _ _ _ (a5.put (some 44) (.pointer (some ⟨z, 0, none⟩))) _
  rw [← ha6]
  clear ha6
  have z6 : a6.eval (.tmp 0) = .pointer (some ⟨z, 0, none⟩) := (o6 0 (by decide)).trans z5
  have e6_38 : a6.eval (.tmp 38) = (.pointer (some ⟨z, 0, none⟩)) := (o6 38 (by decide)).trans e5_38
  have e6_39 : a6.eval (.tmp 39) = (.pointer (some ⟨z, 0, none⟩)) := (o6 39 (by decide)).trans e5_39
  have e6_40 : a6.eval (.tmp 40) = (.pointer (some ⟨z, 0, none⟩)) := (o6 40 (by decide)).trans e5_40
  have e6_41 : a6.eval (.tmp 41) = (.pointer (some ⟨z, 0, none⟩)) := (o6 41 (by decide)).trans e5_41
  have e6_43 : a6.eval (.tmp 43) = (.pointer (some ⟨z, 0, none⟩)) := (o6 43 (by decide)).trans e5_43
  have e6_44 := g6
  refine wpAny_take (i := 7) (oi := q7 s) (v := (.pointer (some ⟨z, 1, none⟩))) (by kernel_rfl) (by kernel_rfl) (by kernel_rfl) (by kernel_rfl) (fun c a w h => hQ c _ _ _ w h) (Or.inl ⟨wanted_none rfl, fun w => by have e := e6_44; simp [execOp, q7, e, field1]⟩) ?_
  obtain ⟨a7, ha7⟩ : ∃ rr : Act, rr = a6.put (some 45) (.pointer (some ⟨z, 1, none⟩)) := ⟨_, rfl⟩
  have s7 : a7.tmps.size = 51 := by rw [ha7, sz_put]; exact s6
  have g7 : a7.eval (.tmp 45) = (.pointer (some ⟨z, 1, none⟩)) := by rw [ha7]; exact ev_same _ _ _ (by rw [s6]; decide)
  have o7 : ∀ t, t ≠ 45 → a7.eval (.tmp t) = a6.eval (.tmp t) := fun t ht => by rw [ha7]; exact ev_other _ _ _ _ (fun e => ht e.symm)
  have d7 : a7.defers = a.defers := by rw [ha7]; exact d6
  change wpAny _ _ _ _ _ _ (a6.put (some 45) (.pointer (some ⟨z, 1, none⟩))) _
  rw [← ha7]
  clear ha7
  have z7 : a7.eval (.tmp 0) = .pointer (some ⟨z, 0, none⟩) := (o7 0 (by decide)).trans z6
  have e7_38 : a7.eval (.tmp 38) = (.pointer (some ⟨z, 0, none⟩)) := (o7 38 (by decide)).trans e6_38
  have e7_39 : a7.eval (.tmp 39) = (.pointer (some ⟨z, 0, none⟩)) := (o7 39 (by decide)).trans e6_39
  have e7_40 : a7.eval (.tmp 40) = (.pointer (some ⟨z, 0, none⟩)) := (o7 40 (by decide)).trans e6_40
  have e7_41 : a7.eval (.tmp 41) = (.pointer (some ⟨z, 0, none⟩)) := (o7 41 (by decide)).trans e6_41
  have e7_43 : a7.eval (.tmp 43) = (.pointer (some ⟨z, 0, none⟩)) := (o7 43 (by decide)).trans e6_43
  have e7_44 : a7.eval (.tmp 44) = (.pointer (some ⟨z, 0, none⟩)) := (o7 44 (by decide)).trans e6_44
  have e7_45 := g7
  refine wpAny_ready (rs := [4, 8]) (by kernel_rfl) (by simp) ?_
  refine AllReady.cons (o := q4 s) (by kernel_rfl) (fun K hK => ?_) (AllReady.cons (o := q8 s) (by kernel_rfl) (fun K hK => ?_) AllReady.nil)
  · rw [if_pos (wanted_none rfl)]
    refine step_load 79 (.tmp 41) rfl (.pointer p) (by rw [e7_41]; exact loadPtr ((World.cell?_drew _ _).trans c0)) ?_
    refine hK _ _ ?_
    clear hK K
    obtain ⟨x, hx⟩ : ∃ rr : Act, rr = a7.put (some 42) (.pointer p) := ⟨_, rfl⟩
    have sx : x.tmps.size = 51 := by rw [hx, sz_put]; exact s7
    have vx : x.eval (.tmp 42) = (.pointer p) := by rw [hx]; exact ev_same _ _ _ (by rw [s7]; decide)
    have ox : ∀ t, t ≠ 42 → x.eval (.tmp t) = a7.eval (.tmp t) := fun t ht => by rw [hx]; exact ev_other _ _ _ _ (fun e => ht e.symm)
    have dx : x.defers = a.defers := by rw [hx]; exact d7
    change wpAny _ _ _ _ _ _ (a7.put (some 42) (.pointer p)) _
    rw [← hx]
    clear hx
    refine wpAny_ready (rs := [8]) (by kernel_rfl) (by simp) ?_
    refine AllReady.cons (o := q8 s) (by kernel_rfl) (fun K hK => ?_) AllReady.nil
    rw [if_pos (wanted_none rfl)]
    refine wp_load_mid 80 (.tmp 45) rfl z 1 ((ox 45 (by decide)).trans e7_45) cs _ ((World.rangeAt_drew _ _ _ _).2 hrg) Tryd.underlying80 rfl (by rw [hcl]; kernel_rfl) ?_
    refine hK _ _ ?_
    clear hK K
    obtain ⟨y, hy⟩ : ∃ rr : Act, rr = x.put (some 46) (.agg cs.toArray) := ⟨_, rfl⟩
    have sy : y.tmps.size = 51 := by rw [hy, sz_put]; exact sx
    have vy : y.eval (.tmp 46) = (.agg cs.toArray) := by rw [hy]; exact ev_same _ _ _ (by rw [sx]; decide)
    have oy : ∀ t, t ≠ 46 → y.eval (.tmp t) = x.eval (.tmp t) := fun t ht => by rw [hy]; exact ev_other _ _ _ _ (fun e => ht e.symm)
    have dy : y.defers = a.defers := by rw [hy]; exact dx
    change wpAny _ _ _ _ _ _ (x.put (some 46) (.agg cs.toArray)) _
    rw [← hy]
    clear hy
    refine tail6 s hQ W z p cs hcl c0 f0 y ?_ ?_ ?_ ?_ (fun a' h1 h2 h3 => h a' h1 (h2.trans dy) (fun t ht => ?_)) _ (by kernel_rfl)
    · exact sy
    · exact (oy 38 (by decide)).trans ((ox 38 (by decide)).trans e7_38)
    · exact (oy 42 (by decide)).trans vx
    · exact vy
    · exact (h3 t ht).trans ((oy t (Nat.ne_of_lt (Nat.lt_of_lt_of_le ht (by decide)))).trans ((ox t (Nat.ne_of_lt (Nat.lt_of_lt_of_le ht (by decide)))).trans ((o7 t (Nat.ne_of_lt (Nat.lt_of_lt_of_le ht (by decide)))).trans ((o6 t (Nat.ne_of_lt (Nat.lt_of_lt_of_le ht (by decide)))).trans ((o5 t (Nat.ne_of_lt (Nat.lt_of_lt_of_le ht (by decide)))).trans ((o4 t (Nat.ne_of_lt (Nat.lt_of_lt_of_le ht (by decide)))).trans ((o3 t (Nat.ne_of_lt (Nat.lt_of_lt_of_le ht (by decide)))).trans ((o2 t (Nat.ne_of_lt (Nat.lt_of_lt_of_le ht (by decide)))).trans (o1 t (Nat.ne_of_lt (Nat.lt_of_lt_of_le ht (by decide))))))))))))
  · rw [if_pos (wanted_none rfl)]
    refine wp_load_mid 80 (.tmp 45) rfl z 1 e7_45 cs _ ((World.rangeAt_drew _ _ _ _).2 hrg) Tryd.underlying80 rfl (by rw [hcl]; kernel_rfl) ?_
    refine hK _ _ ?_
    clear hK K
    obtain ⟨x, hx⟩ : ∃ rr : Act, rr = a7.put (some 46) (.agg cs.toArray) := ⟨_, rfl⟩
    have sx : x.tmps.size = 51 := by rw [hx, sz_put]; exact s7
    have vx : x.eval (.tmp 46) = (.agg cs.toArray) := by rw [hx]; exact ev_same _ _ _ (by rw [s7]; decide)
    have ox : ∀ t, t ≠ 46 → x.eval (.tmp t) = a7.eval (.tmp t) := fun t ht => by rw [hx]; exact ev_other _ _ _ _ (fun e => ht e.symm)
    have dx : x.defers = a.defers := by rw [hx]; exact d7
    change wpAny _ _ _ _ _ _ (a7.put (some 46) (.agg cs.toArray)) _
    rw [← hx]
    clear hx
    refine wpAny_ready (rs := [4]) (by kernel_rfl) (by simp) ?_
    refine AllReady.cons (o := q4 s) (by kernel_rfl) (fun K hK => ?_) AllReady.nil
    rw [if_pos (wanted_none rfl)]
    refine step_load 79 (.tmp 41) rfl (.pointer p) (by rw [(show _ = _ from (ox 41 (by decide)).trans e7_41)]; exact loadPtr ((World.cell?_drew _ _).trans c0)) ?_
    refine hK _ _ ?_
    clear hK K
    obtain ⟨y, hy⟩ : ∃ rr : Act, rr = x.put (some 42) (.pointer p) := ⟨_, rfl⟩
    have sy : y.tmps.size = 51 := by rw [hy, sz_put]; exact sx
    have vy : y.eval (.tmp 42) = (.pointer p) := by rw [hy]; exact ev_same _ _ _ (by rw [sx]; decide)
    have oy : ∀ t, t ≠ 42 → y.eval (.tmp t) = x.eval (.tmp t) := fun t ht => by rw [hy]; exact ev_other _ _ _ _ (fun e => ht e.symm)
    have dy : y.defers = a.defers := by rw [hy]; exact dx
    change wpAny _ _ _ _ _ _ (x.put (some 42) (.pointer p)) _
    rw [← hy]
    clear hy
    refine tail6 s hQ W z p cs hcl c0 f0 y ?_ ?_ ?_ ?_ (fun a' h1 h2 h3 => h a' h1 (h2.trans dy) (fun t ht => ?_)) _ (by kernel_rfl)
    · exact sy
    · exact (oy 38 (by decide)).trans ((ox 38 (by decide)).trans e7_38)
    · exact vy
    · exact (oy 46 (by decide)).trans vx
    · exact (h3 t ht).trans ((oy t (Nat.ne_of_lt (Nat.lt_of_lt_of_le ht (by decide)))).trans ((ox t (Nat.ne_of_lt (Nat.lt_of_lt_of_le ht (by decide)))).trans ((o7 t (Nat.ne_of_lt (Nat.lt_of_lt_of_le ht (by decide)))).trans ((o6 t (Nat.ne_of_lt (Nat.lt_of_lt_of_le ht (by decide)))).trans ((o5 t (Nat.ne_of_lt (Nat.lt_of_lt_of_le ht (by decide)))).trans ((o4 t (Nat.ne_of_lt (Nat.lt_of_lt_of_le ht (by decide)))).trans ((o3 t (Nat.ne_of_lt (Nat.lt_of_lt_of_le ht (by decide)))).trans ((o2 t (Nat.ne_of_lt (Nat.lt_of_lt_of_le ht (by decide)))).trans (o1 t (Nat.ne_of_lt (Nat.lt_of_lt_of_le ht (by decide))))))))))))
theorem list51 (xs : List Value) (h : xs.length = 51) : ∃ y0 y1 y2 y3 y4 y5 y6 y7 y8 y9 y10 y11 y12 y13 y14 y15 y16 y17 y18 y19 y20 y21 y22 y23 y24 y25 y26 y27 y28 y29 y30 y31 y32 y33 y34 y35 y36 y37 y38 y39 y40 y41 y42 y43 y44 y45 y46 y47 y48 y49 y50, xs = y0 :: y1 :: y2 :: y3 :: y4 :: y5 :: y6 :: y7 :: y8 :: y9 :: y10 :: y11 :: y12 :: y13 :: y14 :: y15 :: y16 :: y17 :: y18 :: y19 :: y20 :: y21 :: y22 :: y23 :: y24 :: y25 :: y26 :: y27 :: y28 :: y29 :: y30 :: y31 :: y32 :: y33 :: y34 :: y35 :: y36 :: y37 :: y38 :: y39 :: y40 :: y41 :: y42 :: y43 :: y44 :: y45 :: y46 :: y47 :: y48 :: y49 :: y50 :: [] := by
  match xs, h with
  | y0 :: y1 :: y2 :: y3 :: y4 :: y5 :: y6 :: y7 :: y8 :: y9 :: y10 :: y11 :: y12 :: y13 :: y14 :: y15 :: y16 :: y17 :: y18 :: y19 :: y20 :: y21 :: y22 :: y23 :: y24 :: y25 :: y26 :: y27 :: y28 :: y29 :: y30 :: y31 :: y32 :: y33 :: y34 :: y35 :: y36 :: y37 :: y38 :: y39 :: y40 :: y41 :: y42 :: y43 :: y44 :: y45 :: y46 :: y47 :: y48 :: y49 :: y50 :: [], _ => exact ⟨y0, y1, y2, y3, y4, y5, y6, y7, y8, y9, y10, y11, y12, y13, y14, y15, y16, y17, y18, y19, y20, y21, y22, y23, y24, y25, y26, y27, y28, y29, y30, y31, y32, y33, y34, y35, y36, y37, y38, y39, y40, y41, y42, y43, y44, y45, y46, y47, y48, y49, y50, rfl⟩
theorem act51 (a : Act) (h : a.tmps.size = 51) (hd : a.defers = []) : ∃ y0 y1 y2 y3 y4 y5 y6 y7 y8 y9 y10 y11 y12 y13 y14 y15 y16 y17 y18 y19 y20 y21 y22 y23 y24 y25 y26 y27 y28 y29 y30 y31 y32 y33 y34 y35 y36 y37 y38 y39 y40 y41 y42 y43 y44 y45 y46 y47 y48 y49 y50, a = { tmps := (y0 :: y1 :: y2 :: y3 :: y4 :: y5 :: y6 :: y7 :: y8 :: y9 :: y10 :: y11 :: y12 :: y13 :: y14 :: y15 :: y16 :: y17 :: y18 :: y19 :: y20 :: y21 :: y22 :: y23 :: y24 :: y25 :: y26 :: y27 :: y28 :: y29 :: y30 :: y31 :: y32 :: y33 :: y34 :: y35 :: y36 :: y37 :: y38 :: y39 :: y40 :: y41 :: y42 :: y43 :: y44 :: y45 :: y46 :: y47 :: y48 :: y49 :: y50 :: []).toArray, defers := [] } := by
  obtain ⟨tmps, defers⟩ := a
  obtain ⟨l⟩ := tmps
  obtain ⟨y0, y1, y2, y3, y4, y5, y6, y7, y8, y9, y10, y11, y12, y13, y14, y15, y16, y17, y18, y19, y20, y21, y22, y23, y24, y25, y26, y27, y28, y29, y30, y31, y32, y33, y34, y35, y36, y37, y38, y39, y40, y41, y42, y43, y44, y45, y46, y47, y48, y49, y50, rfl⟩ := list51 l (by simpa using h)
  simp only at hd
  subst hd
  exact ⟨y0, y1, y2, y3, y4, y5, y6, y7, y8, y9, y10, y11, y12, y13, y14, y15, y16, y17, y18, y19, y20, y21, y22, y23, y24, y25, y26, y27, y28, y29, y30, y31, y32, y33, y34, y35, y36, y37, y38, y39, y40, y41, y42, y43, y44, y45, y46, y47, y48, y49, y50, rfl⟩
end Go.Proofs.YtjcfndiceinkjabDoor
