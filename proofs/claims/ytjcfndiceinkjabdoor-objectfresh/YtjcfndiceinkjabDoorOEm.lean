/- A block of an Enc, as it is built. -/
import Derived.Test.YtjcfndiceinkjabDoorOB14
import Derived.Great.FillDense
import Derived.Laws.Tables
import Derived.Deep.RegionLaw
import Derived.Lib.ConvBytes
namespace Go.Proofs.YtjcfndiceinkjabDoor
set_option linter.unusedVariables false
set_option linter.unusedSimpArgs false
open Go.RowKit

theorem built_block : ∃ Z : Array Value, Z.size = 257 ∧ ∀ parts, Tryd.prog.built 86 parts = Instr.fill (fun i => #[(0, 1), (1, 256)][i]?) Z parts :=
  ⟨(((Tryd.prog.info? 86).bind (·.zero)).getD undef).cells, by kernel_rfl, fun parts => by kernel_rfl⟩
theorem build_block (p : Option Addr) (cs : List Value) (h : cs.length = 256) (W : World) : (Instr.build 86 #[(0, .pointer p), (1, .agg cs.toArray)]).run Tryd.prog W = .ok (.agg (.pointer p :: cs).toArray) W := by
  refine run_build W _ _ _ ?_
  obtain ⟨Z, hZ, hb⟩ := built_block
  rw [hb]
  obtain ⟨a1, a2⟩ := Go.Great.foldl_set 0 [Value.pointer p] 0 Z
  obtain ⟨b1, b2⟩ := Go.Great.foldl_set 1 cs 0 (([Value.pointer p].zipIdx 0).foldl (fun cs (x : Value × Nat) => cs.setIfInBounds (0 + x.2) x.1) Z)
  have key : Instr.fill (fun i => #[(0, 1), (1, 256)][i]?) Z [(0, .pointer p), (1, .agg cs.toArray)] = some ((cs.zipIdx 0).foldl (fun cs (x : Value × Nat) => cs.setIfInBounds (1 + x.2) x.1) (([Value.pointer p].zipIdx 0).foldl (fun cs (x : Value × Nat) => cs.setIfInBounds (0 + x.2) x.1) Z)) := by
    unfold Instr.fill
    simp [Value.cells, h, hZ]
    unfold Instr.fill
    simp [Value.cells, h, hZ]
    unfold Instr.fill
    rfl
  rw [show (#[(0, Value.pointer p), (1, Value.agg cs.toArray)] : Array (Nat × Value)).toList = [(0, .pointer p), (1, .agg cs.toArray)] from rfl, key]
  congr 1
  apply Array.ext_getElem?
  intro k
  rw [b2 k, a2 k, a1, hZ, h]
  cases k with
  | zero => simp
  | succ j =>
    by_cases hj : j < 256
    · rw [if_pos (by omega)]
      simp
    · rw [if_neg (by omega), if_neg (by simp), Array.getElem?_eq_none (by omega), Array.getElem?_eq_none (by simp; omega)]
end Go.Proofs.YtjcfndiceinkjabDoor

/- The statement that lays a full block: its region draws its order. -/
namespace Go.Proofs.YtjcfndiceinkjabDoor
set_option linter.unusedVariables false
set_option linter.unusedSimpArgs false
open Go.RowKit

def q0 (s : String) : Oper := { dst := some 38, op := .move (.tmp 0), type := 54, pos := s, after := #[], guard := none }
def q1 (s : String) : Oper := { dst := some 39, op := .move (.tmp 0), type := 54, pos := s, after := #[], guard := none }
def q2 (s : String) : Oper := { dst := some 40, op := .nilCheck (.tmp 39), type := 0, pos := s, after := #[{ on := 1, ground := .data }], guard := none }
def q3 (s : String) : Oper := { dst := some 41, op := .fieldAddr 82 (.tmp 40) 0, type := 0, pos := s, after := #[{ on := 2, ground := .data }], guard := none }
def q4 (s : String) : Oper := { dst := some 42, op := .load 79 (.tmp 41), type := 79, pos := s, after := #[{ on := 3, ground := .data }], guard := none }
def q5 (s : String) : Oper := { dst := some 43, op := .move (.tmp 0), type := 54, pos := s, after := #[], guard := none }
def q6 (s : String) : Oper := { dst := some 44, op := .nilCheck (.tmp 43), type := 0, pos := s, after := #[{ on := 5, ground := .data }], guard := none }
def q7 (s : String) : Oper := { dst := some 45, op := .fieldAddr 82 (.tmp 44) 1, type := 0, pos := s, after := #[{ on := 6, ground := .data }], guard := none }
def q8 (s : String) : Oper := { dst := some 46, op := .load 80 (.tmp 45), type := 80, pos := s, after := #[{ on := 7, ground := .data }], guard := none }
def q9 (s : String) : Oper := { dst := some 47, op := .build 86 #[(0, .tmp 42), (1, .tmp 46)], type := 86, pos := s, after := #[{ on := 4, ground := .data }, { on := 8, ground := .data }], guard := none }
def q10 (s : String) : Oper := { dst := some 48, op := .box 86 (.tmp 47), type := 79, pos := s, after := #[{ on := 9, ground := .data }], guard := none }
def q11 (s : String) : Oper := { dst := some 49, op := .nilCheck (.tmp 38), type := 0, pos := s, after := #[{ on := 0, ground := .data }, { on := 0, ground := .phase }, { on := 1, ground := .phase }, { on := 2, ground := .phase }, { on := 3, ground := .phase }, { on := 4, ground := .phase }, { on := 5, ground := .phase }, { on := 6, ground := .phase }, { on := 7, ground := .phase }, { on := 8, ground := .phase }, { on := 9, ground := .phase }, { on := 10, ground := .phase }], guard := none }
def q12 (s : String) : Oper := { dst := some 50, op := .fieldAddr 82 (.tmp 49) 0, type := 0, pos := s, after := #[{ on := 11, ground := .data }, { on := 0, ground := .phase }, { on := 1, ground := .phase }, { on := 2, ground := .phase }, { on := 3, ground := .phase }, { on := 4, ground := .phase }, { on := 5, ground := .phase }, { on := 6, ground := .phase }, { on := 7, ground := .phase }, { on := 8, ground := .phase }, { on := 9, ground := .phase }, { on := 10, ground := .phase }], guard := none }
def q13 (s : String) : Oper := { dst := none, op := .store 79 (.tmp 50) (.tmp 48), type := 0, pos := s, after := #[{ on := 12, ground := .data }, { on := 10, ground := .data }, { on := 0, ground := .phase }, { on := 1, ground := .phase }, { on := 2, ground := .phase }, { on := 3, ground := .phase }, { on := 4, ground := .phase }, { on := 5, ground := .phase }, { on := 6, ground := .phase }, { on := 7, ground := .phase }, { on := 8, ground := .phase }, { on := 9, ground := .phase }, { on := 10, ground := .phase }], guard := none }
def ops6 (s : String) : Array Oper := #[q0 s, q1 s, q2 s, q3 s, q4 s, q5 s, q6 s, q7 s, q8 s, q9 s, q10 s, q11 s, q12 s, q13 s]
theorem loadPtr {w : World} {z : Nat} {p : Option Addr} (h : w.cell? ⟨z, 0, none⟩ = some (.pointer p)) : (Instr.loadAt 79 (.pointer (some ⟨z, 0, none⟩))).run Tryd.prog w = .ok (.pointer p) w := by
  have hu := Tryd.underlying79
  simp [go_sem, h, hu]
theorem step_load {op : Oper} {a : Act} {w : World} {K : Act → World → Prop} {Q : Exit → Act → World → Prop} (ty : TypeId) (x : Operand) (ho : op.op = .load ty x) (V : Value) (hr : (Instr.loadAt ty (a.eval x)).run Tryd.prog w = .ok V w) (h : K (a.put op.dst V) w) : op.wp Tryd.prog a w K Q := by
  unfold Oper.wp execOp
  simp only [ho, Sem.run_bind, Sem.run_pure, hr, Result.andThen_ok]
  exact h
theorem run_build_op {a : Act} {o : Oper} {t : TypeId} {x y : Operand} {i j : Nat} {r : Array Value} {w : World} (ho : o.op = .build t #[(i, x), (j, y)]) (h : (Instr.build t #[(i, a.eval x), (j, a.eval y)]).run Tryd.prog w = .ok (.agg r) w) : (execOp a.eval o).run Tryd.prog w = .ok (.value (.agg r)) w := by
  unfold execOp
  simp [ho, h, Result.andThen]
theorem step_run {op : Oper} {a : Act} {w w' : World} {K : Act → World → Prop} {Q : Exit → Act → World → Prop} {V : Value} (hr : (execOp a.eval op).run Tryd.prog w = .ok (.value V) w') (h : K (a.put op.dst V) w') : op.wp Tryd.prog a w K Q := by
  unfold Oper.wp
  rw [hr]
  exact h
theorem step_skip {op : Oper} {a : Act} {w w' : World} {K : Act → World → Prop} {Q : Exit → Act → World → Prop} (hr : (execOp a.eval op).run Tryd.prog w = .ok .skip w') (h : K (a.put op.dst undef) w') : op.wp Tryd.prog a w K Q := by
  unfold Oper.wp
  rw [hr]
  exact h
/-- What the temporaries hold behind the region. -/
def act6 (a : Act) (z : Nat) (p : Option Addr) (cs : List Value) (n : Nat) : Act :=
  ((((((a.put (some 38) (.pointer (some ⟨z, 0, none⟩))).put (some 39) (.pointer (some ⟨z, 0, none⟩))).put (some 40) (.pointer (some ⟨z, 0, none⟩))).put (some 41) (.pointer (some ⟨z, 0, none⟩))).put (some 43) (.pointer (some ⟨z, 0, none⟩))).put (some 44) (.pointer (some ⟨z, 0, none⟩))).put (some 45) (.pointer (some ⟨z, 1, none⟩))
theorem field0 (z : Nat) (w : World) : (Instr.fieldAt 82 (.pointer (some ⟨z, 0, none⟩)) 0).run Tryd.prog w = .ok (.pointer (some ⟨z, 0, none⟩)) w := by kernel_rfl
theorem field1 (z : Nat) (w : World) : (Instr.fieldAt 82 (.pointer (some ⟨z, 0, none⟩)) 1).run Tryd.prog w = .ok (.pointer (some ⟨z, 1, none⟩)) w := by kernel_rfl
theorem box_block (cells : Array Value) (hn : cells.size = 257) (w : World) : (Instr.box 86 (.agg cells)).run Tryd.prog w = .ok (.pointer (some ⟨w.heap.size, 0, none⟩)) (w.alloc (.cells cells 86)) := by
  simp [Instr.box, go_sem]
theorem store_ptr {w : World} {z : Nat} {p : Option Addr} (q : Option Addr) (h : w.cell? ⟨z, 0, none⟩ = some (.pointer p)) (hf : w.frozen? ⟨z, 0, none⟩ = false) : (Instr.storeAt 79 (.pointer (some ⟨z, 0, none⟩)) (.pointer q)).run Tryd.prog w = .ok () (w.setCell ⟨z, 0, none⟩ (.pointer q)) := by
  have hu := Tryd.underlying79
  simp [go_sem, h, hf, hu]

/-- The region behind its two loads. -/
theorem tail6 (s : String) {Q : Exit → Act → World → Prop} (hQ : ∀ c (a : Act) t v w, Q (.panic c) (a.put (some t) v) w → Q (.panic c) a w) (W : World) (z : Nat) (p : Option Addr) (cs : List Value) (hcl : cs.length = 256) (c0 : W.cell? ⟨z, 0, none⟩ = some (.pointer p)) (f0 : W.frozen? ⟨z, 0, none⟩ = false) (a : Act) (ha : a.tmps.size = 51) (h38 : a.eval (.tmp 38) = .pointer (some ⟨z, 0, none⟩)) (h42 : a.eval (.tmp 42) = .pointer p) (h46 : a.eval (.tmp 46) = .agg cs.toArray)
    (h : ∀ a', a'.tmps.size = 51 → a'.defers = a.defers → (∀ t, t < 38 → a'.eval (.tmp t) = a.eval (.tmp t)) → Q .normal a' (((W.drew).alloc (.cells (.pointer p :: cs).toArray 86)).setCell ⟨z, 0, none⟩ (.pointer (some ⟨W.heap.size, 0, none⟩)))) (listed : Array Bool) (hli : listed = #[true, true, true, true, true, true, true, true, true, false, false, false, false, false]) :
    wpAny Tryd.prog .any (ops6 s) Q 5 listed a W.drew := by
  subst hli
  refine wpAny_take (i := 9) (oi := q9 s) (v := .agg (.pointer p :: cs).toArray) (by kernel_rfl) (by kernel_rfl) (by kernel_rfl) (by kernel_rfl) (fun c a w h => hQ c _ _ _ w h) (Or.inl ⟨wanted_none rfl, fun w => run_build_op rfl (by rw [h42, h46]; exact build_block p cs hcl w)⟩) ?_
  obtain ⟨b, hb⟩ : ∃ rr : Act, rr = a.put (some 47) (.agg (.pointer p :: cs).toArray) := ⟨_, rfl⟩
  have sb : b.tmps.size = 51 := by rw [hb, sz_put]; exact ha
  have b47 : b.eval (.tmp 47) = .agg (.pointer p :: cs).toArray := by rw [hb]; exact ev_same _ _ _ (by rw [ha]; decide)
  have bo : ∀ t, t ≠ 47 → b.eval (.tmp t) = a.eval (.tmp t) := fun t ht => by rw [hb]; exact ev_other _ _ _ _ (fun e => ht e.symm)
  have bd : b.defers = a.defers := by rw [hb]; rfl
  change wpAny _ _ _ _ _ _ (a.put (some 47) (.agg (.pointer p :: cs).toArray)) _
  rw [← hb]
  clear hb
  refine wpAny_ready (rs := [10]) (by kernel_rfl) (by simp) ?_
  refine AllReady.cons (o := q10 s) (by kernel_rfl) (fun K hK => ?_) AllReady.nil
  rw [if_pos (wanted_none rfl)]
  refine step_run (by simp only [execOp, q10, b47, Sem.run_bind, Sem.run_pure, box_block (Value.pointer p :: cs).toArray (by simp [hcl]), Result.andThen_ok]; rfl) ?_
  refine hK _ _ ?_
  clear hK K
  obtain ⟨c, hc⟩ : ∃ rr : Act, rr = b.put (some 48) (.pointer (some ⟨W.drew.heap.size, 0, none⟩)) := ⟨_, rfl⟩
  have sc : c.tmps.size = 51 := by rw [hc, sz_put]; exact sb
  have vc : c.eval (.tmp 48) = (.pointer (some ⟨W.drew.heap.size, 0, none⟩)) := by rw [hc]; exact ev_same _ _ _ (by rw [sb]; decide)
  have oc : ∀ t, t ≠ 48 → c.eval (.tmp t) = b.eval (.tmp t) := fun t ht => by rw [hc]; exact ev_other _ _ _ _ (fun e => ht e.symm)
  have dc : c.defers = a.defers := by rw [hc]; exact bd
  change wpAny _ _ _ _ _ _ (b.put (some 48) (.pointer (some ⟨W.drew.heap.size, 0, none⟩))) _
  rw [← hc]
  clear hc
  refine wpAny_take (i := 11) (oi := q11 s) (v := .pointer (some ⟨z, 0, none⟩)) (by kernel_rfl) (by kernel_rfl) (by kernel_rfl) (by kernel_rfl) (fun c a w h => hQ c _ _ _ w h) (Or.inl ⟨wanted_none rfl, fun w => by
    have e : c.eval (.tmp 38) = .pointer (some ⟨z, 0, none⟩) := (oc 38 (by decide)).trans ((bo 38 (by decide)).trans h38)
    simp only [execOp, q11, e]; rfl⟩) ?_
  obtain ⟨d, hd⟩ : ∃ rr : Act, rr = c.put (some 49) (.pointer (some ⟨z, 0, none⟩)) := ⟨_, rfl⟩
  have sd : d.tmps.size = 51 := by rw [hd, sz_put]; exact sc
  have vd : d.eval (.tmp 49) = (.pointer (some ⟨z, 0, none⟩)) := by rw [hd]; exact ev_same _ _ _ (by rw [sc]; decide)
  have od : ∀ t, t ≠ 49 → d.eval (.tmp t) = c.eval (.tmp t) := fun t ht => by rw [hd]; exact ev_other _ _ _ _ (fun e => ht e.symm)
  have dd : d.defers = a.defers := by rw [hd]; exact dc
  change wpAny _ _ _ _ _ _ (c.put (some 49) (.pointer (some ⟨z, 0, none⟩))) _
  rw [← hd]
  clear hd
  refine wpAny_take (i := 12) (oi := q12 s) (v := .pointer (some ⟨z, 0, none⟩)) (by kernel_rfl) (by kernel_rfl) (by kernel_rfl) (by kernel_rfl) (fun c a w h => hQ c _ _ _ w h) (Or.inl ⟨wanted_none rfl, fun w => by simp [execOp, q12, vd, field0]⟩) ?_
  obtain ⟨f, hf⟩ : ∃ rr : Act, rr = d.put (some 50) (.pointer (some ⟨z, 0, none⟩)) := ⟨_, rfl⟩
  have sf : f.tmps.size = 51 := by rw [hf, sz_put]; exact sd
  have vf : f.eval (.tmp 50) = (.pointer (some ⟨z, 0, none⟩)) := by rw [hf]; exact ev_same _ _ _ (by rw [sd]; decide)
  have of : ∀ t, t ≠ 50 → f.eval (.tmp t) = d.eval (.tmp t) := fun t ht => by rw [hf]; exact ev_other _ _ _ _ (fun e => ht e.symm)
  have df : f.defers = a.defers := by rw [hf]; exact dd
  change wpAny _ _ _ _ _ _ (d.put (some 50) (.pointer (some ⟨z, 0, none⟩))) _
  rw [← hf]
  clear hf
  have e48 : f.eval (.tmp 48) = .pointer (some ⟨W.drew.heap.size, 0, none⟩) := (of 48 (by decide)).trans ((od 48 (by decide)).trans vc)
  have hz : z < W.drew.heap.size := World.block_lt_of_cell? W _ c0
  refine wpAny_ready (rs := [13]) (by kernel_rfl) (by simp) ?_
  refine AllReady.cons (o := q13 s) (by kernel_rfl) (fun K hK => ?_) AllReady.nil
  rw [if_pos (wanted_none rfl)]
  refine step_skip (w' := ((W.drew).alloc (.cells (.pointer p :: cs).toArray 86)).setCell ⟨z, 0, none⟩ (.pointer (some ⟨W.heap.size, 0, none⟩))) (by
    have c1 : (W.drew.alloc (.cells (.pointer p :: cs).toArray 86)).cell? ⟨z, 0, none⟩ = some (.pointer p) := (World.cell?_alloc_lt _ _ _ hz).trans c0
    have f1 : (W.drew.alloc (.cells (.pointer p :: cs).toArray 86)).frozen? ⟨z, 0, none⟩ = false := (World.frozen?_alloc_past _ _ _ hz).trans f0
    simp only [execOp, q13, vf, e48]
    rw [Sem.run_bind, store_ptr _ c1 f1]
    rfl) ?_
  refine hK _ _ ?_
  clear hK K
  refine wpAny_done (by kernel_rfl) ?_ _
  refine h _ ?_ ?_ ?_
  · exact sf
  · exact df
  · intro t ht
    exact (of t (Nat.ne_of_lt (Nat.lt_of_lt_of_le ht (by decide)))).trans ((od t (Nat.ne_of_lt (Nat.lt_of_lt_of_le ht (by decide)))).trans ((oc t (Nat.ne_of_lt (Nat.lt_of_lt_of_le ht (by decide)))).trans (bo t (Nat.ne_of_lt (Nat.lt_of_lt_of_le ht (by decide))))))

theorem region6 (s : String) {Q : Exit → Act → World → Prop} (hQ : ∀ c (a : Act) t v w, Q (.panic c) (a.put (some t) v) w → Q (.panic c) a w) (W : World) (z : Nat) (p : Option Addr) (cs : List Value) (hcl : cs.length = 256) (hrg : W.rangeAt z 1 cs) (c0 : W.cell? ⟨z, 0, none⟩ = some (.pointer p)) (f0 : W.frozen? ⟨z, 0, none⟩ = false) (a : Act) (ha : a.tmps.size = 51) (h0 : a.eval (.tmp 0) = .pointer (some ⟨z, 0, none⟩))
    (h : ∀ a', a'.tmps.size = 51 → a'.defers = a.defers → (∀ t, t < 38 → a'.eval (.tmp t) = a.eval (.tmp t)) → Q .normal a' (((W.drew).alloc (.cells (.pointer p :: cs).toArray 86)).setCell ⟨z, 0, none⟩ (.pointer (some ⟨W.heap.size, 0, none⟩)))) :
    Code.wp Tryd.prog (.region 6 (ops6 s) true) Q a W := by
  refine wp_region_any (by kernel_rfl) ?_
  change wpAny _ _ _ _ _ _ _ (World.drew _)
  refine wpAny_take (i := 0) (oi := q0 s) (v := (.pointer (some ⟨z, 0, none⟩))) (by kernel_rfl) (by kernel_rfl) (by kernel_rfl) (by kernel_rfl) (fun c a w h => hQ c _ _ _ w h) (Or.inl ⟨wanted_none rfl, fun w => by simp [execOp, q0, h0]⟩) ?_
  obtain ⟨a1, ha1⟩ : ∃ rr : Act, rr = a.put (some 38) (.pointer (some ⟨z, 0, none⟩)) := ⟨_, rfl⟩
  have s1 : a1.tmps.size = 51 := by rw [ha1, sz_put]; exact ha
  have g1 : a1.eval (.tmp 38) = (.pointer (some ⟨z, 0, none⟩)) := by rw [ha1]; exact ev_same _ _ _ (by rw [ha]; decide)
  have o1 : ∀ t, t ≠ 38 → a1.eval (.tmp t) = a.eval (.tmp t) := fun t ht => by rw [ha1]; exact ev_other _ _ _ _ (fun e => ht e.symm)
  have d1 : a1.defers = a.defers := by rw [ha1]; rfl
  change wpAny _ _ _ _ _ _ (a.put (some 38) (.pointer (some ⟨z, 0, none⟩))) _
  rw [← ha1]
  clear ha1
  have z1 : a1.eval (.tmp 0) = .pointer (some ⟨z, 0, none⟩) := (o1 0 (by decide)).trans h0
  have e1_38 := g1
  refine wpAny_take (i := 1) (oi := q1 s) (v := (.pointer (some ⟨z, 0, none⟩))) (by kernel_rfl) (by kernel_rfl) (by kernel_rfl) (by kernel_rfl) (fun c a w h => hQ c _ _ _ w h) (Or.inl ⟨wanted_none rfl, fun w => by simp [execOp, q1, z1]⟩) ?_
  obtain ⟨a2, ha2⟩ : ∃ rr : Act, rr = a1.put (some 39) (.pointer (some ⟨z, 0, none⟩)) := ⟨_, rfl⟩
  have s2 : a2.tmps.size = 51 := by rw [ha2, sz_put]; exact s1
  have g2 : a2.eval (.tmp 39) = (.pointer (some ⟨z, 0, none⟩)) := by rw [ha2]; exact ev_same _ _ _ (by rw [s1]; decide)
  have o2 : ∀ t, t ≠ 39 → a2.eval (.tmp t) = a1.eval (.tmp t) := fun t ht => by rw [ha2]; exact ev_other _ _ _ _ (fun e => ht e.symm)
  have d2 : a2.defers = a.defers := by rw [ha2]; exact d1
  change wpAny _ _ _ _ _ _ (a1.put (some 39) (.pointer (some ⟨z, 0, none⟩))) _
  rw [← ha2]
  clear ha2
  have z2 : a2.eval (.tmp 0) = .pointer (some ⟨z, 0, none⟩) := (o2 0 (by decide)).trans z1
  have e2_38 : a2.eval (.tmp 38) = (.pointer (some ⟨z, 0, none⟩)) := (o2 38 (by decide)).trans e1_38
  have e2_39 := g2
  refine wpAny_take (i := 2) (oi := q2 s) (v := (.pointer (some ⟨z, 0, none⟩))) (by kernel_rfl) (by kernel_rfl) (by kernel_rfl) (by kernel_rfl) (fun c a w h => hQ c _ _ _ w h) (Or.inl ⟨wanted_none rfl, fun w => by have e := e2_39; simp only [execOp, q2, e]; first | rfl | (simp [go_sem]; done)⟩) ?_
  obtain ⟨a3, ha3⟩ : ∃ rr : Act, rr = a2.put (some 40) (.pointer (some ⟨z, 0, none⟩)) := ⟨_, rfl⟩
  have s3 : a3.tmps.size = 51 := by rw [ha3, sz_put]; exact s2
  have g3 : a3.eval (.tmp 40) = (.pointer (some ⟨z, 0, none⟩)) := by rw [ha3]; exact ev_same _ _ _ (by rw [s2]; decide)
  have o3 : ∀ t, t ≠ 40 → a3.eval (.tmp t) = a2.eval (.tmp t) := fun t ht => by rw [ha3]; exact ev_other _ _ _ _ (fun e => ht e.symm)
  have d3 : a3.defers = a.defers := by rw [ha3]; exact d2
  change wpAny _ _ _ _ _ _ (a2.put (some 40) (.pointer (some ⟨z, 0, none⟩))) _
  rw [← ha3]
  clear ha3
  have z3 : a3.eval (.tmp 0) = .pointer (some ⟨z, 0, none⟩) := (o3 0 (by decide)).trans z2
  have e3_38 : a3.eval (.tmp 38) = (.pointer (some ⟨z, 0, none⟩)) := (o3 38 (by decide)).trans e2_38
  have e3_39 : a3.eval (.tmp 39) = (.pointer (some ⟨z, 0, none⟩)) := (o3 39 (by decide)).trans e2_39
  have e3_40 := g3
  refine wpAny_take (i := 3) (oi := q3 s) (v := (.pointer (some ⟨z, 0, none⟩))) (by kernel_rfl) (by kernel_rfl) (by kernel_rfl) (by kernel_rfl) (fun c a w h => hQ c _ _ _ w h) (Or.inl ⟨wanted_none rfl, fun w => by have e := e3_40; simp [execOp, q3, e, field0]⟩) ?_
  obtain ⟨a4, ha4⟩ : ∃ rr : Act, rr = a3.put (some 41) (.pointer (some ⟨z, 0, none⟩)) := ⟨_, rfl⟩
  have s4 : a4.tmps.size = 51 := by rw [ha4, sz_put]; exact s3
  have g4 : a4.eval (.tmp 41) = (.pointer (some ⟨z, 0, none⟩)) := by rw [ha4]; exact ev_same _ _ _ (by rw [s3]; decide)
  have o4 : ∀ t, t ≠ 41 → a4.eval (.tmp t) = a3.eval (.tmp t) := fun t ht => by rw [ha4]; exact ev_other _ _ _ _ (fun e => ht e.symm)
  have d4 : a4.defers = a.defers := by rw [ha4]; exact d3
  change wpAny _ _ _ _ _ _ (a3.put (some 41) (.pointer (some ⟨z, 0, none⟩))) _
  rw [← ha4]
  clear ha4
  have z4 : a4.eval (.tmp 0) = .pointer (some ⟨z, 0, none⟩) := (o4 0 (by decide)).trans z3
  have e4_38 : a4.eval (.tmp 38) = (.pointer (some ⟨z, 0, none⟩)) := (o4 38 (by decide)).trans e3_38
  have e4_39 : a4.eval (.tmp 39) = (.pointer (some ⟨z, 0, none⟩)) := (o4 39 (by decide)).trans e3_39
  have e4_40 : a4.eval (.tmp 40) = (.pointer (some ⟨z, 0, none⟩)) := (o4 40 (by decide)).trans e3_40
  have e4_41 := g4
  refine wpAny_take (i := 5) (oi := q5 s) (v := (.pointer (some ⟨z, 0, none⟩))) (by kernel_rfl) (by kernel_rfl) (by kernel_rfl) (by kernel_rfl) (fun c a w h => hQ c _ _ _ w h) (Or.inl ⟨wanted_none rfl, fun w => by simp [execOp, q5, z4]⟩) ?_
  obtain ⟨a5, ha5⟩ : ∃ rr : Act, rr = a4.put (some 43) (.pointer (some ⟨z, 0, none⟩)) := ⟨_, rfl⟩
  have s5 : a5.tmps.size = 51 := by rw [ha5, sz_put]; exact s4
  have g5 : a5.eval (.tmp 43) = (.pointer (some ⟨z, 0, none⟩)) := by rw [ha5]; exact ev_same _ _ _ (by rw [s4]; decide)
  have o5 : ∀ t, t ≠ 43 → a5.eval (.tmp t) = a4.eval (.tmp t) := fun t ht => by rw [ha5]; exact ev_other _ _ _ _ (fun e => ht e.symm)
  have d5 : a5.defers = a.defers := by rw [ha5]; exact d4
  change wpAny _ _ _ _ _ _ (a4.put (some 43) (.pointer (some ⟨z, 0, none⟩))) _
  rw [← ha5]
  clear ha5
  have z5 : a5.eval (.tmp 0) = .pointer (some ⟨z, 0, none⟩) := (o5 0 (by decide)).trans z4
  have e5_38 : a5.eval (.tmp 38) = (.pointer (some ⟨z, 0, none⟩)) := (o5 38 (by decide)).trans e4_38
  have e5_39 : a5.eval (.tmp 39) = (.pointer (some ⟨z, 0, none⟩)) := (o5 39 (by decide)).trans e4_39
  have e5_40 : a5.eval (.tmp 40) = (.pointer (some ⟨z, 0, none⟩)) := (o5 40 (by decide)).trans e4_40
  have e5_41 : a5.eval (.tmp 41) = (.pointer (some ⟨z, 0, none⟩)) := (o5 41 (by decide)).trans e4_41
  have e5_43 := g5
  refine wpAny_take (i := 6) (oi := q6 s) (v := (.pointer (some ⟨z, 0, none⟩))) (by kernel_rfl) (by kernel_rfl) (by kernel_rfl) (by kernel_rfl) (fun c a w h => hQ c _ _ _ w h) (Or.inl ⟨wanted_none rfl, fun w => by have e := e5_43; simp only [execOp, q6, e]; first | rfl | (simp [go_sem]; done)⟩) ?_
  obtain ⟨a6, ha6⟩ : ∃ rr : Act, rr = a5.put (some 44) (.pointer (some ⟨z, 0, none⟩)) := ⟨_, rfl⟩
  have s6 : a6.tmps.size = 51 := by rw [ha6, sz_put]; exact s5
  have g6 : a6.eval (.tmp 44) = (.pointer (some ⟨z, 0, none⟩)) := by rw [ha6]; exact ev_same _ _ _ (by rw [s5]; decide)
  have o6 : ∀ t, t ≠ 44 → a6.eval (.tmp t) = a5.eval (.tmp t) := fun t ht => by rw [ha6]; exact ev_other _ _ _ _ (fun e => ht e.symm)
  have d6 : a6.defers = a.defers := by rw [ha6]; exact d5
  change wpAny _ _ _ _ _ _ (a5.put (some 44) (.pointer (some ⟨z, 0, none⟩))) _
  rw [← ha6]
  clear ha6
  have z6 : a6.eval (.tmp 0) = .pointer (some ⟨z, 0, none⟩) := (o6 0 (by decide)).trans z5
  have e6_38 : a6.eval (.tmp 38) = (.pointer (some ⟨z, 0, none⟩)) := (o6 38 (by decide)).trans e5_38
  have e6_39 : a6.eval (.tmp 39) = (.pointer (some ⟨z, 0, none⟩)) := (o6 39 (by decide)).trans e5_39
  have e6_40 : a6.eval (.tmp 40) = (.pointer (some ⟨z, 0, none⟩)) := (o6 40 (by decide)).trans e5_40
  have e6_41 : a6.eval (.tmp 41) = (.pointer (some ⟨z, 0, none⟩)) := (o6 41 (by decide)).trans e5_41
  have e6_43 : a6.eval (.tmp 43) = (.pointer (some ⟨z, 0, none⟩)) := (o6 43 (by decide)).trans e5_43
  have e6_44 := g6
  refine wpAny_take (i := 7) (oi := q7 s) (v := (.pointer (some ⟨z, 1, none⟩))) (by kernel_rfl) (by kernel_rfl) (by kernel_rfl) (by kernel_rfl) (fun c a w h => hQ c _ _ _ w h) (Or.inl ⟨wanted_none rfl, fun w => by have e := e6_44; simp [execOp, q7, e, field1]⟩) ?_
  obtain ⟨a7, ha7⟩ : ∃ rr : Act, rr = a6.put (some 45) (.pointer (some ⟨z, 1, none⟩)) := ⟨_, rfl⟩
  have s7 : a7.tmps.size = 51 := by rw [ha7, sz_put]; exact s6
  have g7 : a7.eval (.tmp 45) = (.pointer (some ⟨z, 1, none⟩)) := by rw [ha7]; exact ev_same _ _ _ (by rw [s6]; decide)
  have o7 : ∀ t, t ≠ 45 → a7.eval (.tmp t) = a6.eval (.tmp t) := fun t ht => by rw [ha7]; exact ev_other _ _ _ _ (fun e => ht e.symm)
  have d7 : a7.defers = a.defers := by rw [ha7]; exact d6
  change wpAny _ _ _ _ _ _ (a6.put (some 45) (.pointer (some ⟨z, 1, none⟩))) _
  rw [← ha7]
  clear ha7
  have z7 : a7.eval (.tmp 0) = .pointer (some ⟨z, 0, none⟩) := (o7 0 (by decide)).trans z6
  have e7_38 : a7.eval (.tmp 38) = (.pointer (some ⟨z, 0, none⟩)) := (o7 38 (by decide)).trans e6_38
  have e7_39 : a7.eval (.tmp 39) = (.pointer (some ⟨z, 0, none⟩)) := (o7 39 (by decide)).trans e6_39
  have e7_40 : a7.eval (.tmp 40) = (.pointer (some ⟨z, 0, none⟩)) := (o7 40 (by decide)).trans e6_40
  have e7_41 : a7.eval (.tmp 41) = (.pointer (some ⟨z, 0, none⟩)) := (o7 41 (by decide)).trans e6_41
  have e7_43 : a7.eval (.tmp 43) = (.pointer (some ⟨z, 0, none⟩)) := (o7 43 (by decide)).trans e6_43
  have e7_44 : a7.eval (.tmp 44) = (.pointer (some ⟨z, 0, none⟩)) := (o7 44 (by decide)).trans e6_44
  have e7_45 := g7
  refine wpAny_ready (rs := [4, 8]) (by kernel_rfl) (by simp) ?_
  refine AllReady.cons (o := q4 s) (by kernel_rfl) (fun K hK => ?_) (AllReady.cons (o := q8 s) (by kernel_rfl) (fun K hK => ?_) AllReady.nil)
  · rw [if_pos (wanted_none rfl)]
    refine step_load 79 (.tmp 41) rfl (.pointer p) (by rw [e7_41]; exact loadPtr ((World.cell?_drew _ _).trans c0)) ?_
    refine hK _ _ ?_
    clear hK K
    obtain ⟨x, hx⟩ : ∃ rr : Act, rr = a7.put (some 42) (.pointer p) := ⟨_, rfl⟩
    have sx : x.tmps.size = 51 := by rw [hx, sz_put]; exact s7
    have vx : x.eval (.tmp 42) = (.pointer p) := by rw [hx]; exact ev_same _ _ _ (by rw [s7]; decide)
    have ox : ∀ t, t ≠ 42 → x.eval (.tmp t) = a7.eval (.tmp t) := fun t ht => by rw [hx]; exact ev_other _ _ _ _ (fun e => ht e.symm)
    have dx : x.defers = a.defers := by rw [hx]; exact d7
    change wpAny _ _ _ _ _ _ (a7.put (some 42) (.pointer p)) _
    rw [← hx]
    clear hx
    refine wpAny_ready (rs := [8]) (by kernel_rfl) (by simp) ?_
    refine AllReady.cons (o := q8 s) (by kernel_rfl) (fun K hK => ?_) AllReady.nil
    rw [if_pos (wanted_none rfl)]
    refine wp_load_mid 80 (.tmp 45) rfl z 1 ((ox 45 (by decide)).trans e7_45) cs _ ((World.rangeAt_drew _ _ _ _).2 hrg) Tryd.underlying80 rfl (by rw [hcl]; kernel_rfl) ?_
    refine hK _ _ ?_
    clear hK K
    obtain ⟨y, hy⟩ : ∃ rr : Act, rr = x.put (some 46) (.agg cs.toArray) := ⟨_, rfl⟩
    have sy : y.tmps.size = 51 := by rw [hy, sz_put]; exact sx
    have vy : y.eval (.tmp 46) = (.agg cs.toArray) := by rw [hy]; exact ev_same _ _ _ (by rw [sx]; decide)
    have oy : ∀ t, t ≠ 46 → y.eval (.tmp t) = x.eval (.tmp t) := fun t ht => by rw [hy]; exact ev_other _ _ _ _ (fun e => ht e.symm)
    have dy : y.defers = a.defers := by rw [hy]; exact dx
    change wpAny _ _ _ _ _ _ (x.put (some 46) (.agg cs.toArray)) _
    rw [← hy]
    clear hy
    refine tail6 s hQ W z p cs hcl c0 f0 y ?_ ?_ ?_ ?_ (fun a' h1 h2 h3 => h a' h1 (h2.trans dy) (fun t ht => ?_)) _ (by kernel_rfl)
    · exact sy
    · exact (oy 38 (by decide)).trans ((ox 38 (by decide)).trans e7_38)
    · exact (oy 42 (by decide)).trans vx
    · exact vy
    · exact (h3 t ht).trans ((oy t (Nat.ne_of_lt (Nat.lt_of_lt_of_le ht (by decide)))).trans ((ox t (Nat.ne_of_lt (Nat.lt_of_lt_of_le ht (by decide)))).trans ((o7 t (Nat.ne_of_lt (Nat.lt_of_lt_of_le ht (by decide)))).trans ((o6 t (Nat.ne_of_lt (Nat.lt_of_lt_of_le ht (by decide)))).trans ((o5 t (Nat.ne_of_lt (Nat.lt_of_lt_of_le ht (by decide)))).trans ((o4 t (Nat.ne_of_lt (Nat.lt_of_lt_of_le ht (by decide)))).trans ((o3 t (Nat.ne_of_lt (Nat.lt_of_lt_of_le ht (by decide)))).trans ((o2 t (Nat.ne_of_lt (Nat.lt_of_lt_of_le ht (by decide)))).trans (o1 t (Nat.ne_of_lt (Nat.lt_of_lt_of_le ht (by decide))))))))))))
  · rw [if_pos (wanted_none rfl)]
    refine wp_load_mid 80 (.tmp 45) rfl z 1 e7_45 cs _ ((World.rangeAt_drew _ _ _ _).2 hrg) Tryd.underlying80 rfl (by rw [hcl]; kernel_rfl) ?_
    refine hK _ _ ?_
    clear hK K
    obtain ⟨x, hx⟩ : ∃ rr : Act, rr = a7.put (some 46) (.agg cs.toArray) := ⟨_, rfl⟩
    have sx : x.tmps.size = 51 := by rw [hx, sz_put]; exact s7
    have vx : x.eval (.tmp 46) = (.agg cs.toArray) := by rw [hx]; exact ev_same _ _ _ (by rw [s7]; decide)
    have ox : ∀ t, t ≠ 46 → x.eval (.tmp t) = a7.eval (.tmp t) := fun t ht => by rw [hx]; exact ev_other _ _ _ _ (fun e => ht e.symm)
    have dx : x.defers = a.defers := by rw [hx]; exact d7
    change wpAny _ _ _ _ _ _ (a7.put (some 46) (.agg cs.toArray)) _
    rw [← hx]
    clear hx
    refine wpAny_ready (rs := [4]) (by kernel_rfl) (by simp) ?_
    refine AllReady.cons (o := q4 s) (by kernel_rfl) (fun K hK => ?_) AllReady.nil
    rw [if_pos (wanted_none rfl)]
    refine step_load 79 (.tmp 41) rfl (.pointer p) (by rw [(show _ = _ from (ox 41 (by decide)).trans e7_41)]; exact loadPtr ((World.cell?_drew _ _).trans c0)) ?_
    refine hK _ _ ?_
    clear hK K
    obtain ⟨y, hy⟩ : ∃ rr : Act, rr = x.put (some 42) (.pointer p) := ⟨_, rfl⟩
    have sy : y.tmps.size = 51 := by rw [hy, sz_put]; exact sx
    have vy : y.eval (.tmp 42) = (.pointer p) := by rw [hy]; exact ev_same _ _ _ (by rw [sx]; decide)
    have oy : ∀ t, t ≠ 42 → y.eval (.tmp t) = x.eval (.tmp t) := fun t ht => by rw [hy]; exact ev_other _ _ _ _ (fun e => ht e.symm)
    have dy : y.defers = a.defers := by rw [hy]; exact dx
    change wpAny _ _ _ _ _ _ (x.put (some 42) (.pointer p)) _
    rw [← hy]
    clear hy
    refine tail6 s hQ W z p cs hcl c0 f0 y ?_ ?_ ?_ ?_ (fun a' h1 h2 h3 => h a' h1 (h2.trans dy) (fun t ht => ?_)) _ (by kernel_rfl)
    · exact sy
    · exact (oy 38 (by decide)).trans ((ox 38 (by decide)).trans e7_38)
    · exact vy
    · exact (oy 46 (by decide)).trans vx
    · exact (h3 t ht).trans ((oy t (Nat.ne_of_lt (Nat.lt_of_lt_of_le ht (by decide)))).trans ((ox t (Nat.ne_of_lt (Nat.lt_of_lt_of_le ht (by decide)))).trans ((o7 t (Nat.ne_of_lt (Nat.lt_of_lt_of_le ht (by decide)))).trans ((o6 t (Nat.ne_of_lt (Nat.lt_of_lt_of_le ht (by decide)))).trans ((o5 t (Nat.ne_of_lt (Nat.lt_of_lt_of_le ht (by decide)))).trans ((o4 t (Nat.ne_of_lt (Nat.lt_of_lt_of_le ht (by decide)))).trans ((o3 t (Nat.ne_of_lt (Nat.lt_of_lt_of_le ht (by decide)))).trans ((o2 t (Nat.ne_of_lt (Nat.lt_of_lt_of_le ht (by decide)))).trans (o1 t (Nat.ne_of_lt (Nat.lt_of_lt_of_le ht (by decide))))))))))))
theorem list51 (xs : List Value) (h : xs.length = 51) : ∃ y0 y1 y2 y3 y4 y5 y6 y7 y8 y9 y10 y11 y12 y13 y14 y15 y16 y17 y18 y19 y20 y21 y22 y23 y24 y25 y26 y27 y28 y29 y30 y31 y32 y33 y34 y35 y36 y37 y38 y39 y40 y41 y42 y43 y44 y45 y46 y47 y48 y49 y50, xs = y0 :: y1 :: y2 :: y3 :: y4 :: y5 :: y6 :: y7 :: y8 :: y9 :: y10 :: y11 :: y12 :: y13 :: y14 :: y15 :: y16 :: y17 :: y18 :: y19 :: y20 :: y21 :: y22 :: y23 :: y24 :: y25 :: y26 :: y27 :: y28 :: y29 :: y30 :: y31 :: y32 :: y33 :: y34 :: y35 :: y36 :: y37 :: y38 :: y39 :: y40 :: y41 :: y42 :: y43 :: y44 :: y45 :: y46 :: y47 :: y48 :: y49 :: y50 :: [] := by
  match xs, h with
  | y0 :: y1 :: y2 :: y3 :: y4 :: y5 :: y6 :: y7 :: y8 :: y9 :: y10 :: y11 :: y12 :: y13 :: y14 :: y15 :: y16 :: y17 :: y18 :: y19 :: y20 :: y21 :: y22 :: y23 :: y24 :: y25 :: y26 :: y27 :: y28 :: y29 :: y30 :: y31 :: y32 :: y33 :: y34 :: y35 :: y36 :: y37 :: y38 :: y39 :: y40 :: y41 :: y42 :: y43 :: y44 :: y45 :: y46 :: y47 :: y48 :: y49 :: y50 :: [], _ => exact ⟨y0, y1, y2, y3, y4, y5, y6, y7, y8, y9, y10, y11, y12, y13, y14, y15, y16, y17, y18, y19, y20, y21, y22, y23, y24, y25, y26, y27, y28, y29, y30, y31, y32, y33, y34, y35, y36, y37, y38, y39, y40, y41, y42, y43, y44, y45, y46, y47, y48, y49, y50, rfl⟩
theorem act51 (a : Act) (h : a.tmps.size = 51) (hd : a.defers = []) : ∃ y0 y1 y2 y3 y4 y5 y6 y7 y8 y9 y10 y11 y12 y13 y14 y15 y16 y17 y18 y19 y20 y21 y22 y23 y24 y25 y26 y27 y28 y29 y30 y31 y32 y33 y34 y35 y36 y37 y38 y39 y40 y41 y42 y43 y44 y45 y46 y47 y48 y49 y50, a = { tmps := (y0 :: y1 :: y2 :: y3 :: y4 :: y5 :: y6 :: y7 :: y8 :: y9 :: y10 :: y11 :: y12 :: y13 :: y14 :: y15 :: y16 :: y17 :: y18 :: y19 :: y20 :: y21 :: y22 :: y23 :: y24 :: y25 :: y26 :: y27 :: y28 :: y29 :: y30 :: y31 :: y32 :: y33 :: y34 :: y35 :: y36 :: y37 :: y38 :: y39 :: y40 :: y41 :: y42 :: y43 :: y44 :: y45 :: y46 :: y47 :: y48 :: y49 :: y50 :: []).toArray, defers := [] } := by
  obtain ⟨tmps, defers⟩ := a
  obtain ⟨l⟩ := tmps
  obtain ⟨y0, y1, y2, y3, y4, y5, y6, y7, y8, y9, y10, y11, y12, y13, y14, y15, y16, y17, y18, y19, y20, y21, y22, y23, y24, y25, y26, y27, y28, y29, y30, y31, y32, y33, y34, y35, y36, y37, y38, y39, y40, y41, y42, y43, y44, y45, y46, y47, y48, y49, y50, rfl⟩ := list51 l (by simpa using h)
  simp only at hd
  subst hd
  exact ⟨y0, y1, y2, y3, y4, y5, y6, y7, y8, y9, y10, y11, y12, y13, y14, y15, y16, y17, y18, y19, y20, y21, y22, y23, y24, y25, y26, y27, y28, y29, y30, y31, y32, y33, y34, y35, y36, y37, y38, y39, y40, y41, y42, y43, y44, y45, y46, y47, y48, y49, y50, rfl⟩
end Go.Proofs.YtjcfndiceinkjabDoor

/- An Enc: the blocks that are full, the bytes that wait; Raw. -/
namespace Go.Proofs.YtjcfndiceinkjabDoor
set_option linter.unusedVariables false
set_option linter.unusedSimpArgs false
open Go.RowKit

/-- The blocks that are full, from the last one back, and the bytes in them; none of them lies in X. -/
def ChainL (w : World) (X : Nat → Prop) : List Nat → Option Addr → List UInt8 → Prop
  | [], p, pre => p = none ∧ pre = []
  | b :: l, p, pre => p = some ⟨b, 0, none⟩ ∧ ¬ X b ∧ ∃ p' pre' blk, ChainL w X l p' pre' ∧ Blk w b (.pointer p' :: blk.map u8c).toArray 86 ∧ blk.length = 256 ∧ pre = pre' ++ blk
def Chain (w : World) (X : Nat → Prop) (p : Option Addr) (pre : List UInt8) : Prop := ∃ l, ChainL w X l p pre
theorem Chain.nil {w : World} {X : Nat → Prop} : Chain w X none [] := ⟨[], rfl, rfl⟩
theorem Chain.cons {w : World} {X : Nat → Prop} {p : Option Addr} {pre blk : List UInt8} {b : Nat} (h : Chain w X p pre) (hB : Blk w b (.pointer p :: blk.map u8c).toArray 86) (hl : blk.length = 256) (hX : ¬ X b) : Chain w X (some ⟨b, 0, none⟩) (pre ++ blk) := by
  obtain ⟨l, h⟩ := h
  exact ⟨b :: l, rfl, hX, p, pre, blk, h, hB, hl, rfl⟩
theorem Chain.last {w : World} {X : Nat → Prop} {p : Option Addr} {pre : List UInt8} (h : Chain w X p pre) : (p = none ∧ pre = []) ∨ ∃ p' pre' blk b, p = some ⟨b, 0, none⟩ ∧ pre = pre' ++ blk ∧ Chain w X p' pre' ∧ Blk w b (.pointer p' :: blk.map u8c).toArray 86 ∧ blk.length = 256 ∧ ¬ X b := by
  obtain ⟨l, h⟩ := h
  cases l with
  | nil => exact .inl h
  | cons b l =>
    obtain ⟨h1, h2, p', pre', blk, h3, h4, h5, h6⟩ := h
    exact .inr ⟨p', pre', blk, b, h1, h6, ⟨l, h3⟩, h4, h5, h2⟩
theorem ChainL.grown {w w' : World} {X : Nat → Prop} {row : Option Nat} (hg : w.grownBy w' row) (hr : ∀ b, some b = row → X b) : ∀ (l : List Nat) (p : Option Addr) (pre : List UInt8), ChainL w X l p pre → ChainL w' X l p pre
  | [], _, _, h => h
  | b :: l, _, _, h => by
    obtain ⟨h1, h2, p', pre', blk, h3, h4, h5, h6⟩ := h
    exact ⟨h1, h2, p', pre', blk, ChainL.grown hg hr l p' pre' h3, h4.grown hg (fun e => h2 (hr _ e)), h5, h6⟩
theorem Chain.grown {w w' : World} {X : Nat → Prop} {p : Option Addr} {pre : List UInt8} {row : Option Nat} (h : Chain w X p pre) (hg : w.grownBy w' row) (hr : ∀ b, some b = row → X b) : Chain w' X p pre := by
  obtain ⟨l, h⟩ := h
  exact ⟨l, ChainL.grown hg hr l p pre h⟩
theorem ChainL.mod {w : World} {X : Nat → Prop} : ∀ (l : List Nat) (p : Option Addr) (pre : List UInt8), ChainL w X l p pre → pre.length % 256 = 0
  | [], _, _, h => by rw [h.2]; rfl
  | b :: l, _, _, h => by
    obtain ⟨_, _, p', pre', blk, h3, _, h5, h6⟩ := h
    have := ChainL.mod l p' pre' h3
    rw [h6, List.length_append, h5]
    omega
theorem Chain.mod {w : World} {X : Nat → Prop} {p : Option Addr} {pre : List UInt8} (h : Chain w X p pre) : pre.length % 256 = 0 := by
  obtain ⟨l, h⟩ := h
  exact ChainL.mod l p pre h

def encCells (p : Option Addr) (tl : List UInt8) (n : Nat) : List Value := .pointer p :: (tl.map u8c ++ [.int .i64 (n : Int)])
/-- An Enc at z that has these bytes: the blocks in X are the only old ones that anybody writes to. -/
structure EncSt (w : World) (X : Nat → Prop) (z : Nat) (xs : List UInt8) : Prop where
  mem : X z
  lt : ∀ b, X b → b < w.heap.size
  at' : ∃ p pre part tl, Chain w X p pre ∧ xs = pre ++ part ∧ part.length < 256 ∧ tl.length = 256 ∧ tl.take part.length = part ∧ Blk w z (encCells p tl xs.length).toArray 82
theorem EncSt.grown {w w' : World} {X : Nat → Prop} {z : Nat} {xs : List UInt8} {row : Option Nat} (h : EncSt w X z xs) (hg : w.grownBy w' row) (hz : some z ≠ row) (hr : ∀ b, some b = row → X b) : EncSt w' X z xs := by
  obtain ⟨m, l, p, pre, part, tl, h1, h2, h3, h4, h5, h6⟩ := h
  exact ⟨m, fun b hb => Nat.lt_of_lt_of_le (l b hb) hg.size, p, pre, part, tl, h1.grown hg hr, h2, h3, h4, h5, h6.grown hg hz⟩

theorem splice_enc (p : Option Addr) (tl ck : List UInt8) (n r : Nat) (ht : tl.length = 256) (hr : r + ck.length ≤ 256) : splice (encCells p tl n) (r + 1) (ck.map u8c) = encCells p (splice tl r ck) n := by
  unfold splice encCells
  simp only [List.take_succ_cons, List.cons_append, List.length_map]
  congr 1
  rw [List.take_append_of_le_length (by simp; omega), show r + 1 + ck.length = (r + ck.length) + 1 by omega, List.drop_succ_cons, List.drop_append_of_le_length (by simp; omega)]
  simp [List.map_take, List.map_drop]

/-- The builtin copy into a row that came in. -/
theorem step_copy_enc {ops : Array Oper} {o : Oper} {a : Act} {w : World} {K : Act → World → Prop} {Q : Exit → Act → World → Prop} {E : Prop} (hgd : o.guard = none) (d s : Operand)
    (ho : o.op = .call { callee := .builtin .copy, args := #[d, s], argTypes := #[23, 23] })
    (z r : Nat) (dl dc sb so sl sc : Nat) (hd : a.eval d = .slice (some ⟨z, r + 1, none⟩) dl dc) (hs : a.eval s = .slice (some ⟨sb, so, none⟩) sl sc)
    (p : Option Addr) (tl : List UInt8) (n : Nat) (hg : Blk w z (encCells p tl n).toArray 82) (ht : tl.length = 256) (ck : List UInt8) (hn : ck.length = Nat.min sl dl) (hfit : r + ck.length ≤ 256)
    (hsrc : ∀ i (h : i < ck.length), w.cell? ⟨sb, so + i, none⟩ = some (u8c ck[i]))
    (h : ∀ w', Hid (Blk w' z (encCells p (splice tl r ck) n).toArray 82) → Hid (w.grownBy w' (some z)) → K (a.put o.dst (goInt ck.length)) w') :
    if Region.wanted o (yielded ops a.tmps) = true then Oper.wp Tryd.prog o a w K Q else E := by
  have hw : Region.wanted o (yielded ops a.tmps) = true := by simp [Region.wanted, hgd]
  rw [if_pos hw]
  have hrun := run_copy_row (P := Tryd.prog) w 23 23 o.type 5 z (r + 1) dl dc ⟨sb, so, none⟩ sl sc (encCells p tl n).toArray 82 (ck.map u8c) Tryd.underlying23 infoU8s hg (by simpa using hn)
    (fun j v hj => by rw [Addr.add_mid]; exact rangeRd hsrc j v hj) (by simp [encCells, ht]; omega) (u8c_one ck)
  unfold Oper.wp
  simp [execOp, ho, resolve, invoke, builtin, hd, hs, hrun, Result.andThen]
  have e := splice_enc p tl ck n r ht hfit
  unfold splice at e
  simp only [List.length_map] at e
  rw [show r + 1 + ck.length = (r + 1) + ck.length from rfl, e]
  exact h _ (hide (setRow_heap w z _ _ _ _ hg)) (hide ⟨rfl, rfl, rfl, by simp [World.setRow], fun k _ hne => setRow_other w z k _ (fun e => hne (by rw [e]))⟩)

theorem enc_size {p : Option Addr} {tl : List UInt8} {n : Nat} (ht : tl.length = 256) : (encCells p tl n).toArray.size = 258 := by simp [encCells, ht]
theorem enc_0 (p : Option Addr) (tl : List UInt8) (n : Nat) : (encCells p tl n).toArray[0]? = some (.pointer p) := by simp [encCells]
theorem enc_257 (p : Option Addr) (tl : List UInt8) (n : Nat) (ht : tl.length = 256) : (encCells p tl n).toArray[257]? = some (.int .i64 (n : Int)) := by
  unfold encCells
  rw [List.getElem?_toArray, List.getElem?_cons_succ, List.getElem?_append_right (by simp [ht])]
  simp [ht]
theorem enc_set257 (p : Option Addr) (tl : List UInt8) (n m : Nat) (ht : tl.length = 256) : (encCells p tl n).toArray.setIfInBounds 257 (.int .i64 (m : Int)) = (encCells p tl m).toArray := by
  apply Array.ext'
  rw [Array.toList_setIfInBounds]
  simp only [encCells, List.set_cons_succ]
  rw [List.set_append_right _ _ (by simp [ht])]
  simp [ht]
theorem enc_set0 (p q : Option Addr) (tl : List UInt8) (n : Nat) : (encCells p tl n).toArray.setIfInBounds 0 (.pointer q) = (encCells q tl n).toArray := by
  apply Array.ext'
  rw [Array.toList_setIfInBounds]
  simp [encCells]

theorem slice256 (z o r : Nat) (hr : r < 256) (W : World) : (Instr.sliceAt 80 (.pointer (some ⟨z, o, none⟩)) (some (.int .i64 (r : Int))) none none).run Tryd.prog W = .ok (.slice (some ⟨z, r + o, none⟩) (256 - r) (256 - r)) W := by
  have ha : Tryd.prog.arrayLen 80 = 256 := by kernel_rfl
  have hs : (sizeOf (Tryd.prog.elem 80)).run Tryd.prog W = .ok 1 W := by kernel_rfl
  rw [run_sliceAt_array_l W 80 ⟨z, o, none⟩ (by kernel_rfl) .i64 r (by omega) (by rw [ha]; omega), hs, ha]
  simp only [Result.andThen, slicedAt, Int.toNat_natCast, Nat.mul_one]
  rw [if_neg (by omega), Addr.add_mid, Nat.add_comm]

theorem sliceCut (b o L c q : Nat) (h1 : q ≤ L) (h2 : L ≤ c) : ∃ o', (q < L → o' = o + q) ∧ (∀ W : World, (Instr.slice 23 (.slice (some ⟨b, o, none⟩) L c) (some (.int .i64 (q : Int))) none none).run Tryd.prog W = .ok (.slice (some ⟨b, o', none⟩) (L - q) (c - q)) W) ∧
    (∀ W : World, (Instr.sliceAt 23 (.slice (some ⟨b, o, none⟩) L c) (some (.int .i64 (q : Int))) none none).run Tryd.prog W = .ok (.slice (some ⟨b, o', none⟩) (L - q) (c - q)) W) := by
  have hs : ∀ W : World, (sizeOf (Tryd.prog.elem 23)).run Tryd.prog W = .ok 1 W := fun W => by kernel_rfl
  have hu : Tryd.prog.underlying 23 = some (.slice (Tryd.prog.elem 23)) := by kernel_rfl
  have key : ∀ W : World, (Instr.slice 23 (.slice (some ⟨b, o, none⟩) L c) (some (.int .i64 (q : Int))) none none).run Tryd.prog W = .ok (sliced (some ⟨b, o, none⟩) q L c 1) W := fun W => by
    rw [run_slice_l W 23 (some ⟨b, o, none⟩) L c hu .i64 q (by omega) (by omega), hs]
    simp [Result.andThen]
  refine ⟨if c = q then o else o + q, fun h => if_neg (by omega), fun W => ?_, fun W => ?_⟩
  · rw [key]; unfold sliced; split <;> simp_all [Addr.add_mid]
  · rw [run_sliceAt_slice _ _ _ _ _ _ hu, key]; unfold sliced; split <;> simp_all [Addr.add_mid]

theorem load256 {w : World} {z : Nat} {p : Option Addr} {tl : List UInt8} {n : Nat} {t : TypeId} (h : Blk w z (encCells p tl n).toArray t) (ht : tl.length = 256) : (loadVar 80 ⟨z, 1, none⟩).run Tryd.prog w = .ok (.agg (tl.map u8c).toArray) w :=
  run_loadVar_mid (P := Tryd.prog) w z 1 80 (tl.map u8c) _ (fun j v hj => by
    rw [h.cell, List.getElem?_toArray, encCells, Nat.add_comm, List.getElem?_cons_succ, List.getElem?_append_left (by
      rcases Nat.lt_or_ge j (tl.map u8c).length with g | g
      · exact g
      · rw [List.getElem?_eq_none g] at hj; cases hj)]
    exact hj) Tryd.underlying80 rfl (by rw [List.length_map, ht]; kernel_rfl)

theorem rangeTail {w : World} {z : Nat} {p : Option Addr} {tl : List UInt8} {n : Nat} {t : TypeId} (h : Blk w z (encCells p tl n).toArray t) : w.rangeAt z 1 (tl.map u8c) := fun j v hj => by
  rw [h.cell, List.getElem?_toArray, encCells, Nat.add_comm, List.getElem?_cons_succ, List.getElem?_append_left (by
    rcases Nat.lt_or_ge j (tl.map u8c).length with g | g
    · exact g
    · rw [List.getElem?_eq_none g] at hj; cases hj)]
  exact hj
theorem range_set0 {w : World} {z : Nat} {cs : List Value} (h : w.rangeAt z 1 cs) (b : Nat) (v : Value) : (w.setCell ⟨b, 0, none⟩ v).rangeAt z 1 cs := fun j u hj => by
  rw [World.cell?_setCell_other _ _ _ _ (fun e => by injection e; omega)]
  exact h j u hj

theorem splice_take (tl ck : List UInt8) (r : Nat) (hr : r ≤ tl.length) : (splice tl r ck).take (r + ck.length) = tl.take r ++ ck := by
  unfold splice
  rw [List.take_append, List.length_take, Nat.min_eq_left hr, List.take_of_length_le (by simp; omega), Nat.add_sub_cancel_left, List.take_append, List.take_of_length_le (Nat.le_refl _)]
  simp
theorem take_more (ys : List UInt8) (k q : Nat) : ys.take (k + q) = ys.take k ++ (ys.drop k).take q := List.take_add

/-- What a round of Raw leaves: the bytes that were copied, the size. -/
theorem raw_round {wr w' : World} {X : Nat → Prop} {z b o o' L c k q r N M : Nat} {xs ys ck tl tl' pre part : List UInt8} {p : Option Addr} (hX : X z ∧ ∀ b, X b → b < wr.heap.size) (hch : Chain wr X p pre) (h2 : xs ++ ys.take k = pre ++ part) (h5 : tl.take r = part) (h4 : tl.length = 256) (hr : part.length = r)
    (hck : ck = (ys.drop k).take q) (hckl : ck.length = q) (htl : tl' = splice tl r ck) (ht' : tl'.length = 256) (hN : xs.length + k = N) (hM : N + q = M) (hk : k + q ≤ ys.length) (hL : ys.length - k = L) (hc : L ≤ c) (hbz : b ≠ z) (ho : q < L → o' = o + q) (hcm : c ≤ maxLen)
    (hcell : ∀ i (h : i < (ys.drop k).length), wr.cell? ⟨b, o + i, none⟩ = some (u8c (ys.drop k)[i])) (hg : wr.grownBy w' (some z)) :
    Rd w' (.slice (some ⟨b, o', none⟩) (L - q) (c - q)) (ys.drop (k + q)) ∧ (r + q < 256 → Blk w' z (encCells p tl' M).toArray 82 → EncSt w' X z (xs ++ ys.take (k + q))) ∧
      (r + q = 256 → ∀ n, ¬ X n → Blk w' n (.pointer p :: tl'.map u8c).toArray 86 → Blk w' z (encCells (some ⟨n, 0, none⟩) tl' M).toArray 82 → EncSt w' X z (xs ++ ys.take (k + q))) := by
  have hch' : Chain w' X p pre := hch.grown hg (fun b e => by rw [Option.some.inj e]; exact hX.1)
  have hxs : xs ++ ys.take (k + q) = pre ++ (part ++ ck) := by rw [take_more, ← List.append_assoc, h2, hck, List.append_assoc]
  have hMl : (xs ++ ys.take (k + q)).length = M := by simp; omega
  have htk : tl'.take (r + q) = part ++ ck := by rw [htl, ← hckl, splice_take _ _ _ (by rw [h4, ← hr, ← h5]; simp; omega), h5]
  have hlt : ∀ b, X b → b < w'.heap.size := fun b hb => Nat.lt_of_lt_of_le (hX.2 b hb) hg.size
  refine ⟨⟨some ⟨b, o', none⟩, c - q, ?_, ?_, by omega, .inr ⟨b, o', rfl, fun i hi => ?_⟩⟩, fun hlt2 hB => ⟨hX.1, hlt, p, pre, part ++ ck, tl', hch', hxs, by rw [List.length_append]; omega, ht', by rw [List.length_append, hr, hckl]; exact htk, by rw [hMl]; exact hB⟩,
    fun hfull n hn hbk hB => ⟨hX.1, hlt, some ⟨n, 0, none⟩, pre ++ (part ++ ck), [], tl', ?_, by rw [List.append_nil]; exact hxs, by decide, ht', rfl, by rw [hMl]; exact hB⟩⟩
  · congr 1; simp; omega
  · simp; omega
  · have hi' : i < ys.length - (k + q) := by simpa using hi
    rw [ho (by omega)]
    have := hcell (q + i) (by simp; omega)
    have e : w'.cell? ⟨b, o + (q + i), none⟩ = wr.cell? ⟨b, o + (q + i), none⟩ := by
      have hb := World.block_lt_of_cell? wr _ this
      unfold World.cell?
      simp only
      rw [hg.block b hb (fun e => hbz (Option.some.inj e))]
    rw [show o + q + i = o + (q + i) by omega, e, this]
    congr 2
    simp [Nat.add_assoc]
  · have e : tl' = part ++ ck := by
      rw [← htk, hfull, ← ht', List.take_length]
    refine .cons hch' ?_ (by rw [List.length_append]; omega) hn
    rw [← e]
    exact hbk

def RawE (w : World) (X : Nat → Prop) (z : Nat) (xs : List UInt8) (e : Ending) (w' : World) : Prop :=
  e = .returned (.tuple #[]) ∧ EncSt w' X z xs ∧ w.grownBy w' (some z)

set_option maxRecDepth 20000 in
set_option maxHeartbeats 3200000 in
theorem raw_enc (w : World) (X : Nat → Prop) (z : Nat) (xs ys : List UInt8) (v : Value) (h : EncSt w X z xs) (hv : Rd w v ys) (hne : ∀ b o l c, v = .slice (some ⟨b, o, none⟩) l c → b ≠ z) (hlen : xs.length + ys.length ≤ 4611686018427387904) :
    Calls Tryd.prog 77 #[.pointer (some ⟨z, 0, none⟩), v] w (RawE w X z (xs ++ ys)) := by
  have HNE := hide hne
  have H := hide h
  have HV := hide hv
  clear h hv hne
  go_enter Tryd.func77, Tryd.ntmps77
  go_wp2_with fail
  go_loopw [1] (fun u wr => ∃ k, k ≤ ys.length ∧ Rd wr u (ys.drop k) ∧ (∀ b o l c, u = .slice (some ⟨b, o, none⟩) l c → b ≠ z) ∧ EncSt wr X z (xs ++ ys.take k) ∧ w.grownBy wr (some z)) (fun u _ => (match u with | .slice _ n _ => n | _ => 0))
  case atStart => exact ⟨0, Nat.zero_le _, by simpa using HV.out, HNE.out, by simpa using H.out, ⟨rfl, rfl, rfl, Nat.le_refl _, fun _ _ _ => rfl⟩⟩
  case round =>
    obtain ⟨k, hk, hrd, hub, henc, hgr⟩ := hrel
    by_cases hlt : k < ys.length
    · obtain ⟨m, l, p, pre, part, tl, h1, h2, h3, h4, h5, h6⟩ := henc
      obtain ⟨b, o, c, rfl, hc, hcm, hcell⟩ : ∃ b o c, u1 = .slice (some ⟨b, o, none⟩) (ys.drop k).length c ∧ (ys.drop k).length ≤ c ∧ c ≤ maxLen ∧ ∀ i (h : i < (ys.drop k).length), wr.cell? ⟨b, o + i, none⟩ = some (u8c (ys.drop k)[i]) := by
        obtain ⟨ao, c, e, hc, hm, ⟨_, h0⟩ | ⟨b, o, rfl, hcell⟩⟩ := hrd
        · have : (ys.drop k).length ≤ c := hc
          rw [h0] at this
          simp at this
          omega
        · exact ⟨b, o, c, e, hc, hm, hcell⟩
      have hbz := hub _ _ _ _ rfl
      have hmod := h1.mod
      have hN : (xs ++ ys.take k).length = xs.length + k := by simp; omega
      rw [hN] at h6
      have hpl : part.length = (xs.length + k) % 256 := by rw [← hN, h2, List.length_append]; omega
      generalize hr : part.length = r at h3 h5 hpl
      have hL : (ys.drop k).length = ys.length - k := by simp
      obtain ⟨L, hL⟩ : ∃ L, ys.length - k = L := ⟨_, rfl⟩
      have hLd : (ys.drop k).length = L := by simp [hL]
      rw [hLd] at hc ⊢
      obtain ⟨N, hN2⟩ : ∃ N, xs.length + k = N := ⟨_, rfl⟩
      rw [hN2] at h6 hpl
      obtain ⟨q, hq⟩ : ∃ q, Nat.min L (256 - r) = q := ⟨_, rfl⟩
      have hq1 : q ≤ L := by rw [← hq]; exact Nat.min_le_left _ _
      have hq2 : q ≤ 256 - r := by rw [← hq]; exact Nat.min_le_right _ _
      have hq0 : 0 < q := by rw [← hq]; exact Nat.lt_min.2 ⟨by omega, by omega⟩
      obtain ⟨ck, hck⟩ : ∃ ck, ck = (ys.drop k).take q := ⟨_, rfl⟩
      have hckl : ck.length = q := by rw [hck]; simp; omega
      have hsrc : ∀ i (h : i < ck.length), wr.cell? ⟨b, o + i, none⟩ = some (u8c ck[i]) := fun i hi => by
        rw [hcell i (by omega)]
        congr 2
        simp [hck]
      have c0 := h6.cell 0
      rw [enc_0] at c0
      have c257 := h6.cell 257
      rw [enc_257 _ _ _ h4] at c257
      have f0 := h6.frozen 0
      have f257 := h6.frozen 257
      have hNb : N ≤ 4611686018427387904 := by omega
      have hLpos : 0 < L := by omega
      have hrem : (N : Int).tmod 256 = (r : Int) := by rw [hpl, Int.tmod_eq_emod_of_nonneg (by omega)]; omega
      have hsl := slice256 z 1 r h3
      have HB := hide h6
      have HSRC := hide hsrc
      have HCK := hide hck
      have HCH := hide h1
      have HX := hide (And.intro m l)
      have HG := hide hgr
      have H2 := hide h2
      have H5 := hide h5
      have HRD := hide hcell
      have HU := hide hub
      have HPL := hide hpl
      have HR := hide hr
      have HCM := hide hcm
      clear hcm
      clear h6 hsrc hck h1 m l hgr h2 h5 hcell hub hrd hpl hr hN hmod
      go_wp2_with fail
      go_region_law (refine step_copy_enc rfl (.tmp 18) (.tmp 19) rfl z r (256 - r) (256 - r) b o L c (by simp [Act.eval, Act.put]) (by simp [Act.eval, Act.put]) p tl N HB.out h4 ck (by rw [hckl]; exact hq.symm) (by omega) HSRC.out ?_; intro w' HB' HG')
      have HBN := hide HB'.out
      obtain ⟨tl', htl'⟩ : ∃ tl', tl' = splice tl r ck := ⟨_, rfl⟩
      have ht' : tl'.length = 256 := by rw [htl', length_splice _ _ _ (by omega)]; exact h4
      rw [← htl'] at HBN
      have HTL := hide htl'
      clear htl' HB' c0 c257 f0 f257 hsl hrem
      have c257 := HBN.out.cell 257
      rw [enc_257 _ _ _ ht'] at c257
      have f257 := HBN.out.frozen 257
      obtain ⟨o', ho', hcut, hcut2⟩ := sliceCut b o L c q hq1 hc
      have HO := hide ho'
      obtain ⟨M, hM⟩ : ∃ M, N + q = M := ⟨_, rfl⟩
      have hwr : IntKind.i64.wrap ((N : Int) + (q : Int)) = (M : Int) := by rw [IntKind.wrap_i64]; omega
      have hMb : M ≤ 4611686018427387904 := by omega
      have HSET := hide (HBN.out.set 257 (.int .i64 (M : Int)))
      rw [enc_set257 _ _ _ _ ht'] at HSET
      clear ho'
      by_cases hfull : r + q = 256
      · have hrem : (M : Int).tmod 256 = 0 := by have := HPL.out; rw [Int.tmod_eq_emod_of_nonneg (by omega)]; omega
        go_wp2_with fail
        generalize hW2 : w'.setCell ⟨z, 257, none⟩ (.int .i64 (M : Int)) = W2 at HSET ⊢
        have HW2 := hide hW2
        clear hW2 c257 f257
        have c0 := HSET.out.cell 0
        rw [enc_0] at c0
        have f0 := HSET.out.frozen 0
        obtain ⟨cs, hcs⟩ : ∃ cs, cs = tl'.map u8c := ⟨_, rfl⟩
        have hcl : cs.length = 256 := by rw [hcs, List.length_map]; exact ht'
        have hrg : W2.rangeAt z 1 cs := by rw [hcs]; exact rangeTail HSET.out
        have HCS := hide hcs
        have HRG := hide hrg
        clear hcs hrg
        have hz2 : z < W2.heap.size := HSET.out.lt
        refine region6 _ (fun _ _ _ _ _ h => h) W2 z p cs hcl HRG.out c0 f0 _ rfl rfl (fun a' h1 h2 h3 => ?_)
        obtain ⟨y0, y1, y2, y3, y4, y5, y6, y7, y8, y9, y10, y11, y12, y13, y14, y15, y16, y17, y18, y19, y20, y21, y22, y23, y24, y25, y26, y27, y28, y29, y30, y31, y32, y33, y34, y35, y36, y37, y38, y39, y40, y41, y42, y43, y44, y45, y46, y47, y48, y49, y50, rfl⟩ := act51 a' h1 h2
        have k0 := h3 0 (by decide)
        have k1 := h3 1 (by decide)
        have k2 := h3 2 (by decide)
        have k3 := h3 3 (by decide)
        have k5 := h3 5 (by decide)
        have k6 := h3 6 (by decide)
        clear h1 h2 h3
        simp [Act.eval] at k0 k1 k2 k3 k5 k6
        subst k0 k1 k2 k3 k5 k6
        have hg2 : wr.grownBy W2 (some z) := by rw [← HW2.out]; exact grownBy_trans (grownBy_trans (grownBy_drewN wr 1 _) HG'.out) (grownBy_set _ _ _ _)
        have hsz : W2.heap.size = W2.drew.heap.size := rfl
        have hB3 : Blk (W2.drew.alloc (.cells (.pointer p :: cs).toArray 86)) z (encCells p tl' M).toArray 82 := Blk.alloc (w := W2.drew) HSET.out _
        have hN3 : Blk (W2.drew.alloc (.cells (.pointer p :: cs).toArray 86)) W2.heap.size (.pointer p :: cs).toArray 86 := Blk.made W2.drew _ _
        have hBz := hB3.set 0 (.pointer (some ⟨W2.heap.size, 0, none⟩))
        rw [enc_set0] at hBz
        have hBn := hN3.setOther ⟨z, 0, none⟩ (.pointer (some ⟨W2.heap.size, 0, none⟩)) (show W2.heap.size ≠ z by omega)
        have hg3 : wr.grownBy ((W2.drew.alloc (.cells (.pointer p :: cs).toArray 86)).setCell ⟨z, 0, none⟩ (.pointer (some ⟨W2.heap.size, 0, none⟩))) (some z) := grownBy_trans (grownBy_trans (grownBy_trans hg2 (grownBy_drewN W2 1 _)) (World.grownBy_alloc _ _ _)) (grownBy_set _ _ _ _)
        have HB3 := hide hBz
        have HN3 := hide hBn
        have HG3 := hide hg3
        have HS3 := hide hg2.size
        clear hg2 hB3 hN3 hBz hBn hg3
        generalize (W2.drew.alloc (.cells (.pointer p :: cs).toArray 86)).setCell ⟨z, 0, none⟩ (.pointer (some ⟨W2.heap.size, 0, none⟩)) = W3 at HB3 HN3 HG3 ⊢
        go_wp2
        go_roundw
        case rel =>
          obtain ⟨g1, _, g3⟩ := raw_round HX.out HCH.out H2.out H5.out h4 HR.out HCK.out hckl HTL.out ht' hN2 hM (by omega) hL hc hbz HO.out HCM.out HRD.out HG3.out
          rw [HCS.out] at HN3
          exact ⟨k + q, by omega, g1, fun b' o l c e => by cases e; exact hbz, g3 hfull W2.heap.size (fun hx => by have := HX.out.2 _ hx; have := HS3.out; omega) HN3.out HB3.out, grownBy_trans HG.out HG3.out⟩
        case measure => simp; omega
      · have hrem : (M : Int).tmod 256 = ((r + q : Nat) : Int) := by have := HPL.out; rw [Int.tmod_eq_emod_of_nonneg (by omega)]; omega
        have hrq : (((r + q : Nat) : Int) == 0) = false := by rw [beq_eq_false_iff_ne]; omega
        have HG3 : Hid (wr.grownBy (w'.setCell ⟨z, 257, none⟩ (.int .i64 (M : Int))) (some z)) := hide (grownBy_trans (grownBy_trans (grownBy_drewN wr 1 _) HG'.out) (grownBy_set _ _ _ _))
        go_wp2
        go_roundw
        case rel =>
          obtain ⟨g1, g2, _⟩ := raw_round HX.out HCH.out H2.out H5.out h4 HR.out HCK.out hckl HTL.out ht' hN2 hM (by omega) hL hc hbz HO.out HCM.out HRD.out HG3.out
          exact ⟨k + q, by omega, g1, fun b' o l c e => by cases e; exact hbz, g2 (by omega) HSET.out, grownBy_trans HG.out HG3.out⟩
        case measure => simp; omega
    · obtain rfl : k = ys.length := by omega
      obtain ⟨ao, c, rfl, hc, hm, _⟩ := hrd
      have HE := hide henc
      have HG := hide hgr
      clear henc hgr hub
      have h0 : (List.drop ys.length ys).length = 0 := by simp
      rw [h0]
      go_wp2
      go_returns
      exact ⟨rfl, by simpa using HE.out, HG.out⟩
end Go.Proofs.YtjcfndiceinkjabDoor

/- Len, Var, Key and Text on an Enc. -/
namespace Go.Proofs.YtjcfndiceinkjabDoor
set_option linter.unusedVariables false
set_option linter.unusedSimpArgs false
open Go.RowKit

/-- The bytes of a number at seven bits a byte. -/
def varGo : Nat → Nat → List UInt8
  | 0, v => [UInt8.ofNat v]
  | n + 1, v => if v < 128 then [UInt8.ofNat v] else UInt8.ofNat (v % 128 + 128) :: varGo n (v / 128)
def varB (v : Nat) : List UInt8 := varGo 9 v
theorem varGo_len : ∀ (n v : Nat), (varGo n v).length ≤ n + 1
  | 0, v => by simp [varGo]
  | n + 1, v => by
    rw [varGo]
    split
    · simp
    · have := varGo_len n (v / 128)
      simp; omega
theorem varB_len (v : Nat) : (varB v).length ≤ 10 := varGo_len 9 v

theorem pow10b (y k : Nat) (h : y * 128 ^ k ≤ 18446744073709551615) (hy : 128 ≤ y) : k ≤ 8 := by
  rcases Nat.lt_or_ge k 9 with h1 | h1
  · omega
  · have h2 : (128 : Nat) ^ 9 ≤ 128 ^ k := Nat.pow_le_pow_right (by decide) h1
    have h3 : 128 * 128 ^ 9 ≤ y * 128 ^ k := Nat.mul_le_mul hy h2
    have h4 : (128 : Nat) * 128 ^ 9 = 1180591620717411303424 := by decide
    omega
theorem pow10s (y k : Nat) (h : y * 128 ^ k ≤ 18446744073709551615) : y / 128 * 128 ^ (k + 1) ≤ 18446744073709551615 := by
  have h1 : y / 128 * 128 ≤ y := Nat.div_mul_le_self y 128
  have h2 : y / 128 * 128 * 128 ^ k ≤ y * 128 ^ k := Nat.mul_le_mul_right _ h1
  rw [Nat.pow_succ, Nat.mul_comm (128 ^ k), ← Nat.mul_assoc]
  omega
theorem cut10 (a : Addr) (k : Nat) (hk : k ≤ 9) (w : World) : (Instr.sliceAt 138 (.pointer (some a)) none (some (.int .i64 ((k : Int) + 1))) none).run Tryd.prog w = .ok (.slice (some a) (k + 1) 10) w := by
  rcases (show k = 0 ∨ k = 1 ∨ k = 2 ∨ k = 3 ∨ k = 4 ∨ k = 5 ∨ k = 6 ∨ k = 7 ∨ k = 8 ∨ k = 9 by omega) with rfl | rfl | rfl | rfl | rfl | rfl | rfl | rfl | rfl | rfl
  all_goals kernel_rfl

/-- Bytes, and noughts up to n behind them. -/
def padN (n : Nat) (xs : List UInt8) : List UInt8 := xs ++ List.replicate (n - xs.length) 0
theorem padN_len (n : Nat) (xs : List UInt8) (h : xs.length ≤ n) : (padN n xs).length = n := by simp [padN]; omega
theorem padN_take (n : Nat) (xs : List UInt8) : (padN n xs).take xs.length = xs := by simp [padN]
theorem padN_set (n : Nat) (xs : List UInt8) (x : UInt8) (h : xs.length < n) : ((padN n xs).map u8c).toArray.setIfInBounds xs.length (u8c x) = ((padN n (xs ++ [x])).map u8c).toArray := by
  apply Array.ext'
  rw [Array.toList_setIfInBounds]
  simp only [padN, List.map_append, List.length_append, List.length_singleton]
  rw [List.set_append_right _ _ (by simp)]
  obtain ⟨m, hm⟩ : ∃ m, n - xs.length = m + 1 := ⟨n - xs.length - 1, by omega⟩
  rw [hm, show n - (xs.length + 1) = m by omega]
  simp [List.replicate_succ]
theorem padN_at (n : Nat) (xs : List UInt8) (k : Nat) (hk : xs.length = k) (h : k < n) : ((padN n xs).map u8c).toArray[k]? = some (.int .u8 0) := by
  subst hk
  rw [List.getElem?_toArray, padN, List.map_append, List.getElem?_append_right (by simp)]
  obtain ⟨m, hm⟩ : ∃ m, n - xs.length = m + 1 := ⟨n - xs.length - 1, by omega⟩
  rw [hm]
  simp [u8c, List.replicate_succ]
theorem Rd_take {w : World} {b : Nat} {xs : List UInt8} {t : TypeId} (hB : Blk w b (xs.map u8c).toArray t) (c : Nat) (hc : xs.length = c) (hm : c ≤ maxLen) (ys : List UInt8) (n : Nat) (hn : ys.length = n) (hy : xs.take n = ys) : Rd w (.slice (some ⟨b, 0, none⟩) n c) ys := by
  subst hn
  have hle : ys.length ≤ c := by rw [← hy, List.length_take]; omega
  refine ⟨some ⟨b, 0, none⟩, c, rfl, hle, hm, .inr ⟨b, 0, rfl, fun i hi => ?_⟩⟩
  rw [Nat.zero_add, hB.cell]
  have : xs[i]? = some ys[i] := by
    rw [← List.getElem?_take_of_lt hi, hy, List.getElem?_eq_getElem hi]
  simp [this]

theorem EncSt.below {w w' : World} {X : Nat → Prop} {z : Nat} {xs : List UInt8} (h : EncSt w X z xs) (hb : Below w.heap.size w w') : EncSt w' X z xs :=
  h.grown (row := none) (grownBy_below hb) (by simp) (fun b e => by cases e)
theorem EncSt.alloc {w : World} {X : Nat → Prop} {z : Nat} {xs : List UInt8} (h : EncSt w X z xs) (o : Obj) : EncSt (w.alloc o) X z xs := h.below ((Below.refl _ _).alloc (Nat.le_refl _) _)
theorem EncSt.zlt {w : World} {X : Nat → Prop} {z : Nat} {xs : List UInt8} (h : EncSt w X z xs) : z < w.heap.size := h.lt z h.mem

theorem elen_enc (w : World) (X : Nat → Prop) (z : Nat) (xs : List UInt8) (h : EncSt w X z xs) : Calls Tryd.prog 41 #[.pointer (some ⟨z, 0, none⟩)] w fun e w' => e = .returned (.int .i64 (xs.length : Int)) ∧ w' = w := by
  obtain ⟨m, l, p, pre, part, tl, h1, h2, h3, h4, h5, h6⟩ := h
  have c257 := h6.cell 257
  rw [enc_257 _ _ _ h4] at c257
  clear h6 h2 h1 h5 h3 m l
  go_enter Tryd.func41, Tryd.ntmps41
  go_wp2
  go_ret
  exact ⟨rfl, rfl⟩

theorem raw_own {w : World} {X : Nat → Prop} {z : Nat} {xs ys : List UInt8} {o : Obj} {e : Ending} {w' : World} (h : RawE (w.alloc o) X z (xs ++ ys) e w') : RawE w X z (xs ++ ys) e w' := ⟨h.1, h.2.1, grownBy_trans (World.grownBy_alloc _ _ _) h.2.2⟩

theorem or128 (y : Nat) : bits .or .u8 ((y : Int) % 256) 128 = ((y % 128 + 128 : Nat) : Int) := by
  have h : ∀ q, q < 256 → q ||| 128 = q % 128 + 128 := by decide +kernel
  rw [show ((y : Int) % 256) = ((y % 256 : Nat) : Int) by omega, show (128 : Int) = ((128 : Nat) : Int) from rfl, u8_or_nat _ _ (by omega) (by omega), h _ (by omega)]
  omega
theorem ofN (y : Nat) : ((UInt8.ofNat (y % 128 + 128)).toNat : Int) = (y : Int) % 128 + 128 := by
  simp
  omega
theorem wrap8 (y : Nat) : IntKind.u8.wrap (y : Int) = ((UInt8.ofNat y).toNat : Int) := by
  rw [IntKind.wrap_u8]
  simp

set_option maxRecDepth 20000 in
set_option maxHeartbeats 1600000 in
theorem evar_enc (w : World) (X : Nat → Prop) (z : Nat) (xs : List UInt8) (v : Nat) (hv : v ≤ 18446744073709551615) (h : EncSt w X z xs) (hlen : xs.length ≤ 2305843009213693952) :
    Calls Tryd.prog 78 #[.pointer (some ⟨z, 0, none⟩), .int .u64 v] w (RawE w X z (xs ++ varB v)) := by
  have HE := hide (fun arr => h.alloc (.cells arr 138))
  have hz := h.zlt
  clear h
  go_enter Tryd.func78, Tryd.ntmps78
  go_wp2
  go_loopw [1, 5] (fun x n wr => ∃ (y k : Nat) (bs : List UInt8), x = .int .u64 y ∧ n = .int .i64 k ∧ k ≤ 9 ∧ y * 128 ^ k ≤ 18446744073709551615 ∧ bs.length = k ∧ varB v = bs ++ varGo (9 - k) y ∧ wr = w.alloc (.cells ((padN 10 bs).map u8c).toArray 138)) (fun x _ _ => (intOf x).toNat)
  case atStart => exact ⟨v, 0, [], rfl, rfl, by omega, by omega, rfl, rfl, rfl⟩
  case round =>
    obtain ⟨y, k, bs, rfl, rfl, hk, hb, hbl, hvb, rfl⟩ := hrel
    have HB := hide hb
    have HVB := hide hvb
    have HSET := hide (fun x => padN_set 10 bs x (by omega))
    have hsz : ((padN 10 bs).map u8c).toArray.size = 10 := by simp [padN_len 10 bs (by omega)]
    have hq : ((padN 10 bs).map u8c).toArray[k]? = some (.int .u8 0) := padN_at 10 bs k hbl (by omega)
    obtain ⟨arr, harr⟩ : ∃ arr, arr = ((padN 10 bs).map u8c).toArray := ⟨_, rfl⟩
    rw [← harr] at HSET hsz hq ⊢
    have HARR := hide harr
    have HBL := hide hbl
    clear hb hvb harr
    by_cases hlt : 128 ≤ y
    · have hk8 := pow10b y k HB.out hlt
      have hyi : (128 : Int) ≤ (y : Int) := by omega
      have hor := or128 y
      go_wp2
      go_roundw
      case rel =>
        refine ⟨y / 128, k + 1, bs ++ [UInt8.ofNat (y % 128 + 128)], by go_num, by go_num, by omega, pow10s y k HB.out, by simp [HBL.out], ?_, ?_⟩
        · rw [HVB.out, show 9 - k = (9 - (k + 1)) + 1 by omega, varGo, if_neg (by omega), List.append_assoc]; rfl
        · rw [← HSET.out, HBL.out, u8c, ofN]
      case measure => simp [intOf]; omega
    · have hyi : (y : Int) < 128 := by omega
      have hk10 : (k : Int) < 10 := by omega
      have hsl := fun a => cut10 a k hk
      have hw8 := wrap8 y
      have HSY := hide (HSET.out (UInt8.ofNat y))
      have HV9 : Hid (varB v = bs ++ [UInt8.ofNat y]) := by
        refine hide ?_
        rw [HVB.out]
        congr 1
        cases h9 : 9 - k with
        | zero => rfl
        | succ m => rw [varGo, if_pos (by omega)]
      go_wp2_with fail
      have ha : arr.setIfInBounds k (.int .u8 ((y : Int) % 256)) = ((padN 10 (bs ++ [UInt8.ofNat y])).map u8c).toArray := by
        rw [← HSY.out, HBL.out, u8c]
        congr 3
      rw [ha]
      have hl1 : (bs ++ [UInt8.ofNat y]).length = k + 1 := by simp [HBL.out]
      have hrd := Rd_take (Blk.made w ((padN 10 (bs ++ [UInt8.ofNat y])).map u8c).toArray 138) 10 (padN_len 10 _ (by omega)) (by decide) (bs ++ [UInt8.ofNat y]) (k + 1) hl1 (by rw [← hl1]; exact padN_take _ _)
      refine (raw_enc _ X z xs (bs ++ [UInt8.ofNat y]) _ (HE.out _) hrd (fun b o l c e => by cases e; omega) (by omega)).mono ?_
      clear hrd
      rintro e w2 ⟨rfl, h1, h2⟩
      have H1 := hide h1
      have H2 := hide h2
      clear h1 h2
      go_wp2
      go_returns
      exact ⟨rfl, by rw [HV9.out]; exact H1.out, grownBy_trans (World.grownBy_alloc _ _ _) H2.out⟩

set_option maxRecDepth 20000 in
set_option maxHeartbeats 1600000 in
theorem ekey_enc (w : World) (X : Nat → Prop) (z : Nat) (xs kb : List UInt8) (hk : kb.length = 32) (h : EncSt w X z xs) (hlen : xs.length ≤ 2305843009213693952) :
    Calls Tryd.prog 79 #[.pointer (some ⟨z, 0, none⟩), .agg (kb.map u8c).toArray] w (RawE w X z (xs ++ kb)) := by
  have hz := h.zlt
  have HE := hide (h.alloc (.cells (kb.map u8c).toArray 27))
  have hrd := Rd_take (Blk.made w (kb.map u8c).toArray 27) 32 hk (by decide) kb 32 hk (by rw [← hk]; exact List.take_length)
  have HR := hide (raw_enc _ X z xs kb _ HE.out hrd (fun b o l c e => by cases e; omega) (by omega))
  clear hrd h
  obtain ⟨arr, harr⟩ : ∃ arr, arr = (kb.map u8c).toArray := ⟨_, rfl⟩
  have hsz : arr.size = 32 := by rw [harr]; simp [hk]
  rw [← harr] at HE HR ⊢
  clear harr
  go_enter Tryd.func79, Tryd.ntmps79
  go_wp2_with fail
  refine (HR.out).mono ?_
  rintro e w2 ⟨rfl, h1, h2⟩
  have H1 := hide h1
  have H2 := hide h2
  clear h1 h2
  go_wp2
  go_returns
  exact ⟨rfl, H1.out, grownBy_trans (World.grownBy_alloc _ _ _) H2.out⟩

theorem bytes_rd (w : World) (tb : List UInt8) (cap : Nat) (h1 : tb.length ≤ cap) (h2 : cap ≤ maxLen) : Rd (Lib.bytesWorld w 5 ⟨tb.toArray⟩) (.slice (some ⟨w.heap.size, 0, none⟩) tb.length cap) tb := by
  refine ⟨some ⟨w.heap.size, 0, none⟩, cap, rfl, h1, h2, .inr ⟨w.heap.size, 0, rfl, fun i hi => ?_⟩⟩
  rw [Nat.zero_add, Lib.bytesWorld_cell w _ _ i (by simpa [ByteArray.size] using hi)]
  simp [u8c, List.getD, List.getElem?_eq_getElem hi]
theorem bytesW_below (w : World) (e : TypeId) (s : ByteArray) : Below w.heap.size w (Lib.bytesWorld w e s) :=
  ⟨rfl, rfl, rfl, by rw [Lib.bytesWorld_size]; omega, fun k hk => Lib.bytesWorld_at_old w e s k hk⟩
set_option maxRecDepth 20000 in
set_option maxHeartbeats 1600000 in
theorem etext_enc (w : World) (X : Nat → Prop) (z : Nat) (xs tb : List UInt8) (h : EncSt w X z xs) (hlen : xs.length + tb.length ≤ 2251799813685248) :
    Calls Tryd.prog 80 #[.pointer (some ⟨z, 0, none⟩), .string ⟨tb.toArray⟩] w (RawE w X z (xs ++ varB tb.length ++ tb)) := by
  have HV := hide (evar_enc w X z xs tb.length (by omega) h (by omega))
  have hl : (⟨tb.toArray⟩ : ByteArray).size = tb.length := by simp [ByteArray.size]
  have hvl := varB_len tb.length
  have HBR := hide (fun W cap h1 h2 => bytes_rd W tb cap h1 h2)
  obtain ⟨s, hs⟩ : ∃ s : ByteArray, s = ⟨tb.toArray⟩ := ⟨_, rfl⟩
  rw [← hs] at hl HBR ⊢
  clear h hs
  have hcv := fun W => Lib.run_convert_string_bytes (P := Tryd.prog) W 9 23 5 s Tryd.underlying9 Tryd.underlying23 Tryd.underlying5
  go_enter Tryd.func80, Tryd.ntmps80
  go_wp2_with fail
  refine (HV.out).mono ?_
  rintro e w1 ⟨rfl, h1, h2⟩
  have H1 := hide h1
  have H2 := hide h2
  clear h1 h2 HV
  go_wp2_with fail
  have hxl : (xs ++ varB tb.length).length ≤ xs.length + 10 := by simp; omega
  refine (raw_enc _ X z (xs ++ varB tb.length) tb _ (H1.out.below (bytesW_below _ _ _)) (HBR.out _ _ (grownCap_ge _ _ _ _) (grownCap_le_maxLen _ _ _ _ (by unfold maxLen; omega))) (fun b o l c e => by cases e; exact Nat.ne_of_gt H1.out.zlt) (by omega)).mono ?_
  rintro e w2 ⟨rfl, h1, h2⟩
  have H3 := hide h1
  have H4 := hide h2
  clear h1 h2
  go_wp2
  go_returns
  exact ⟨rfl, H3.out, grownBy_trans H2.out (grownBy_trans (grownBy_below (bytesW_below _ _ _)) H4.out)⟩
end Go.Proofs.YtjcfndiceinkjabDoor
