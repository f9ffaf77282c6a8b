/- Statements that draw their order and make or write a whole array: the steps. -/
import Derived.Test.YtjmjnecobaoofaaDoorSA
import Derived.Deep.RegionHeld3
namespace Go.Proofs.YtjmjnecobaoofaaDoor
set_option linter.unusedVariables false
set_option linter.unusedSimpArgs false
open Go.RowKit

theorem wpAnyH_mono {P : Program} {md : Region.Mode} {ops : Array Oper} {Q : Exit → Act → World → Prop} {S S' : World → Prop} (hs : ∀ w, S' w → S w) :
    ∀ (fuel : Nat) (listed : Array Bool) (a : Act) (w : World), wpAnyH P md ops Q S' fuel listed a w → wpAnyH P md ops Q S fuel listed a w
  | 0, _, _, _, h => h
  | fuel + 1, _, _, _, h => ⟨h.1, fun i hi => wpOp_mono (fun a' w' h' => ⟨hs w' h'.1, wpAnyH_mono hs fuel _ a' w' h'.2⟩) (h.2 i hi)⟩
theorem step_enterE {op : Oper} {a : Act} {w : World} {K : Act → World → Prop} {Q : Exit → Act → World → Prop} (f : FuncId) (args : Array Value) (hr : (execOp a.eval op).run Tryd.prog w = .ok (.enter f args) w) (R : Value → World → Prop) (hc : Calls Tryd.prog f args w fun e w' => ∃ V, e = .returned V ∧ R V w') (h : ∀ V w', R V w' → K (a.put op.dst V) w') : op.wp Tryd.prog a w K Q := by
  unfold Oper.wp
  rw [hr]
  refine Calls.mono hc ?_
  rintro e w' ⟨V, rfl, hR⟩
  exact h V w' hR
theorem step_runE {op : Oper} {a : Act} {w : World} {K : Act → World → Prop} {Q : Exit → Act → World → Prop} (v : Value) (w' : World) (hr : (execOp a.eval op).run Tryd.prog w = .ok (.value v) w') (h : K (a.put op.dst v) w') : op.wp Tryd.prog a w K Q := by
  unfold Oper.wp
  rw [hr]
  exact h
theorem wanted_none {o : Oper} {y : _} (h : o.guard = none) : Region.wanted o y = true := by simp [Region.wanted, h]
theorem ev_same (a : Act) (t : Tmp) (v : Value) (h : t < a.tmps.size) : (a.put (some t) v).eval (.tmp t) = v := by simp [Act.put, Act.eval, h]
theorem ev_other (a : Act) (s t : Tmp) (v : Value) (h : s ≠ t) : (a.put (some s) v).eval (.tmp t) = a.eval (.tmp t) := by simp [Act.put, Act.eval, h]
theorem sz_put (a : Act) (s : Tmp) (v : Value) : (a.put (some s) v).tmps.size = a.tmps.size := by simp [Act.put]
theorem wanted_some {ops : Array Oper} {o : Oper} {a : Act} {j : Nat} {b : Bool} {t : Tmp} (hg : o.guard = some (j, b)) (hd : (ops[j]?).bind (·.dst) = some t) (he : a.eval (.tmp t) = .bool b) (hz : t < a.tmps.size) : Region.wanted o (yielded ops a.tmps) = true := by
  have h1 : a.tmps[t]? = some (.bool b) := by
    rw [Array.getElem?_eq_getElem hz]
    simpa [Act.eval, hz] using he
  simp [Region.wanted, hg, yielded, hd, h1]
theorem step_skipE {op : Oper} {a : Act} {w : World} {K : Act → World → Prop} {Q : Exit → Act → World → Prop} (w' : World) (hr : (execOp a.eval op).run Tryd.prog w = .ok .skip w') (h : K (a.put op.dst undef) w') : op.wp Tryd.prog a w K Q := by
  unfold Oper.wp
  rw [hr]
  exact h
theorem run_load {op : Oper} {ev : Operand → Value} {t : TypeId} {x : Operand} {p v : Value} {w : World} (ho : op.op = .load t x) (hx : ev x = p) (hl : (Instr.loadAt t p).run Tryd.prog w = .ok v w) : (execOp ev op).run Tryd.prog w = .ok (.value v) w := by
  simp only [execOp, ho, hx, Sem.run_bind, hl, Result.andThen_ok, Sem.run_pure]
theorem run_slice {op : Oper} {ev : Operand → Value} {t : TypeId} {x : Operand} {p v : Value} {w : World} (ho : op.op = .slice t x none none none) (hx : ev x = p) (hl : (Instr.sliceAt t p none none none).run Tryd.prog w = .ok v w) : (execOp ev op).run Tryd.prog w = .ok (.value v) w := by
  simp only [execOp, ho, hx, Option.map_none, Sem.run_bind, hl, Result.andThen_ok, Sem.run_pure]
theorem run_storeA {op : Oper} {ev : Operand → Value} {t : TypeId} {x y : Operand} {b : Nat} {cells : Array Value} {w : World} (ho : op.op = .store t x y) (hx : ev x = .pointer (some ⟨b, 0, none⟩)) (hy : ev y = .agg cells) {old : Array Value} {t' : TypeId} (hk : Blk w b old t') (n : Nat) (hn : old.size = n) (hc : cells.size = n) (hi : (Tryd.prog.info? t).map (·.size) = some n) (h1 : cells.all (·.oneCell') = true) : (execOp ev op).run Tryd.prog w = .ok .skip (w.setCells b 0 cells.toList) := by
  have := run_storeAt_mid (P := Tryd.prog) w b 0 t cells (thereBlk hk _ (by omega)) (by rw [hc]; exact hi) h1
  simp only [execOp, ho, hx, hy, Sem.run_bind, this, Result.andThen_ok, Sem.run_pure]
theorem loadAt_blk {w : World} {b : Nat} {cs : Array Value} {t : TypeId} (hk : Blk w b cs t) (ty : TypeId) (d : TypeDesc) (hu : Tryd.prog.underlying ty = some d) (hd : d.isRow = true) (n : Nat) (hi : (Tryd.prog.info? ty).map (·.size) = some n) (hn : cs.size = n) : (Instr.loadAt ty (.pointer (some ⟨b, 0, none⟩))).run Tryd.prog w = .ok (.agg cs) w := by
  simp only [Instr.loadAt, Instr.sureAddr, Sem.run_bind, Sem.run_pure, Result.andThen_ok]
  exact loadBlkT hk ty d hu hd n hi hn
theorem slice64_all (z : Nat) (W : World) : (Instr.sliceAt 42 (.pointer (some ⟨z, 0, none⟩)) none none none).run Tryd.prog W = .ok (.slice (some ⟨z, 0, none⟩) 64 64) W := by kernel_rfl
def zero8 : Array Value := #[.int .u32 0, .int .u32 0, .int .u32 0, .int .u32 0, .int .u32 0, .int .u32 0, .int .u32 0, .int .u32 0]
theorem run_alloc8 {op : Oper} {ev : Operand → Value} (ho : op.op = .alloc 56) (w : World) : (execOp ev op).run Tryd.prog w = .ok (.value (.pointer (some ⟨w.heap.size, 0, none⟩))) (w.alloc (.cells zero8 56)) := by
  simp only [execOp, ho]
  kernel_rfl
theorem below_set {w : World} {b : Nat} {old cells : Array Value} {t : TypeId} {B : Nat} (hk : Blk w b old t) (hs : cells.size = old.size) (hB : B ≤ b) : Below B w (w.setCells b 0 cells.toList) := by
  have h := (setCells_blk hk cells hs).2
  exact ⟨h.os, h.tape, h.output, h.size, fun i hi => by
    rcases Nat.lt_or_ge i w.heap.size with hl | hl
    · exact h.block i hl (fun e => by have := Option.some.inj e; omega)
    · have := hk.lt; omega⟩
theorem put_comm (a : Act) (s t : Tmp) (u v : Value) (h : s ≠ t) : (a.put (some s) u).put (some t) v = (a.put (some t) v).put (some s) u := by
  unfold Act.put
  simp only
  congr 1
  exact Array.setIfInBounds_comm _ _ h
end Go.Proofs.YtjmjnecobaoofaaDoor
