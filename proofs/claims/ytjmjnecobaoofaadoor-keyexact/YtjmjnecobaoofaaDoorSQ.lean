/- Arrays held against one another. -/
import Derived.Test.YtjmjnecobaoofaaDoorSR
import Derived.Test.YtjmjnecobaoofaaDoorSK6
import Derived.Stop.BytesEq
import Derived.ChangeKeysEq
namespace Go.Proofs.YtjmjnecobaoofaaDoor
set_option linter.unusedVariables false
set_option linter.unusedSimpArgs false
open Go.RowKit

theorem eqItems_same (d : Nat) (cs : Array Value) (w : World) : ∀ is : List Nat, (∀ i ∈ is, ∃ x, cs[i]? = some (.int .u32 x)) → (Op.eqItems (d + 1) 55 1 cs cs is).run Tryd.prog w = .ok true w
  | [], _ => by simp [Op.eqItems]
  | i :: is, h => by
    obtain ⟨x, hx⟩ := h i (by simp)
    have ih := eqItems_same d cs w is (fun j hj => h j (by simp [hj]))
    have hp : (part 55 cs (i * 1)).run Tryd.prog w = .ok (.int .u32 x) w := by
      rw [Nat.mul_one]; simp [part, isAgg, run_underlying Tryd.underlying55, hx]
    have he : (Op.equalIn (d + 1) 55 (.int .u32 x) (.int .u32 x)).run Tryd.prog w = .ok true w := by
      rw [run_equalIn_int w d 55 .u32 .u32 _ _ Tryd.underlying55]; simp
    simp only [Op.eqItems, Sem.run_bind, hp, he, Result.andThen_ok]
    simpa using ih
theorem eql8 (x0 x1 x2 x3 x4 x5 x6 x7 : Int) (w : World) : (binOp .eql 56 (.agg (cells8 x0 x1 x2 x3 x4 x5 x6 x7)) (.agg (cells8 x0 x1 x2 x3 x4 x5 x6 x7))).run Tryd.prog w = .ok (.bool true) w := by
  obtain ⟨i, hi⟩ : ∃ i, Tryd.prog.info? 55 = some i := ⟨_, rfl⟩
  have hc : Tryd.prog.cellsOf 55 = 1 := by kernel_rfl
  rw [run_eql_struct, run_equalIn_array w 9999 _ _ Tryd.underlying56 hi, hc, eqItems_same 9998 _ w (List.range 8) ?_]
  · rfl
  · intro i hi
    rw [List.mem_range] at hi
    rcases (show i = 0 ∨ i = 1 ∨ i = 2 ∨ i = 3 ∨ i = 4 ∨ i = 5 ∨ i = 6 ∨ i = 7 by omega) with rfl | rfl | rfl | rfl | rfl | rfl | rfl | rfl <;> exact ⟨_, rfl⟩
theorem guard8 : Tryd.prog.eqGuardType Tryd.prog.depth 56 = false := by kernel_rfl
theorem run_eql8 {op : Oper} {ev : Operand → Value} {x y : Operand} {u : TypeId} {x0 x1 x2 x3 x4 x5 x6 x7 : Int} (ho : op.op = .binOp .eql 56 x y u) (hx : ev x = .agg (cells8 x0 x1 x2 x3 x4 x5 x6 x7)) (hy : ev y = .agg (cells8 x0 x1 x2 x3 x4 x5 x6 x7)) (w : World) : (execOp ev op).run Tryd.prog w = .ok (.value (.bool true)) w := by
  simp only [execOp, ho, hx, hy, Sem.run_bind, run_eqGuard_agg (P := Tryd.prog) w .eql 56 x y _ _ guard8, Result.andThen_ok, eql8, Sem.run_pure]
/-- Four arrays in memory. -/
def B4 (zs zb z7 z8 : Nat) (cs bc rc fc : Array Value) (W : World) : Prop := Blk W zs cs 56 ∧ Blk W zb bc 42 ∧ Blk W z7 rc 56 ∧ Blk W z8 fc 56
theorem B4.below {zs zb z7 z8 : Nat} {cs bc rc fc : Array Value} {W W' : World} (h : B4 zs zb z7 z8 cs bc rc fc W) (hb : Below W.heap.size W W') : B4 zs zb z7 z8 cs bc rc fc W' :=
  ⟨h.1.below hb h.1.lt, h.2.1.below hb h.2.1.lt, h.2.2.1.below hb h.2.2.1.lt, h.2.2.2.below hb h.2.2.2.lt⟩
end Go.Proofs.YtjmjnecobaoofaaDoor
