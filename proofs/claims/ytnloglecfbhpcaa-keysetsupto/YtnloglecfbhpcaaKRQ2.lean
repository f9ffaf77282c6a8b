/- A string's first signs. -/
import Derived.Test.YtnloglecfbhpcaaKN14
namespace Go.Proofs.Ytnloglecfbhpcaa
set_option linter.unusedVariables false
set_option linter.unusedSimpArgs false
open Go.RowKit Go.Shelf
set_option maxRecDepth 100000

theorem cut_bytes (s : List UInt8) (m : Nat) : (⟨s.toArray⟩ : ByteArray).extract 0 m = ⟨(s.take m).toArray⟩ := by
  apply ByteArray.ext
  rw [ByteArray.data_extract]
  simp
theorem run_cut {op : Oper} {ev : Operand → Value} {x y : Operand} {w : World} (s : List UInt8) (m : Nat) (hm : m ≤ s.length) (ho : op.op = .slice 9 x none (some y) none) (hx : ev x = .string ⟨s.toArray⟩) (hy : ev y = .int .i64 m) : (execOp ev op).run Try.prog w = .ok (.value (.string ⟨(s.take m).toArray⟩)) w := by
  have hz : (⟨s.toArray⟩ : ByteArray).size = s.length := rfl
  have hi : (0 : Int) ≤ m ∧ (m : Int) ≤ s.length := by omega
  rw [← cut_bytes]
  simp only [execOp, ho, Option.map_some, Option.map_none, hx, hy]
  simp [Instr.sliceAt, Instr.slice, run_underlying Try.underlying9, Instr.sliceBounds, go_sem, hz, hi]
end Go.Proofs.Ytnloglecfbhpcaa
