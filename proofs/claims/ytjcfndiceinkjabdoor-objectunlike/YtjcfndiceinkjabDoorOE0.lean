/- A block of an Enc, as it is built. -/
import Derived.Test.YtjcfndiceinkjabDoorOB14
import Derived.Great.FillDense
import Derived.Laws.Tables
namespace Go.Proofs.YtjcfndiceinkjabDoor
set_option linter.unusedVariables false
set_option linter.unusedSimpArgs false
open Go.RowKit

theorem built_block : ∃ Z : Array Value, Z.size = 257 ∧ ∀ parts, Tryd.prog.built 86 parts = Instr.fill (fun i => #[(0, 1), (1, 256)][i]?) Z parts :=
  ⟨(((Tryd.prog.info? 86).bind (·.zero)).getD undef).cells, by kernel_rfl, fun parts => by kernel_rfl⟩
theorem build_block (p : Option Addr) (cs : List Value) (h : cs.length = 256) (W : World) : (Instr.build 86 #[(0, .pointer p), (1, .agg cs.toArray)]).run Tryd.prog W = .ok (.agg (.pointer p :: cs).toArray) W := by
  refine run_build W _ _ _ ?_
  obtain ⟨Z, hZ, hb⟩ := built_block
  rw [hb]
  obtain ⟨a1, a2⟩ := Go.Great.foldl_set 0 [Value.pointer p] 0 Z
  obtain ⟨b1, b2⟩ := Go.Great.foldl_set 1 cs 0 (([Value.pointer p].zipIdx 0).foldl (fun cs (x : Value × Nat) => cs.setIfInBounds (0 + x.2) x.1) Z)
  have key : Instr.fill (fun i => #[(0, 1), (1, 256)][i]?) Z [(0, .pointer p), (1, .agg cs.toArray)] = some ((cs.zipIdx 0).foldl (fun cs (x : Value × Nat) => cs.setIfInBounds (1 + x.2) x.1) (([Value.pointer p].zipIdx 0).foldl (fun cs (x : Value × Nat) => cs.setIfInBounds (0 + x.2) x.1) Z)) := by
    unfold Instr.fill
    simp [Value.cells, h, hZ]
    unfold Instr.fill
    simp [Value.cells, h, hZ]
    unfold Instr.fill
    rfl
  rw [show (#[(0, Value.pointer p), (1, Value.agg cs.toArray)] : Array (Nat × Value)).toList = [(0, .pointer p), (1, .agg cs.toArray)] from rfl, key]
  congr 1
  apply Array.ext_getElem?
  intro k
  rw [b2 k, a2 k, a1, hZ, h]
  cases k with
  | zero => simp
  | succ j =>
    by_cases hj : j < 256
    · rw [if_pos (by omega)]
      simp
    · rw [if_neg (by omega), if_neg (by simp), Array.getElem?_eq_none (by omega), Array.getElem?_eq_none (by simp; omega)]
end Go.Proofs.YtjcfndiceinkjabDoor
