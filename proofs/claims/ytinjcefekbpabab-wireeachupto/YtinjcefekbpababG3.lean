/- Open of what came in; Each of a nil function. -/
import Derived.Test.YtinjcefekbpababG2
namespace Go.Proofs.Ytinjcefekbpabab
set_option linter.unusedVariables false
set_option linter.unusedSimpArgs false
open Go.RowKit

def OpenC (w : World) (xs : List UInt8) (e : Ending) (w' : World) : Prop :=
  e = .returned (.pointer (some ⟨w.heap.size + 1, 0, none⟩)) ∧ DecSt w' (w.heap.size + 1) (.slice (some ⟨w.heap.size, 0, none⟩) xs.length xs.length) xs s0 ∧ Below w.heap.size w w' ∧ w'.heap.size = w.heap.size + 2
theorem copy_arg (w : World) (a : Addr) (ty : TypeId) :
    (Builtin.copy_ #[22, 22] ty #[.slice (some ⟨w.heap.size, 0, none⟩) 0 0, .slice (some a) 0 0]).run Try.prog (w.alloc (.cells (madeCells #[.int .u8 0] 0) 5)) =
      .ok (goInt 0) (w.alloc (.cells (([] : List UInt8).map u8c).toArray 5)) := by
  have e : madeCells #[Value.int .u8 0] 0 = #[] := Array.eq_empty_of_size_eq_zero (size_madeCells _ _)
  have := run_copy_none (P := Try.prog) (w.alloc (.cells (madeCells #[.int .u8 0] 0) 5)) 22 22 ty 5 (some ⟨w.heap.size, 0, none⟩) (some a) 0 0 0 0 Try.underlying22 infoU8s rfl
  rw [e] at this
  simpa [e] using this
set_option maxRecDepth 20000 in
theorem open_arg (w : World) (v : Value) (xs : List UInt8) (h : RdA w v xs) (hlen : xs.length ≤ 140737488355000) :
    Calls Try.prog 5 #[v] w (OpenC w xs) := by
  rcases h with h | ⟨a, rfl, rfl⟩
  · exact open_any w v xs h hlen
  · have hmk : ∀ W : World, (Instr.makeSlice 22 (.int .i64 0) (.int .i64 0)).run Try.prog W = .ok (.slice (some ⟨W.heap.size, 0, none⟩) 0 0) (W.alloc (.cells (madeCells #[.int .u8 0] 0) 5)) := make_u8 0 (by omega)
    have hcp := copy_arg w a
    go_enter Try.func5, Try.ntmps5
    go_wp2
    go_ret
    refine ⟨rfl, ⟨⟨by decide, .inr ⟨w.heap.size, rfl, by omega, (Blk.made w _ _).alloc _⟩⟩, Nat.zero_le _, ?_⟩, ((Below.refl _ _).alloc (Nat.le_refl _) _).alloc (by simp) _, by simp⟩
    have := Blk.made (w.alloc (.cells (([] : List UInt8).map u8c).toArray 5)) #[.slice (some ⟨w.heap.size, 0, none⟩) 0 0, .int .i64 0, .int .i64 0, .int .i64 0] 63
    rw [World.size_alloc] at this
    exact this

theorem nil_isnil (w : World) : (binOp BinOp.eql 37 .nilFunc .nilFunc).run Try.prog w = .ok (.bool true) w := by kernel_rfl
def sNil : S := ⟨0, 0, 1⟩
theorem each_none (w : World) (z : Nat) (sv : Value) (bs : List UInt8) (n : Int) (h : DecSt w z sv bs s0) :
    Calls Try.prog 13 #[.pointer (some ⟨z, 0, none⟩), .int .i64 n, .nilFunc] w fun e w' => e = .returned (.slice none 0 0) ∧ DecSt w' z sv bs sNil ∧ w.grownBy w' (some z) := by
  have hnn := nil_isnil
  have HA := hide (at_st w z sv bs s0 h)
  have HS := hide (stop_go w z sv 0 0 0 1 h.2.2)
  have HB := hide h.1
  rw [show mPlace s0 = 0 from rfl] at HA
  clear h
  go_enter Try.func13, Try.ntmps13
  go_wp2_with fail
  refine (HA.out).mono ?_
  rintro e w1 ⟨rfl, rfl⟩
  go_wp2_with fail
  refine (HS.out).mono ?_
  rintro e w2 ⟨rfl, hd, hg⟩
  have HD := hide hd
  have HG := hide hg
  clear hd hg
  go_wp2
  go_ret
  exact ⟨rfl, ⟨HB.out.grown HG.out, Nat.zero_le _, HD.out⟩, HG.out⟩

end Go.Proofs.Ytinjcefekbpabab
