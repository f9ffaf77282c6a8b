/- errors.Is over what wraps an Errno. -/
import Derived.Test.YtinjcefekbpabaaDoorS3
namespace Go.Proofs.YtinjcefekbpabaaDoor
set_option linter.unusedVariables false
set_option linter.unusedSimpArgs false
open Go.RowKit Go.Extern.Stop Go.Stop Go.Extern

theorem isTypeOf (v : Value) (w : World) : (Extern.ReflectliteType.typeOf #[.iface 22 v]).run Tryd.prog w = .ok (.iface 53 (.agg #[.pointer (some ⟨4, 22, none⟩)])) w := by kernel_rfl
def isCmp : Array Value → Sem Value := Extern.ReflectliteType.method fun t => do Rtype.noPackHeld "Comparable" t; pure (.bool (← typeInfo t).comparable)
theorem isComparable (w : World) : (isCmp #[.agg #[.pointer (some ⟨4, 22, none⟩)]]).run Tryd.prog w = .ok (.bool true) w := by kernel_rfl
theorem isMethodComparable (v : Value) (w : World) : (Go.method 213 53 v "Comparable").run Tryd.prog w = .ok (56, v) w := by kernel_rfl
theorem noIsE (v : Value) (xT : TypeId) (w : World) : (Instr.typeAssert (.iface 22 v) xT 64 true).run Tryd.prog w = .ok (.tuple #[.nilIface, .bool false]) w := run_typeAssert_lacksB Tryd.underlying64 (by kernel_rfl) (by kernel_rfl) v xT w
theorem noUnwrapE (v : Value) (xT : TypeId) (w : World) : (Instr.typeAssert (.iface 22 v) xT 60 true).run Tryd.prog w = .ok (.tuple #[.nilIface, .bool false]) w := run_typeAssert_lacksB Tryd.underlying60 (by kernel_rfl) (by kernel_rfl) v xT w
theorem noUnwrapsE (v : Value) (xT : TypeId) (w : World) : (Instr.typeAssert (.iface 22 v) xT 61 true).run Tryd.prog w = .ok (.tuple #[.nilIface, .bool false]) w := run_typeAssert_lacksB Tryd.underlying61 (by kernel_rfl) (by kernel_rfl) v xT w
theorem noIsF (v : Value) (xT : TypeId) (w : World) : (Instr.typeAssert (.iface 24 v) xT 64 true).run Tryd.prog w = .ok (.tuple #[.nilIface, .bool false]) w := run_typeAssert_lacksB Tryd.underlying64 (by kernel_rfl) (by kernel_rfl) v xT w
theorem hasUnwrapF (v : Value) (xT : TypeId) (w : World) : (Instr.typeAssert (.iface 24 v) xT 60 true).run Tryd.prog w = .ok (.tuple #[.iface 24 v, .bool true]) w := run_typeAssert_hasB Tryd.underlying60 (by kernel_rfl) v xT w
theorem noIsW (v : Value) (xT : TypeId) (w : World) : (Instr.typeAssert (.iface 31 v) xT 64 true).run Tryd.prog w = .ok (.tuple #[.nilIface, .bool false]) w := run_typeAssert_lacksB Tryd.underlying64 (by kernel_rfl) (by kernel_rfl) v xT w
theorem hasUnwrapW (v : Value) (xT : TypeId) (w : World) : (Instr.typeAssert (.iface 31 v) xT 60 true).run Tryd.prog w = .ok (.tuple #[.iface 31 v, .bool true]) w := run_typeAssert_hasB Tryd.underlying60 (by kernel_rfl) v xT w
theorem methodUnwrapF (v : Value) (w : World) : (Go.method 213 24 v "Unwrap").run Tryd.prog w = .ok (6, v) w := by kernel_rfl
theorem methodUnwrapW (v : Value) (w : World) : (Go.method 213 31 v "Unwrap").run Tryd.prog w = .ok (50, v) w := by kernel_rfl
theorem eqlE (c o : Int) (w : World) : (binOp .eql 28 (.iface 22 (.int .i64 c)) (.iface 22 (.int .i64 o))).run Tryd.prog w = .ok (.bool (c == o)) w := by kernel_rfl
theorem eqlF (v u : Value) (w : World) : (binOp .eql 28 (.iface 24 v) (.iface 22 u)).run Tryd.prog w = .ok (.bool false) w := by kernel_rfl
theorem eqlW (v u : Value) (w : World) : (binOp .eql 28 (.iface 31 v) (.iface 22 u)).run Tryd.prog w = .ok (.bool false) w := by kernel_rfl

def IsC (w : World) (b : Bool) (e : Ending) (w' : World) : Prop := e = .returned (.bool b) ∧ Below w.heap.size w w'
set_option maxRecDepth 20000 in
set_option maxHeartbeats 4000000 in
theorem is_fault (n c o : Int) (w : World) : Calls Tryd.prog 8 #[.iface 24 (.agg #[.int .i64 n, .int .i64 c]), .iface 22 (.int .i64 o)] w (IsC w (c == o)) := by
  have h15 := @run_callFunc_extern Tryd.prog 15 _ Extern.ReflectliteType.typeOf Tryd.func15 (by kernel_rfl) (by kernel_rfl) (by kernel_rfl) (by kernel_rfl)
  have h56 := @run_callFunc_extern Tryd.prog 56 _ isCmp Tryd.func56 (by kernel_rfl) (by kernel_rfl) (by kernel_rfl) (by kernel_rfl)
  have tT := isTypeOf
  have cT := isComparable
  have mR := isMethodComparable
  have a1 := noIsE
  have a2 := noUnwrapE
  have a3 := noUnwrapsE
  have a4 := noIsF
  have a5 := hasUnwrapF
  have a8 := methodUnwrapF
  have b1 := eqlE
  have b2 := eqlF
  cases hco : (c == o)
  · have b3 : ∀ w, (binOp .eql 28 (.iface 22 (.int .i64 c)) (.iface 22 (.int .i64 o))).run Tryd.prog w = .ok (.bool false) w := fun w => by rw [eqlE, hco]
    clear b1
    go_enter Tryd.func8, Tryd.ntmps8
    go_wp2
    refine wp_loop_rounds 2 ?_
    rw [rounds_succ]
    go_wp2
    rw [rounds_succ]
    go_wp2
    go_ret
    exact ⟨rfl, (Below.refl _ _).alloc (Nat.le_refl _) _⟩
  · have b3 : ∀ w, (binOp .eql 28 (.iface 22 (.int .i64 c)) (.iface 22 (.int .i64 o))).run Tryd.prog w = .ok (.bool true) w := fun w => by rw [eqlE, hco]
    clear b1
    go_enter Tryd.func8, Tryd.ntmps8
    go_wp2
    refine wp_loop_rounds 2 ?_
    rw [rounds_succ]
    go_wp2
    rw [rounds_succ]
    go_wp2
    go_ret
    exact ⟨rfl, (Below.refl _ _).alloc (Nat.le_refl _) _⟩
theorem below3 (w : World) (a b c : Obj) : Below w.heap.size w (((w.alloc a).alloc b).alloc c) := (((Below.refl _ _).alloc (Nat.le_refl _) _).alloc (by simp) _).alloc (by simp; omega) _
set_option maxRecDepth 20000 in
set_option maxHeartbeats 4000000 in
theorem is_wrap (n c o : Int) (w : World) : Calls Tryd.prog 8 #[.iface 31 (.agg #[.iface 31 (.agg #[.iface 24 (.agg #[.int .i64 n, .int .i64 c])])]), .iface 22 (.int .i64 o)] w (IsC w (c == o)) := by
  have h15 := @run_callFunc_extern Tryd.prog 15 _ Extern.ReflectliteType.typeOf Tryd.func15 (by kernel_rfl) (by kernel_rfl) (by kernel_rfl) (by kernel_rfl)
  have h56 := @run_callFunc_extern Tryd.prog 56 _ isCmp Tryd.func56 (by kernel_rfl) (by kernel_rfl) (by kernel_rfl) (by kernel_rfl)
  have tT := isTypeOf
  have cT := isComparable
  have mR := isMethodComparable
  have a1 := noIsE
  have a2 := noUnwrapE
  have a3 := noUnwrapsE
  have a4 := noIsF
  have a5 := hasUnwrapF
  have a6 := noIsW
  have a7 := hasUnwrapW
  have a8 := methodUnwrapF
  have a9 := methodUnwrapW
  have b1 := eqlE
  have b2 := eqlF
  have b4 := eqlW
  cases hco : (c == o)
  · have b3 : ∀ w, (binOp .eql 28 (.iface 22 (.int .i64 c)) (.iface 22 (.int .i64 o))).run Tryd.prog w = .ok (.bool false) w := fun w => by rw [eqlE, hco]
    clear b1
    go_enter Tryd.func8, Tryd.ntmps8
    go_wp2
    refine wp_loop_rounds 4 ?_
    rw [rounds_succ]
    go_wp2
    rw [rounds_succ]
    go_wp2
    rw [rounds_succ]
    go_wp2
    rw [rounds_succ]
    go_wp2
    go_ret
    exact ⟨rfl, below3 _ _ _ _⟩
  · have b3 : ∀ w, (binOp .eql 28 (.iface 22 (.int .i64 c)) (.iface 22 (.int .i64 o))).run Tryd.prog w = .ok (.bool true) w := fun w => by rw [eqlE, hco]
    clear b1
    go_enter Tryd.func8, Tryd.ntmps8
    go_wp2
    refine wp_loop_rounds 4 ?_
    rw [rounds_succ]
    go_wp2
    rw [rounds_succ]
    go_wp2
    rw [rounds_succ]
    go_wp2
    rw [rounds_succ]
    go_wp2
    go_ret
    exact ⟨rfl, below3 _ _ _ _⟩
end Go.Proofs.YtinjcefekbpabaaDoor
