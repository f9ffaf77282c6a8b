/- Keys held against one another; steps of a region that only reads. -/
import Derived.Test.YtjmjnecobaoofaaDoorSM2
import Derived.Lib.QuietBelow
import Derived.Stop.BytesEq
import Derived.Lib.Bytealg
import Derived.Lib.UnsafeStr
namespace Go.Proofs.YtjmjnecobaoofaaDoor
set_option linter.unusedVariables false
set_option linter.unusedSimpArgs false
open Go.RowKit

theorem guardKey : Tryd.prog.eqGuardType Tryd.prog.depth 24 = false := by kernel_rfl
theorem szU8 (w : World) : (sizeOf 5).run Tryd.prog w = .ok 1 w := by kernel_rfl
theorem equalKey (bs : List UInt8) (h : bs.length = 32) (w : World) : (Op.equalIn 10000 24 (.agg (bs.map u8c).toArray) (.agg (bs.map u8c).toArray)).run Tryd.prog w = .ok true w := by
  have := run_equalIn_bytes (P := Tryd.prog) w 9998 24 5 32 Tryd.underlying24 Tryd.underlying5 szU8 bs bs h h
  rw [beq_self_eq_true] at this
  exact this
theorem run_eqlKey {op : Oper} {ev : Operand → Value} {x y : Operand} {u : TypeId} {bs : List UInt8} (ho : op.op = .binOp .eql 24 x y u) (hx : ev x = keyV bs) (hy : ev y = keyV bs) (h : bs.length = 32) (w : World) : (execOp ev op).run Tryd.prog w = .ok (.value (.bool true)) w := by
  unfold keyV at hx hy
  simp only [execOp, ho, hx, hy, Sem.run_bind, run_eqGuard_agg (P := Tryd.prog) w .eql 24 x y _ _ guardKey, Result.andThen_ok, run_eql_struct, equalKey bs h, Sem.run_pure]
theorem run_neqKey {op : Oper} {ev : Operand → Value} {x y : Operand} {u : TypeId} {bs : List UInt8} (ho : op.op = .binOp .neq 24 x y u) (hx : ev x = keyV bs) (hy : ev y = keyV bs) (h : bs.length = 32) (w : World) : (execOp ev op).run Tryd.prog w = .ok (.value (.bool false)) w := by
  unfold keyV at hx hy
  simp only [execOp, ho, hx, hy, Sem.run_bind, run_eqGuard_agg (P := Tryd.prog) w .neq 24 x y _ _ guardKey, Result.andThen_ok, run_neq_struct, equalKey bs h, Sem.run_pure, Bool.not_true]
theorem keyGuard (op : BinOp) (bs : List UInt8) (x y : Operand) (w : World) : (eqGuard op 24 x y (keyV bs) (keyV bs)).run Tryd.prog w = .ok () w := run_eqGuard_agg (P := Tryd.prog) w op 24 x y _ _ guardKey
theorem keyNeq (bs : List UInt8) (h : bs.length = 32) (w : World) : (binOp .neq 24 (keyV bs) (keyV bs)).run Tryd.prog w = .ok (.bool false) w := by
  unfold keyV
  rw [run_neq_struct, equalKey bs h]; rfl
theorem keyEql (bs : List UInt8) (h : bs.length = 32) (w : World) : (binOp .eql 24 (keyV bs) (keyV bs)).run Tryd.prog w = .ok (.bool true) w := by
  unfold keyV
  rw [run_eql_struct, equalKey bs h]; rfl
/-- A key in memory. -/
def KeyAt (w : World) (z : Nat) (bs : List UInt8) : Prop := Blk w z ((bs.map u8c).toArray) 24 ∧ bs.length = 32
theorem KeyAt.below {w w' : World} {z : Nat} {bs : List UInt8} (h : KeyAt w z bs) (hb : Below w.heap.size w w') : KeyAt w' z bs := ⟨h.1.below hb h.1.lt, h.2⟩
theorem KeyAt.grown {w w' : World} {z : Nat} {bs : List UInt8} {row : Option Nat} (h : KeyAt w z bs) (hg : w.grownBy w' row) (hne : some z ≠ row) : KeyAt w' z bs := ⟨h.1.grown hg hne, h.2⟩
theorem KeyAt.load {w : World} {z : Nat} {bs : List UInt8} (h : KeyAt w z bs) : (Instr.loadAt 24 (.pointer (some ⟨z, 0, none⟩))).run Tryd.prog w = .ok (keyV bs) w :=
  loadAt_blk h.1 24 _ Tryd.underlying24 rfl 32 infoKey (by simp [h.2])
/-- A step of a region that only reads, at a value given. -/
theorem wpQuiet_val {P : Program} {ops : Array Oper} {C : World → Prop} {Q : Act → Prop} {a : Act} {o : Oper} {rest : List Oper} (v : Value) (hg : Region.wanted o (yielded ops a.tmps) = true) (hr : ∀ w, C w → (execOp a.eval o).run P w = .ok (.value v) w) (h : wpQuiet P ops C Q rest (a.put o.dst v)) : wpQuiet P ops C Q (o :: rest) a := by
  unfold wpQuiet
  rw [if_pos hg]
  exact ⟨v, fun w hw => by unfold Oper.quietAt; rw [hr w hw]; exact ⟨rfl, rfl⟩, h⟩
theorem wpQuiet_call {P : Program} {ops : Array Oper} {C : World → Prop} {Q : Act → Prop} {a : Act} {o : Oper} {rest : List Oper} (f : FuncId) (args : Array Value) (v : Value) (hg : Region.wanted o (yielded ops a.tmps) = true) (hr : ∀ w, (execOp a.eval o).run P w = .ok (.enter f args) w) (hc : ∀ w, C w → Calls P f args w (fun e w' => e = .returned v ∧ C w')) (h : wpQuiet P ops C Q rest (a.put o.dst v)) : wpQuiet P ops C Q (o :: rest) a := by
  unfold wpQuiet
  rw [if_pos hg]
  exact ⟨v, fun w hw => by unfold Oper.quietAt; rw [hr w]; exact ⟨rfl, hc w hw⟩, h⟩
/-- A list's step, at a value given. -/
theorem wpList_val {ops : Array Oper} {rest : List Oper} {op : Oper} {a : Act} {w : World} {Q : Exit → Act → World → Prop} (v : Value) (hg : Region.wanted op (yielded ops a.tmps) = true) (hr : (execOp a.eval op).run Tryd.prog w = .ok (.value v) w) (h : wpList Tryd.prog ops Q rest (a.put op.dst v) w) : wpList Tryd.prog ops Q (op :: rest) a w := by
  unfold wpList
  rw [if_pos hg]
  refine .inl ?_
  unfold Oper.wp
  rw [hr]
  exact h
theorem wpList_key {ops : Array Oper} {rest : List Oper} {op : Oper} {a : Act} {w : World} {Q : Exit → Act → World → Prop} (x : Operand) (z : Nat) (bs : List UInt8) (hk : KeyAt w z bs) (ho : op.op = .load 24 x) (hx : a.eval x = .pointer (some ⟨z, 0, none⟩)) (hg : Region.wanted op (yielded ops a.tmps) = true) (h : wpList Tryd.prog ops Q rest (a.put op.dst (keyV bs)) w) : wpList Tryd.prog ops Q (op :: rest) a w :=
  wpList_val _ hg (run_load ho hx hk.load) h
theorem wpList_neqKey {ops : Array Oper} {rest : List Oper} {op : Oper} {a : Act} {w : World} {Q : Exit → Act → World → Prop} (x y : Operand) (u : TypeId) (bs : List UInt8) (hl : bs.length = 32) (ho : op.op = .binOp .neq 24 x y u) (hx : a.eval x = keyV bs) (hy : a.eval y = keyV bs) (hg : Region.wanted op (yielded ops a.tmps) = true) (h : wpList Tryd.prog ops Q rest (a.put op.dst (.bool false)) w) : wpList Tryd.prog ops Q (op :: rest) a w :=
  wpList_val _ hg (run_neqKey ho hx hy hl w) h
/-- A fresh key's store. -/
theorem wpList_put_key {ops : Array Oper} {rest : List Oper} {op : Oper} {a : Act} {w : World} {Q : Exit → Act → World → Prop} (hgd : op.guard = none) (x y : Operand) (ho : op.op = .store 24 x y) (z : Nat) (hx : a.eval x = .pointer (some ⟨z, 0, none⟩)) (w0 : World) (hw : w = w0.alloc (.cells keyZ 24)) (hz : z = w0.heap.size) (bs : List UInt8) (hl : bs.length = 32) (hy : a.eval y = keyV bs)
    (h : ∀ w', Hid (KeyAt w' z bs) → Below w0.heap.size w0 w' → wpList Tryd.prog ops Q rest (a.put op.dst undef) w') : wpList Tryd.prog ops Q (op :: rest) a w := by
  subst hw hz
  refine wpList_store_blk hgd 24 x y ho w0.heap.size 32 _ _ 24 (by simp [hl]) rfl hx hy (Blk.made w0 _ _) infoKey (all_oneCell_toArray (u8c_one bs)) ?_
  intro w' hk hg
  exact h w' (hide ⟨hk, hl⟩) (below_grownBy (grownBy_trans (World.grownBy_alloc _ _ _) hg) (Nat.le_refl _) (Nat.le_refl _))
end Go.Proofs.YtjmjnecobaoofaaDoor
