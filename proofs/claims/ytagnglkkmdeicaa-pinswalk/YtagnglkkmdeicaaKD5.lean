/- Keys: loaded out of a row; two results. -/
import Derived.Test.YtagnglkkmdeicaaKD3
import Derived.StillTailTactics
namespace Go.Proofs.Ytagnglkkmdeicaa
set_option linter.unusedVariables false
set_option linter.unusedSimpArgs false
open Go.RowKit

theorem results_cell2 {fn : Func} {p q : Tmp} {ty : TypeId} (h : fn.results = #[.cell p ty, .tmp q]) (tmps : Array Value) (w : World) (a : Addr) (ha : tmps.getD p undef = .pointer (some a)) (v : Value) (hl : (loadVar ty a).run Try.prog w = .ok v w) :
    (results fn tmps).run Try.prog w = .ok (.tuple #[v, tmps.getD q undef]) w := by
  simp only [results, h]
  have ha' : tmps[p]?.getD undef = .pointer (some a) := by simpa using ha
  simp [Sem.run_bind, Result.andThen, ha', asAddr, hl]
theorem loadAt_key {w : World} {z o : Nat} {bs : List UInt8} (hl : bs.length = 32) (hc : w.rangeAt z o (bs.map u8c)) : (Instr.loadAt 30 (.pointer (some ⟨z, o, none⟩))).run Try.prog w = .ok (keyV bs) w := by
  have := run_loadVar_mid (P := Try.prog) w z o 30 (bs.map u8c) _ hc Try.underlying30 rfl (by rw [List.length_map, hl]; exact infoKey)
  simp only [Instr.loadAt, Instr.sureAddr, Sem.run_bind, Sem.run_pure, Result.andThen_ok]
  exact this
theorem wpList_load_keyAt {ops : Array Oper} {rest : List Oper} {op : Oper} {a : Act} {w : World} {Q : Exit → Act → World → Prop} (x : Operand)
    (z o : Nat) (bs : List UInt8) (hl : bs.length = 32) (hc : w.rangeAt z o (bs.map u8c)) (ho : op.op = .load 30 x) (hx : a.eval x = .pointer (some ⟨z, o, none⟩)) (hg : Region.wanted op (yielded ops a.tmps) = true)
    (h : wpList Try.prog ops Q rest (a.put op.dst (keyV bs)) w) : wpList Try.prog ops Q (op :: rest) a w :=
  wpList_val _ hg (run_load ho hx (loadAt_key hl hc)) h
end Go.Proofs.Ytagnglkkmdeicaa
