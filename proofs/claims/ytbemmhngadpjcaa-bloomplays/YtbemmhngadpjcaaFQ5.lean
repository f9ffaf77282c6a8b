/- BloomPlays: a step's box and a pair's; loads from them. -/
import Derived.Test.YtbemmhngadpjcaaFQ4
import Derived.Test.YtbemmhngadpjcaaFQ2
namespace Go.Proofs.Ytbemmhngadpjcaa
set_option linter.unusedVariables false
set_option linter.unusedSimpArgs false
open Go.RowKit

/-- A step as it lies: kind, which filter, a key, bits, hashes. -/
structure StepAt (SC : Array Value) (K F B H : Int) (kb : List UInt8) : Prop where
  sz : SC.size = 36
  c0 : SC[0]? = some (.int .i64 K)
  c1 : SC[1]? = some (.int .i64 F)
  key : ∀ i (h : i < kb.length), SC[2 + i]? = some (u8c kb[i])
  k32 : kb.length = 32
  cB : SC[34]? = some (.int .i64 B)
  cH : SC[35]? = some (.int .i64 H)
structure DS (w : World) (b3 b6 : Nat) (SC : Array Value) (vf vr : Value) : Prop where
  st : Blk w b3 SC 38
  pr : Blk w b6 #[vf, vr] 30
theorem DS.keep {w w' : World} {b3 b6 : Nat} {SC : Array Value} {vf vr : Value} (d : DS w b3 b6 SC vf vr) (k : KeepT w w') : DS w' b3 b6 SC vf vr :=
  ⟨k.blk _ _ _ (.inr (.inl rfl)) d.st, k.blk _ _ _ (.inl rfl) d.pr⟩
theorem key_range {w : World} {b3 : Nat} {SC : Array Value} {K F B H : Int} {kb : List UInt8} (hk : Blk w b3 SC 38) (s : StepAt SC K F B H kb) : w.rangeAt b3 2 (kb.map u8c) := fun j v hj => by
  have hjl : j < kb.length := by
    rcases Nat.lt_or_ge j kb.length with h | h
    · exact h
    · rw [List.getElem?_eq_none (by simpa using h)] at hj; cases hj
  rw [hk.cell, s.key j hjl, ← hj]
  simp [List.getElem?_eq_getElem hjl]
theorem infoStep : (Try.prog.info? 38).map (·.size) = some 36 := by kernel_rfl
theorem ld_key {w : World} {b3 : Nat} {SC : Array Value} {K F B H : Int} {kb : List UInt8} (hk : Blk w b3 SC 38) (s : StepAt SC K F B H kb) : (Instr.loadAt 36 (.pointer (some ⟨b3, 2, none⟩))).run Try.prog w = .ok (.agg (kb.map u8c).toArray) w :=
  run_loadAt_mid (P := Try.prog) w b3 2 36 (kb.map u8c) _ (key_range hk s) Try.underlying36 rfl (by rw [List.length_map, s.k32]; exact infoKey)
theorem ld_pF {w : World} {b o : Nat} {v : Value} (hc : w.cell? ⟨b, o, none⟩ = some v) : (Instr.loadAt 27 (.pointer (some ⟨b, o, none⟩))).run Try.prog w = .ok v w := by
  have hu := Try.underlying27
  simp [go_sem, hu, hc]
theorem ld_pR {w : World} {b o : Nat} {v : Value} (hc : w.cell? ⟨b, o, none⟩ = some v) : (Instr.loadAt 28 (.pointer (some ⟨b, o, none⟩))).run Try.prog w = .ok v w := by
  have hu := Try.underlying28
  simp [go_sem, hu, hc]
theorem run_fldP {op : Oper} {ev : Operand → Value} {x : Operand} {b : Nat} {i : Nat} (hi : i < 2) (ho : op.op = .fieldAddr 30 x i) (hx : ev x = .pointer (some ⟨b, 0, none⟩)) (w : World) : (execOp ev op).run Try.prog w = .ok (.value (.pointer (some ⟨b, i, none⟩))) w := by
  rcases (show i = 0 ∨ i = 1 by omega) with rfl | rfl
  · simp only [execOp, ho, hx]; kernel_rfl
  · simp only [execOp, ho, hx]; kernel_rfl
theorem run_fldK {op : Oper} {ev : Operand → Value} {x : Operand} {b : Nat} (ho : op.op = .fieldAddr 38 x 2) (hx : ev x = .pointer (some ⟨b, 0, none⟩)) (w : World) : (execOp ev op).run Try.prog w = .ok (.value (.pointer (some ⟨b, 2, none⟩))) w := by
  simp only [execOp, ho, hx]; kernel_rfl
theorem run_eqlB {op : Oper} {ev : Operand → Value} {x y : Operand} {u : TypeId} {r : Bool} (ho : op.op = .binOp .eql 4 x y u) (hx : ev x = .bool r) (hy : ev y = .bool r) (w : World) : (execOp ev op).run Try.prog w = .ok (.value (.bool true)) w := by
  have := Try.underlying4
  simp [execOp, ho, hx, hy, go_sem, this]
theorem run_neSame {op : Oper} {ev : Operand → Value} {x y : Operand} {u : TypeId} {s : ByteArray} (ho : op.op = .binOp .neq 9 x y u) (hx : ev x = .string s) (hy : ev y = .string s) (w : World) : (execOp ev op).run Try.prog w = .ok (.value (.bool false)) w := by
  simp only [execOp, ho, hx, hy]
  simp [go_sem]
theorem and_one (F : Int) : bits .and .i64 F 1 = 0 ∨ bits .and .i64 F 1 = 1 := by
  have h1 : (BitVec.ofInt 64 1).toNat = 2 ^ 1 - 1 := by decide
  have key : (BitVec.ofInt 64 F &&& BitVec.ofInt 64 1).toNat = (F % ((2 ^ 64 : Nat) : Int)).toNat % 2 ^ 1 := by
    rw [BitVec.toNat_and, BitVec.toNat_ofInt, h1, Nat.and_two_pow_sub_one_eq_mod]
  have e : bits .and .i64 F 1 = F % 2 := by
    show IntKind.i64.wrap ((BitVec.ofInt 64 F &&& BitVec.ofInt 64 1).toNat : Nat) = F % 2
    rw [key, IntKind.wrap_i64]
    omega
  rw [e]
  omega
end Go.Proofs.Ytbemmhngadpjcaa
