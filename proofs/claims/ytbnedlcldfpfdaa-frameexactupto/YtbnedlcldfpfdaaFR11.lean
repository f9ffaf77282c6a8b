/- A record is read: what is answered (pure), arrays held against one another. -/
import Derived.Test.YtbnedlcldfpfdaaFR10
import Derived.Stop.BytesEq
namespace Go.Proofs.Ytbnedlcldfpfdaa
set_option linter.unusedVariables false
set_option linter.unusedSimpArgs false
open Go.RowKit

theorem guard6 : Try.prog.eqGuardType Try.prog.depth 58 = false := by kernel_rfl
theorem guard4 : Try.prog.eqGuardType Try.prog.depth 47 = false := by kernel_rfl
theorem szU8 (w : World) : (sizeOf 5).run Try.prog w = .ok 1 w := by kernel_rfl
theorem arrGuard6 (op : BinOp) (xs ys : List UInt8) (x y : Operand) (w : World) : (eqGuard op 58 x y (arrV xs) (arrV ys)).run Try.prog w = .ok () w := run_eqGuard_agg (P := Try.prog) w op 58 x y _ _ guard6
theorem arrGuard4 (op : BinOp) (xs ys : List UInt8) (x y : Operand) (w : World) : (eqGuard op 47 x y (arrV xs) (arrV ys)).run Try.prog w = .ok () w := run_eqGuard_agg (P := Try.prog) w op 47 x y _ _ guard4
theorem equal6 (xs ys : List UInt8) (h1 : xs.length = 6) (h2 : ys.length = 6) (w : World) : (Op.equalIn 10000 58 (.agg (xs.map u8c).toArray) (.agg (ys.map u8c).toArray)).run Try.prog w = .ok (xs == ys) w :=
  run_equalIn_bytes (P := Try.prog) w 9998 58 5 6 Try.underlying58 Try.underlying5 szU8 xs ys h1 h2
theorem arrNeq6 (xs ys : List UInt8) (h1 : xs.length = 6) (h2 : ys.length = 6) (w : World) : (binOp .neq 58 (arrV xs) (arrV ys)).run Try.prog w = .ok (.bool (!(xs == ys))) w := by
  unfold arrV
  rw [run_neq_struct, equal6 xs ys h1 h2]; rfl
theorem equal4 (xs ys : List UInt8) (h1 : xs.length = 4) (h2 : ys.length = 4) (w : World) : (Op.equalIn 10000 47 (.agg (xs.map u8c).toArray) (.agg (ys.map u8c).toArray)).run Try.prog w = .ok (xs == ys) w :=
  run_equalIn_bytes (P := Try.prog) w 9998 47 5 4 Try.underlying47 Try.underlying5 szU8 xs ys h1 h2
theorem arrNeq4 (xs ys : List UInt8) (h1 : xs.length = 4) (h2 : ys.length = 4) (w : World) : (binOp .neq 47 (arrV xs) (arrV ys)).run Try.prog w = .ok (.bool (!(xs == ys))) w := by
  unfold arrV
  rw [run_neq_struct, equal4 xs ys h1 h2]; rfl
theorem i64_or_nat (a b : Nat) (ha : a < 9223372036854775808) (hb : b < 9223372036854775808) : bits .or .i64 (a : Int) (b : Int) = ((a ||| b : Nat) : Int) := by
  have hx : a ||| b < 2 ^ 63 := Nat.or_lt_two_pow (by omega) (by omega)
  show IntKind.i64.wrap ((BitVec.ofInt 64 (a : Int) ||| BitVec.ofInt 64 (b : Int)).toNat : Int) = _
  rw [BitVec.toNat_or, ofInt_u64 a (by omega), ofInt_u64 b (by omega), IntKind.wrap_i64]
  omega
theorem or256 (a b : Nat) (ha : a < 256) (hb : b < 256) : bits .or .i64 (a : Int) ((b : Int) * 256) = ((a + 256 * b : Nat) : Int) := by
  have e : (b : Int) * 256 = ((256 * b : Nat) : Int) := by omega
  rw [e, i64_or_nat a (256 * b) (by omega) (by omega), Nat.or_comm, nat_join 8 (256 * b) a (by omega) ha, Nat.add_comm]
/-- How many bytes the body has, as the head says. -/
def lenN (b : List UInt8) : Nat := (b[1]?.getD 0).toNat + 256 * (b[2]?.getD 0).toNat
/-- What is answered of the bytes from a place on: the body, the size, the error. -/
def upk (b : List UInt8) : List UInt8 × Nat × Nat :=
  if b.length < 10 then ([], 0, 62)
  else if 65526 < lenN b ∨ b.take 6 ≠ openL (lenN b) then ([], 0, 63)
  else if b.length < 10 + lenN b then ([], 0, 62)
  else if (b.drop 6).take 4 ≠ sealL (b.take 6) ((b.drop 10).take (lenN b)) then ([], 0, 64)
  else ((b.drop 10).take (lenN b), 10 + lenN b, 0)
/-- And of a place. -/
def unpk (b : List UInt8) (i : Int) : List UInt8 × Nat × Nat := if i < 0 ∨ (b.length : Int) < i then ([], 0, 61) else upk (b.drop i.toNat)
def UnpackC (w : World) (r : List UInt8 × Nat × Nat) (e : Ending) (w' : World) : Prop := ∃ v, e = .returned (.tuple #[v, .int .i64 (r.2.1 : Int), .int .i64 (r.2.2 : Int)]) ∧ OwnsB w' w.heap.size v r.1 ∧ Below w.heap.size w w'
theorem take6 (b : List UInt8) (h : 10 ≤ b.length) : ∃ b0 b1 b2 b3 b4 b5 r, b = b0 :: b1 :: b2 :: b3 :: b4 :: b5 :: r := by
  match b, h with
  | b0 :: b1 :: b2 :: b3 :: b4 :: b5 :: r, _ => exact ⟨b0, b1, b2, b3, b4, b5, r, rfl⟩
theorem lenN_lt (b : List UInt8) : lenN b ≤ 65535 := by
  have h1 := (b[1]?.getD 0).toNat_lt
  have h2 := (b[2]?.getD 0).toNat_lt
  unfold lenN; omega
end Go.Proofs.Ytbnedlcldfpfdaa
