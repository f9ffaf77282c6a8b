/- FrameTurned: what its walk needs. -/
import Derived.Test.YtbnedlcldfpfdaaFR14
namespace Go.Proofs.Ytbnedlcldfpfdaa
set_option linter.unusedVariables false
set_option linter.unusedSimpArgs false
open Go.RowKit

def byF (y0 y1 y2 y3 : UInt8) (k : Nat) : UInt8 := ([y0, y1, y2, y3] : List UInt8).getD k 0
/-- What is asked, in memory. -/
def turnC (vb : Value) (at' : Int) (y0 y1 y2 y3 : UInt8) (four : Bool) (vr : Value) : Array Value := #[vb, .int .i64 at', u8c y0, u8c y1, u8c y2, u8c y3, .bool four, vr]
theorem turnC_by {w : World} {z : Nat} {t : TypeId} {vb : Value} {at' : Int} {y0 y1 y2 y3 : UInt8} {four : Bool} {vr : Value} (h : Blk w z (turnC vb at' y0 y1 y2 y3 four vr) t) (k : Nat) (hk : k < 4) : w.cell? ⟨z, 2 + k, none⟩ = some (.int .u8 ((byF y0 y1 y2 y3 k).toNat : Int)) := by
  rw [h.cell]
  match k, hk with
  | 0, _ => rfl
  | 1, _ => rfl
  | 2, _ => rfl
  | 3, _ => rfl
theorem turned_out (xs r : List UInt8) (h : xs.length ≤ 65526) (a k : Nat) (By : Nat → UInt8) (hak : a + k ≤ 10 + xs.length) (ha : a < 10 + xs.length) (hn : anyN By k = true) (hc : k ≤ 1 ∨ (10 ≤ a ∧ k ≤ 4)) : (upk (turnL (packL xs ++ r) a k By)).2.2 ≠ 0 := by
  have hl : (packL xs ++ r).length = 10 + xs.length + r.length := by rw [List.length_append, packL_len]
  have hne := turnL_ne (packL xs ++ r) a k By hn (by omega)
  rcases hc with hc | ⟨h10, hc⟩
  · exact bad_one xs r _ h (turnL_len _ _ _ _) a ha (fun j hj => turnL_out _ _ _ _ _ (by omega)) hne
  · exact bad_body xs r _ h (turnL_len _ _ _ _) a h10 (fun j hj => turnL_out _ _ _ _ _ (by omega)) hne
theorem unpk_turned (xs r : List UInt8) (h : xs.length ≤ 65526) (a k : Nat) (By : Nat → UInt8) (hak : a + k ≤ 10 + xs.length) (ha : a < 10 + xs.length) (hn : anyN By k = true) (hc : k ≤ 1 ∨ (10 ≤ a ∧ k ≤ 4)) : ∃ e, unpk (turnL (packL xs ++ r) a k By) 0 = ([], 0, e) ∧ e ≠ 0 := by
  rw [unpk_zero]; exact upk_err (turned_out xs r h a k By hak ha hn hc)
theorem unpk_whole (xs r : List UInt8) (h : xs.length ≤ 65526) (a k : Nat) (By : Nat → UInt8) (hn : anyN By k = false) : unpk (turnL (packL xs ++ r) a k By) 0 = (xs, 10 + xs.length, 0) := by
  rw [unpk_zero, turnL_same _ _ _ _ hn]; exact upk_pack xs r h
theorem xor_u8 (x y : UInt8) : bits .xor .u8 (x.toNat : Int) (y.toNat : Int) = ((x ^^^ y).toNat : Int) := by
  rw [u8_xor_nat _ _ x.toNat_lt y.toNat_lt, UInt8.toNat_xor]
/-- A place, made out of any number. -/
theorem rem_low (q : Int) (m : Nat) (hm : 0 < m) (h : q.tmod m < 0) : ∃ a : Nat, q.tmod m + m = (a : Int) ∧ a < m := by
  have h1 := Int.lt_tmod_of_pos q (show (0 : Int) < m by omega)
  exact ⟨(q.tmod m + m).toNat, by omega, by omega⟩
theorem rem_high (q : Int) (m : Nat) (hm : 0 < m) (h : ¬ q.tmod m < 0) : ∃ a : Nat, q.tmod m = (a : Int) ∧ a < m := by
  have h1 := Int.tmod_lt_of_pos q (show (0 : Int) < m by omega)
  exact ⟨(q.tmod m).toNat, by omega, by omega⟩
end Go.Proofs.Ytbnedlcldfpfdaa
