/- What is asked, in memory. -/
import Derived.Test.YtjmjnecobaoofaaDoorKD4
namespace Go.Proofs.YtjmjnecobaoofaaDoor
set_option linter.unusedVariables false
set_option linter.unusedSimpArgs false
open Go.RowKit

theorem less_cmp : ∀ x y : List UInt8, Op.bytesLess x y = (cmpK x y == -1)
  | [], [] => rfl
  | [], _ :: _ => rfl
  | _ :: _, [] => rfl
  | a :: xs, b :: ys => by
    have ha : a < b ↔ a.toNat < b.toNat := UInt8.lt_iff_toNat_lt
    have hb : b < a ↔ b.toNat < a.toNat := UInt8.lt_iff_toNat_lt
    rw [cmpK_cons, Op.bytesLess, less_cmp xs ys]
    by_cases h1 : a < b
    · simp [h1]
    · by_cases h2 : b < a
      · have : ¬ a = b := fun e => by rw [e] at h2; exact UInt8.lt_irrefl b h2
        simp [h1, h2, this]
      · have : a = b := UInt8.toNat_inj.1 (by rw [ha] at h1; rw [hb] at h2; omega)
        subst this
        simp [h1]
theorem less_hex (a b : List UInt8) : Op.bytesLess (hexOf a) (hexOf b) = (cmpK a b == -1) := by rw [less_cmp, cmpK_hex]
theorem eq_hex (a b : List UInt8) : (hexOf a == hexOf b) = (cmpK a b == 0) := by
  rw [← cmpK_hex]
  by_cases h : hexOf a = hexOf b
  · rw [h, cmpK_self, beq_self_eq_true]; rfl
  · have : cmpK (hexOf a) (hexOf b) ≠ 0 := fun e => h (cmpK_zero _ _ e)
    rw [beq_eq_false_iff_ne.2 h, beq_eq_false_iff_ne.2 this]
def askL (vb : Value) (t a b : List UInt8) : List Value := vb :: .string ⟨t.toArray⟩ :: (a.map u8c ++ b.map u8c)
/-- What is asked, in memory. -/
structure AskAt (w : World) (z : Nat) (vb : Value) (t a b : List UInt8) : Prop where
  blk : Blk w z (askL vb t a b).toArray 26
  al : a.length = 32
  bl : b.length = 32
theorem AskAt.below {w w' : World} {z : Nat} {vb : Value} {t a b : List UInt8} (h : AskAt w z vb t a b) (hb : Below w.heap.size w w') : AskAt w' z vb t a b := ⟨h.blk.below hb h.blk.lt, h.al, h.bl⟩
theorem AskAt.text {w : World} {z : Nat} {vb : Value} {t a b : List UInt8} (h : AskAt w z vb t a b) : w.cell? ⟨z, 1, none⟩ = some (.string ⟨t.toArray⟩) := by rw [h.blk.cell]; rfl
theorem AskAt.bytes {w : World} {z : Nat} {vb : Value} {t a b : List UInt8} (h : AskAt w z vb t a b) : w.cell? ⟨z, 0, none⟩ = some vb := by rw [h.blk.cell]; rfl
theorem AskAt.ra {w : World} {z : Nat} {vb : Value} {t a b : List UInt8} (h : AskAt w z vb t a b) : w.rangeAt z 2 (a.map u8c) := fun j v hj => by
  rw [h.blk.cell, ← hj]
  have hjl : j < (a.map u8c).length := (List.getElem?_eq_some_iff.1 hj).1
  unfold askL
  rw [List.getElem?_toArray, show 2 + j = j + 1 + 1 by omega, List.getElem?_cons_succ, List.getElem?_cons_succ, List.getElem?_append_left hjl]
theorem AskAt.rb {w : World} {z : Nat} {vb : Value} {t a b : List UInt8} (h : AskAt w z vb t a b) : w.rangeAt z 34 (b.map u8c) := fun j v hj => by
  rw [h.blk.cell, ← hj]
  have hl : (a.map u8c).length = 32 := by rw [List.length_map, h.al]
  unfold askL
  rw [List.getElem?_toArray, show 34 + j = (32 + j) + 1 + 1 by omega, List.getElem?_cons_succ, List.getElem?_cons_succ, List.getElem?_append_right (by omega), hl, show 32 + j - 32 = j by omega]
theorem loadAt_key {w : World} {z o : Nat} {bs : List UInt8} (hl : bs.length = 32) (hc : w.rangeAt z o (bs.map u8c)) : (Instr.loadAt 24 (.pointer (some ⟨z, o, none⟩))).run Tryd.prog w = .ok (keyV bs) w := by
  have := run_loadVar_mid (P := Tryd.prog) w z o 24 (bs.map u8c) _ hc Tryd.underlying24 rfl (by rw [List.length_map, hl]; exact infoKey)
  simp only [Instr.loadAt, Instr.sureAddr, Sem.run_bind, Sem.run_pure, Result.andThen_ok]
  exact this
theorem wpList_load_keyAt {ops : Array Oper} {rest : List Oper} {op : Oper} {a : Act} {w : World} {Q : Exit → Act → World → Prop} (x : Operand)
    (z o : Nat) (bs : List UInt8) (hl : bs.length = 32) (hc : w.rangeAt z o (bs.map u8c)) (ho : op.op = .load 24 x) (hx : a.eval x = .pointer (some ⟨z, o, none⟩)) (hg : Region.wanted op (yielded ops a.tmps) = true)
    (h : wpList Tryd.prog ops Q rest (a.put op.dst (keyV bs)) w) : wpList Tryd.prog ops Q (op :: rest) a w :=
  wpList_val _ hg (run_load ho hx (loadAt_key hl hc)) h
theorem loadAt_str {w : World} {z o : Nat} {t : ByteArray} (hc : w.cell? ⟨z, o, none⟩ = some (.string t)) : (Instr.loadAt 9 (.pointer (some ⟨z, o, none⟩))).run Tryd.prog w = .ok (.string t) w := by
  have := Tryd.underlying9
  simp [Instr.loadAt, Instr.sureAddr, go_sem, hc, this]
def askV (vb : Value) (t a b : List UInt8) : Value := .agg (askL vb t a b).toArray
end Go.Proofs.YtjmjnecobaoofaaDoor
