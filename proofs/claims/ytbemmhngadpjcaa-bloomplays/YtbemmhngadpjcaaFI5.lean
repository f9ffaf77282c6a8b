/- Open of a filter. -/
import Derived.Test.YtbemmhngadpjcaaFI4
namespace Go.Proofs.Ytbemmhngadpjcaa
set_option linter.unusedVariables false
set_option linter.unusedSimpArgs false
open Go.RowKit

theorem heads (xs : List UInt8) (r1 r2 : Option (List UInt8) × S) (h1 : r1 = mNext xs s0 (mPlace s0) 1) (h2 : r2 = mNext xs r1.2 (mPlace r1.2) 2) :
    ((mLeft xs r2.2 = 8 * leNat (r2.1.getD []) ∧ NewOk (64 * (leNat (r2.1.getD []) : Int)) (leNat (r1.1.getD []))) ↔ OkB xs) ∧ (OkB xs → r2.2 = ⟨3, 0, 0⟩ ∧ leNat (r1.1.getD []) = hF xs ∧ leNat (r2.1.getD []) = cntF xs) ∧ leNat (r1.1.getD []) < 256 ∧ leNat (r2.1.getD []) < 65536 ∧ mLeft xs r2.2 ≤ xs.length := by
  have hl0 : leNat [] = 0 := rfl
  rcases Nat.lt_or_ge xs.length 3 with q | q
  · rcases Nat.eq_zero_or_pos xs.length with z | z
    · have e1 : mNext xs s0 (mPlace s0) 1 = (none, ⟨0, 0, 10⟩) := by
        unfold mNext
        rw [if_neg (by simp [s0]), if_pos (show xs.length < s0.p + 1 from by show xs.length < 0 + 1; omega)]
        rfl
      rw [e1] at h1
      subst h1
      have e2 : mNext xs ⟨0, 0, 10⟩ (mPlace ⟨0, 0, 10⟩) 2 = (none, ⟨0, 0, 10⟩) := by
        unfold mNext
        rw [if_pos (by simp)]
      simp only [e2] at h2
      subst h2
      simp only [Option.getD_none, hl0]
      refine ⟨⟨fun h => absurd h.2 (by unfold NewOk; omega), fun h => absurd h.1 (by omega)⟩, fun h => absurd h.1 (by omega), by omega, by omega, ?_⟩
      simp [mLeft]
    · have e1 : mNext xs s0 (mPlace s0) 1 = (some (xs.take 1), ⟨1, 0, 0⟩) := by
        unfold mNext
        rw [if_neg (by simp [s0]), if_neg (show ¬ xs.length < s0.p + 1 from by show ¬ xs.length < 0 + 1; omega)]
        rfl
      rw [e1] at h1
      subst h1
      have e2 : mNext xs ⟨1, 0, 0⟩ (mPlace ⟨1, 0, 0⟩) 2 = (none, ⟨1, 1, 10⟩) := by
        unfold mNext
        rw [if_neg (by simp), if_pos (show xs.length < 1 + 2 by omega)]
        rfl
      simp only [e2] at h2
      subst h2
      have hb := leNat_lt (xs.take 1) 1 (by simp; omega)
      simp only [Option.getD_none, Option.getD_some, hl0]
      refine ⟨⟨fun h => absurd h.2 (by unfold NewOk; omega), fun h => absurd h.1 (by omega)⟩, fun h => absurd h.1 (by omega), by omega, by omega, ?_⟩
      simp [mLeft]
  · have e1 : mNext xs s0 (mPlace s0) 1 = (some (xs.take 1), ⟨1, 0, 0⟩) := by
      unfold mNext
      rw [if_neg (by simp [s0]), if_neg (show ¬ xs.length < s0.p + 1 from by show ¬ xs.length < 0 + 1; omega)]
      rfl
    rw [e1] at h1
    subst h1
    have e2 : mNext xs ⟨1, 0, 0⟩ (mPlace ⟨1, 0, 0⟩) 2 = (some ((xs.drop 1).take 2), ⟨3, 0, 0⟩) := by
      unfold mNext
      rw [if_neg (by simp), if_neg (show ¬ xs.length < 1 + 2 by omega)]
    simp only [e2] at h2
    subst h2
    have hb1 := leNat_lt (xs.take 1) 1 (by simp; omega)
    have hb2 := leNat_lt ((xs.drop 1).take 2) 2 (by simp; omega)
    simp only [Option.getD_some]
    have hlf : mLeft xs ⟨3, 0, 0⟩ = xs.length - 3 := by simp [mLeft]
    rw [hlf]
    refine ⟨⟨fun ⟨a, b⟩ => ?_, fun h => ?_⟩, fun _ => ⟨trivial, rfl, rfl⟩, by omega, by omega, by omega⟩
    · unfold NewOk at b
      exact ⟨q, by unfold cntF; omega, by unfold cntF; omega, by unfold cntF; omega, by unfold hF; omega, by unfold hF; omega⟩
    · obtain ⟨a, b, c, d, e, f⟩ := h
      unfold cntF at b c d
      unfold hF at e f
      refine ⟨by omega, ?_⟩
      unfold NewOk
      omega
def OpenFC (w : World) (xs : List UInt8) (e : Ending) (w' : World) : Prop :=
  (¬ OkB xs ∧ NoC w 72 e w') ∨ (OkB xs ∧ ∃ z g, e = .returned (.tuple #[.pointer (some ⟨z, 0, none⟩), .int .i64 0]) ∧ FilAt w' z g (hF xs) (wsF xs (cntF xs)) ∧ w.heap.size ≤ z ∧ w.heap.size ≤ g ∧ Below w.heap.size w w')
theorem FilAt.setW {w : World} {z g h : Nat} {ws : List Nat} (f : FilAt w z g h ws) (k x : Nat) (hx : x < 18446744073709551616) : FilAt (w.setCell ⟨g, k, none⟩ (.int .u64 (x : Int))) z g h (ws.set k x) := by
  refine ⟨?_, ?_, f.hh, by rw [List.length_set]; exact f.hn, fun y hy => ?_⟩
  · rw [List.length_set]
    exact f.zb.setOther _ _ f.ne
  · have := f.gb.set k (.int .u64 (x : Int))
    rw [List.map_set]
    simpa [u64c] using this
  · rcases List.mem_or_eq_of_mem_set hy with h | h
    · exact f.ok y h
    · rw [h]; exact hx
theorem DecSt.setOther {w : World} {z : Nat} {b : Nat} {bs : List UInt8} {s : S} (h : DecSt w z (.slice (some ⟨b, 0, none⟩) bs.length bs.length) bs s) (g k : Nat) (v : Value) (h1 : z ≠ g) (h2 : b ≠ g) : DecSt (w.setCell ⟨g, k, none⟩ v) z (.slice (some ⟨b, 0, none⟩) bs.length bs.length) bs s := by
  refine h.grown (row := some g) (grownBy_set w g k v) (fun e => h1 (Option.some.inj e)) (fun b' e => ?_)
  cases e
  exact fun e => h2 (Option.some.inj e)
end Go.Proofs.Ytbemmhngadpjcaa
